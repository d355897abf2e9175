/- What a reading of a slice of words gives the walks. -/
import Derived.Test.YtmiojplbcjhggaaDoorPassX
import Derived.Test.YtmiojplbcjhggaaDoorSameZ
namespace Go.Proofs.YtmiojplbcjhggaaDoor
open Go Go.RowKit Go.ChangeShapes Go.WideShapes Go.ChangeAt Go.Joins Go.Deep

theorem Tryd.cells53 : Tryd.prog.cellsOf 53 = 16 := by kernel_rfl
theorem Tryd.cells55 : Tryd.prog.cellsOf 55 = 18 := by kernel_rfl
theorem Tryd.cells9' : Tryd.prog.cellsOf 9 = 1 := by kernel_rfl
theorem Tryd.cells3' : Tryd.prog.cellsOf 3 = 1 := by kernel_rfl
theorem Tryd.cells5' : Tryd.prog.cellsOf 5 = 1 := by kernel_rfl
theorem Tryd.bytes55 : Tryd.prog.bytesOf 55 = 40 := by kernel_rfl
theorem bytes_of : ∀ (cs : List Value), (∀ i, i < cs.length → ∃ b : UInt8, cs[i]? = some (.int .u8 b.toNat)) → ∃ D : List UInt8, cs = Lib.byteCells D ∧ D.length = cs.length
  | [], _ => ⟨[], rfl, rfl⟩
  | c :: cs, h => by
    obtain ⟨D, hD, hl⟩ := bytes_of cs (fun i hi => by simpa using h (i + 1) (by simp; omega))
    obtain ⟨b, hb⟩ := h 0 (by simp)
    simp only [List.getElem?_cons_zero, Option.some.injEq] at hb
    exact ⟨b :: D, by rw [hb, hD]; rfl, by simp [hl]⟩
theorem u8_of {n : Int} (h : (Lit.int .u8 n).wf = true) : ∃ b : UInt8, n = b.toNat := by
  simp [Lit.wf, IntKind.min, IntKind.max, IntKind.signed, IntKind.bits] at h
  refine ⟨UInt8.ofNat n.toNat, ?_⟩
  rw [UInt8.toNat_ofNat']
  omega
theorem i64_of {n : Int} (h : (Lit.int .i64 n).wf = true) : -9223372036854775808 ≤ n ∧ n ≤ 9223372036854775807 := by
  simp [Lit.wf, IntKind.min, IntKind.max, IntKind.signed, IntKind.bits] at h
  omega
section
variable {H : Type} {enc : TypeId × Value → H} {W : World}
set_option maxRecDepth 100000 in
theorem open_id {fuel : Nat} {cs : List Value} {x : DataW H × List MemPlace} (h : DataW.trod enc Tryd.prog W 0 (fun _ => true) true fuel 53 cs = some x) : ∃ D : List UInt8, cs = Lib.byteCells D ∧ D.length = 16 := by
  obtain ⟨xs, m, _, _, hl, hxl, hf⟩ := DataW.trod_array Tryd.underlying53 h
  rw [Tryd.cells53] at hl
  obtain ⟨D, hD, hDl⟩ := bytes_of cs (fun i hi => by
    have h1 := hf i (by omega)
    rw [Tryd.cells5', Nat.mul_one, List.getElem?_eq_getElem (by omega)] at h1
    obtain ⟨n, e, _, hw⟩ := DataW.trod_int (k := .u8) Tryd.underlying5 h1
    obtain ⟨b, rfl⟩ := u8_of hw
    refine ⟨b, ?_⟩
    have h2 : (List.take 1 (List.drop i cs))[0]? = some (.int .u8 b.toNat) := by rw [e]; rfl
    rw [List.getElem?_take_of_lt (by omega), List.getElem?_drop] at h2
    simpa using h2)
  exact ⟨D, hD, by omega⟩
theorem word_sized {d0 d1 d2 : DataW H} (h : ((DataW.agg [d0, d1, d2]).weights Tryd.prog 55).all (· ≤ reachBytes) = true) : (d1.weights Tryd.prog 9).all (· ≤ reachBytes) = true := by
  rw [List.all_eq_true] at h
  simp only [DataW.weights, Tryd.underlying55, DataW.weightsEach, List.map_cons, List.map_nil, List.append_nil] at h
  exact List.all_eq_true.2 fun n hn => h n (List.mem_append_right _ (List.mem_append_left _ hn))
theorem one_of {l : List Value} (h : l.length = 1) : ∃ c, l = [c] := by
  match l, h with
  | [c], _ => exact ⟨c, rfl⟩
set_option maxRecDepth 100000 in
theorem open_word {fuel : Nat} {cs : List Value} {x : DataW H × List MemPlace} (h : DataW.trod enc Tryd.prog W 0 (fun _ => true) true fuel 55 cs = some x) (hsz : (x.1.weights Tryd.prog 55).all (· ≤ reachBytes) = true) :
    ∃ (S : List UInt8) (T : ByteArray) (R : Int), cs = wdc S T R ∧ S.length = 16 ∧ T.size ≤ 140737488355328 ∧ -9223372036854775808 ≤ R ∧ R < 9223372036854775808 := by
  have hrb : reachBytes ≤ 140737488355328 := by decide
  obtain ⟨xs, k, _, hx, hl, hxl, hf⟩ := DataW.trod_struct Tryd.underlying55 h
  rw [Tryd.cells55] at hl
  obtain ⟨x0, x1, x2, rfl⟩ : ∃ x0 x1 x2, xs = [x0, x1, x2] := by
    match xs, (show xs.length = 3 from hxl) with
    | [a, b, c], _ => exact ⟨a, b, c, rfl⟩
  have f0 : DataW.trod enc Tryd.prog W 0 (fun _ => true) true k 53 ((cs.drop 0).take 16) = some x0 := by
    have := hf 0 _ rfl
    change DataW.trod enc Tryd.prog W 0 (fun _ => true) true k 53 ((cs.drop 0).take (Tryd.prog.cellsOf 53)) = some x0 at this
    rw [Tryd.cells53] at this
    exact this
  have f1 : DataW.trod enc Tryd.prog W 0 (fun _ => true) true k 9 ((cs.drop 16).take 1) = some x1 := by
    have := hf 1 _ rfl
    change DataW.trod enc Tryd.prog W 0 (fun _ => true) true k 9 ((cs.drop 16).take (Tryd.prog.cellsOf 9)) = some x1 at this
    rw [Tryd.cells9'] at this
    exact this
  have f2 : DataW.trod enc Tryd.prog W 0 (fun _ => true) true k 3 ((cs.drop 17).take 1) = some x2 := by
    have := hf 2 _ rfl
    change DataW.trod enc Tryd.prog W 0 (fun _ => true) true k 3 ((cs.drop 17).take (Tryd.prog.cellsOf 3)) = some x2 at this
    rw [Tryd.cells3'] at this
    exact this
  have hd : x.1 = DataW.agg [x0.1, x1.1, x2.1] := congrArg Prod.fst hx
  rw [hd] at hsz
  have hs1 := word_sized (d0 := x0.1) (d1 := x1.1) (d2 := x2.1) hsz
  obtain ⟨D, hD, hDl⟩ := open_id f0
  obtain ⟨s, e1, g1, _⟩ := DataW.trod_string Tryd.underlying9 f1
  obtain ⟨z, e2, g2, w2⟩ := DataW.trod_int (k := .i64) Tryd.underlying3 f2
  have bz := i64_of w2
  have hst : s.size ≤ 140737488355328 := by
    rw [g1] at hs1
    have h1 := of_decide_eq_true (List.all_eq_true.1 hs1 s.data.toList.length (by simp [DataW.weights]))
    rw [Array.length_toList] at h1
    have : s.data.size = s.size := rfl
    omega
  refine ⟨D, s, z, ?_, hDl, hst, bz.1, by omega⟩
  unfold wdc
  rw [← hD]
  have ec : cs = cs.take 16 ++ ((cs.drop 16).take 1 ++ (cs.drop 17).take 1) := by
    have h1 : cs = cs.take 16 ++ cs.drop 16 := (List.take_append_drop 16 cs).symm
    have h2 : cs.drop 16 = (cs.drop 16).take 1 ++ (cs.drop 16).drop 1 := (List.take_append_drop 1 _).symm
    have h3 : (cs.drop 16).drop 1 = (cs.drop 17).take 1 := by
      rw [List.drop_drop, List.take_of_length_le (by rw [List.length_drop]; omega)]
    rw [← h3, ← h2]
    exact h1
  rw [List.drop_zero]
  rw [e1, e2] at ec
  exact ec
theorem words_of {fuel : Nat} {v : Value} {y : DataW H × List MemPlace} (h : DataW.trod enc Tryd.prog W 0 (fun _ => true) true fuel 51 [v] = some y) (hsz : (y.1.weights Tryd.prog 51).all (· ≤ reachBytes) = true) :
    ∃ (a : Option Addr) (b o n c : Nat) (S : Nat → List UInt8) (T : Nat → ByteArray) (R : Nat → Int), v = .slice a n c ∧ n ≤ 140737488355328 ∧ RowsWd W a b o n S T R := by
  obtain ⟨a, b, o, n, c, hv, hnc, hn, ha, hel⟩ := open_rows Tryd.underlying51 Tryd.cells55 (by decide) (by rw [Tryd.bytes55]; decide) h hsz
  have hex : ∀ i, i < n → ∃ q : List UInt8 × ByteArray × Int, q.1.length = 16 ∧ q.2.1.size ≤ 140737488355328 ∧ -9223372036854775808 ≤ q.2.2 ∧ q.2.2 < 9223372036854775808 ∧ W.rangeAt b (o + i * 18) (wdc q.1 q.2.1 q.2.2) := by
    intro i hi
    obtain ⟨cs, m, x, hcl, hcell, ht, hs⟩ := hel i hi
    obtain ⟨S, T, R, hcs, h1, h2, h3, h4⟩ := open_word ht hs
    refine ⟨(S, T, R), h1, h2, h3, h4, fun j u hu => ?_⟩
    rw [← hcs] at hu
    have hj : j < 18 := by have := (List.getElem?_eq_some_iff.1 hu).1; omega
    have := hcell j hj
    rw [← Nat.add_assoc] at this
    rw [this]
    exact hu
  obtain ⟨f, hf⟩ := choose_lt hex
  exact ⟨a, b, o, n, c, fun i => (f i).1, fun i => (f i).2.1, fun i => (f i).2.2, hv, hn, ha, fun i hi => hf i hi⟩
end
end Go.Proofs.YtmiojplbcjhggaaDoor
