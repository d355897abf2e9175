/- What a reading of the argument gives the walks: a life, its turns. -/
import Derived.Test.YtlgjmhemgfjgnaaGreatVP
import Derived.Test.YtlgjmhemgfjgnaaGreatChecked
import Derived.Test.YtlgjmhemgfjgnaaGreatRows
import Derived.ProofKit
import Derived.OpenShut
import Derived.SizedLaws
import Derived.Lib.LaidTab
import Derived.Stop.LaidErr
import Derived.LaidMore
import Derived.MakeChecks
import Derived.ChangeOld
import Derived.Handed
import Derived.Lib.SmallJoins
import Derived.Deep.Matrix
import Derived.Deep.SlicePairs
import Derived.Deep.Strs
namespace Go.Proofs.YtlgjmhemgfjgnaaGreat
open Go Go.RowKit Go.ChangeShapes Go.WideShapes Go.ChangeAt Go.Joins Go.Deep

theorem Tryz.cells69 : Tryz.prog.cellsOf 69 = 16 := by kernel_rfl
theorem Tryz.cells5 : Tryz.prog.cellsOf 5 = 1 := by kernel_rfl
theorem Tryz.cells71 : Tryz.prog.cellsOf 71 = 20 := by kernel_rfl
theorem Tryz.cells57 : Tryz.prog.cellsOf 57 = 1 := by kernel_rfl
theorem Tryz.cells67 : Tryz.prog.cellsOf 67 = 1 := by kernel_rfl
theorem Tryz.cells2 : Tryz.prog.cellsOf 2 = 1 := by kernel_rfl
theorem Tryz.cells3 : Tryz.prog.cellsOf 3 = 1 := by kernel_rfl
theorem Tryz.bytes71 : Tryz.prog.bytesOf 71 = 64 := by kernel_rfl
theorem own5 : ownKnob Tryz.prog.godebug = none := by kernel_rfl
theorem laidOut5 : laidOutB Tryz.prog = true := by kernel_rfl
theorem bytes_of : ∀ (cs : List Value), (∀ i, i < cs.length → ∃ b : UInt8, cs[i]? = some (.int .u8 b.toNat)) → ∃ D : List UInt8, cs = Lib.byteCells D ∧ D.length = cs.length
  | [], _ => ⟨[], rfl, rfl⟩
  | c :: cs, h => by
    obtain ⟨D, hD, hl⟩ := bytes_of cs (fun i hi => by simpa using h (i + 1) (by simp; omega))
    obtain ⟨b, hb⟩ := h 0 (by simp)
    simp only [List.getElem?_cons_zero, Option.some.injEq] at hb
    exact ⟨b :: D, by rw [hb, hD]; rfl, by simp [hl]⟩
theorem u8_of {n : Int} (h : (Lit.int .u8 n).wf = true) : ∃ b : UInt8, n = b.toNat := by
  simp [Lit.wf, IntKind.min, IntKind.max, IntKind.signed, IntKind.bits] at h
  refine ⟨UInt8.ofNat n.toNat, ?_⟩
  rw [UInt8.toNat_ofNat']
  omega
theorem u64_of {n : Int} (h : (Lit.int .u64 n).wf = true) : ∃ b : Nat, n = b ∧ b < 18446744073709551616 := by
  simp [Lit.wf, IntKind.min, IntKind.max, IntKind.signed, IntKind.bits] at h
  exact ⟨n.toNat, by omega, by omega⟩
theorem i64_of {n : Int} (h : (Lit.int .i64 n).wf = true) : -9223372036854775808 ≤ n ∧ n ≤ 9223372036854775807 := by
  simp [Lit.wf, IntKind.min, IntKind.max, IntKind.signed, IntKind.bits] at h
  omega
theorem add_none {b o i : Nat} : (⟨b, o, none⟩ : Addr).add i = ⟨b, o + i, none⟩ := Addr.add_lit ..
theorem weightsAll_mem {H : Type} {P : Program} {e : TypeId} {d : DataW H} : ∀ {l : List (DataW H)}, d ∈ l → ∀ n ∈ d.weights P e, n ∈ DataW.weightsAll P e l
  | x :: r, hd, n, hn => by
    simp only [DataW.weightsAll, List.mem_append]
    rcases List.mem_cons.1 hd with rfl | h
    · exact .inl hn
    · exact .inr (weightsAll_mem h n hn)
theorem all_slice {H : Type} {P : Program} {t e : TypeId} {elems spare : List (DataW H)} (hu : P.underlying t = some (.slice e)) (h : ((DataW.slice elems spare).weights P t).all (· ≤ reachBytes) = true) :
    (elems.length + spare.length) * P.bytesOf e ≤ reachBytes ∧ ∀ d ∈ elems, (d.weights P e).all (· ≤ reachBytes) = true := by
  simp only [DataW.weights, hu] at h
  rw [List.all_eq_true] at h
  refine ⟨of_decide_eq_true (h _ (List.mem_cons_self ..)), fun d hd => List.all_eq_true.2 fun n hn => h n (List.mem_cons_of_mem _ (List.mem_append_left _ (weightsAll_mem hd n hn)))⟩

section
variable {H : Type} {enc : TypeId × Value → H} {W : World}
set_option maxRecDepth 100000 in
/-- A slice of structs, its elements' cells. -/
theorem open_rows {t e : TypeId} {k : Nat} (ht : Tryz.prog.underlying t = some (.slice e)) (hk : Tryz.prog.cellsOf e = k) (hk0 : 0 < k) (hby : 0 < Tryz.prog.bytesOf e) {fuel : Nat} {v : Value} {y : DataW H × List MemPlace}
    (h : DataW.trod enc Tryz.prog W 0 (fun _ => true) true fuel t [v] = some y) (hsz : (y.1.weights Tryz.prog t).all (· ≤ reachBytes) = true) :
    ∃ (a : Option Addr) (b o n c : Nat), v = .slice a n c ∧ n ≤ c ∧ n ≤ 140737488355328 ∧ (0 < n → a = some ⟨b, o, none⟩ ∧ b < W.heap.size) ∧
      ∀ i, i < n → ∃ (cs : List Value) (m : Nat) (x : DataW H × List MemPlace), cs.length = k ∧ (∀ j, j < k → W.cell? ⟨b, o + (i * k + j), none⟩ = cs[j]?) ∧ DataW.trod enc Tryz.prog W 0 (fun _ => true) true m e cs = some x ∧ (x.1.weights Tryz.prog e).all (· ≤ reachBytes) = true := by
  rcases DataW.trod_slice ht h with ⟨hcs, _⟩ | ⟨a, len, cap, elems, rest, n2, _, hcs, hx, _, hl', _, hlen, hel, _, _⟩
  · simp only [List.cons.injEq, and_true] at hcs
    subst hcs
    exact ⟨none, 0, 0, 0, 0, rfl, Nat.le_refl _, by omega, fun h => by omega, fun i h => by omega⟩
  · simp only [List.cons.injEq, and_true] at hcs
    subst hcs
    rw [hx] at hsz
    obtain ⟨hs1, hs2⟩ := all_slice ht hsz
    simp only [List.length_map] at hs1
    have hrb := reachBytes_lt
    have hlb : len ≤ 140737488355328 := by
      have : (elems.length + rest.length) * 1 ≤ (elems.length + rest.length) * Tryz.prog.bytesOf e := Nat.mul_le_mul_left _ hby
      omega
    rw [hk] at hel
    have hex : ∀ i, i < len → ∃ (cs : List Value) (x : DataW H × List MemPlace), cs.length = k ∧ (∀ j, j < k → W.cell? ((a.add (i * k)).add j) = cs[j]?) ∧ DataW.trod enc Tryz.prog W 0 (fun _ => true) true n2 e cs = some x ∧ (x.1.weights Tryz.prog e).all (· ≤ reachBytes) = true := by
      intro i hi
      have hi' := hel i hi
      rw [List.getElem?_eq_getElem (by omega), Option.bind_eq_some_iff] at hi'
      obtain ⟨cs', hc', ht'⟩ := hi'
      obtain ⟨_, hl6, hc6⟩ := World.cells?_some hc'
      exact ⟨cs', elems[i], hl6, fun j hj => hc6 j hj, ht', hs2 _ (List.mem_map.2 ⟨elems[i], List.getElem_mem _, rfl⟩)⟩
    by_cases h0 : len = 0
    · exact ⟨some a, 0, 0, len, cap, rfl, hl', hlb, fun h => by omega, fun i h => by omega⟩
    · obtain ⟨b, off, spot⟩ := a
      obtain ⟨cs0, x0, hl0, hc0, _, _⟩ := hex 0 (by omega)
      have c0 := hc0 0 hk0
      rw [List.getElem?_eq_getElem (by omega)] at c0
      have hspot : spot = none := by simpa [Addr.add] using World.cell?_spot c0
      subst hspot
      have hblt : b < W.heap.size := by
        rw [add_none, add_none] at c0
        exact World.block_lt_of_cell? W _ c0
      refine ⟨some ⟨b, off, none⟩, b, off, len, cap, rfl, hl', hlb, fun _ => ⟨rfl, hblt⟩, fun i hi => ?_⟩
      obtain ⟨cs, x, hl1, hc1, ht1, hs3⟩ := hex i hi
      refine ⟨cs, n2, x, hl1, fun j hj => ?_, ht1, hs3⟩
      have := hc1 j hj
      rw [add_none, add_none, Nat.add_assoc] at this
      exact this
set_option maxRecDepth 100000 in
theorem open_id {fuel : Nat} {cs : List Value} {x : DataW H × List MemPlace} (h : DataW.trod enc Tryz.prog W 0 (fun _ => true) true fuel 69 cs = some x) : ∃ D : List UInt8, cs = Lib.byteCells D ∧ D.length = 16 := by
  obtain ⟨xs, m, _, _, hl, hxl, hf⟩ := DataW.trod_array Tryz.underlying69 h
  rw [Tryz.cells69] at hl
  obtain ⟨D, hD, hDl⟩ := bytes_of cs (fun i hi => by
    have h1 := hf i (by omega)
    rw [Tryz.cells5, Nat.mul_one, List.getElem?_eq_getElem (by omega)] at h1
    obtain ⟨n, e, _, hw⟩ := DataW.trod_int (k := .u8) Tryz.underlying5 h1
    obtain ⟨b, rfl⟩ := u8_of hw
    refine ⟨b, ?_⟩
    have h2 : (List.take 1 (List.drop i cs))[0]? = some (.int .u8 b.toNat) := by rw [e]; rfl
    rw [List.getElem?_take_of_lt (by omega), List.getElem?_drop] at h2
    simpa using h2)
  exact ⟨D, hD, by omega⟩
set_option maxRecDepth 100000 in
theorem open_step {fuel : Nat} {cs : List Value} {x : DataW H × List MemPlace} (h : DataW.trod enc Tryz.prog W 0 (fun _ => true) true fuel 71 cs = some x) : ∃ t : St, cs = t.cells ∧ t.ok := by
  obtain ⟨xs, k, _, hx, hl, hxl, hf⟩ := DataW.trod_struct Tryz.underlying71 h
  rw [Tryz.cells71] at hl
  obtain ⟨x0, x1, x2, x3, x4, rfl⟩ : ∃ x0 x1 x2 x3 x4, xs = [x0, x1, x2, x3, x4] := by
    match xs, (show xs.length = 5 from hxl) with
    | [a, b, c, d, e], _ => exact ⟨a, b, c, d, e, rfl⟩
  have f0 : DataW.trod enc Tryz.prog W 0 (fun _ => true) true k 3 ((cs.drop 0).take 1) = some x0 := by
    have := hf 0 _ rfl
    change DataW.trod enc Tryz.prog W 0 (fun _ => true) true k 3 ((cs.drop 0).take (Tryz.prog.cellsOf 3)) = some x0 at this
    rw [Tryz.cells3] at this
    exact this
  have f1 : DataW.trod enc Tryz.prog W 0 (fun _ => true) true k 67 ((cs.drop 1).take 1) = some x1 := by
    have := hf 1 _ rfl
    change DataW.trod enc Tryz.prog W 0 (fun _ => true) true k 67 ((cs.drop 1).take (Tryz.prog.cellsOf 67)) = some x1 at this
    rw [Tryz.cells67] at this
    exact this
  have f2 : DataW.trod enc Tryz.prog W 0 (fun _ => true) true k 69 ((cs.drop 2).take 16) = some x2 := by
    have := hf 2 _ rfl
    change DataW.trod enc Tryz.prog W 0 (fun _ => true) true k 69 ((cs.drop 2).take (Tryz.prog.cellsOf 69)) = some x2 at this
    rw [Tryz.cells69] at this
    exact this
  have f3 : DataW.trod enc Tryz.prog W 0 (fun _ => true) true k 2 ((cs.drop 18).take 1) = some x3 := by
    have := hf 3 _ rfl
    change DataW.trod enc Tryz.prog W 0 (fun _ => true) true k 2 ((cs.drop 18).take (Tryz.prog.cellsOf 2)) = some x3 at this
    rw [Tryz.cells2] at this
    exact this
  have f4 : DataW.trod enc Tryz.prog W 0 (fun _ => true) true k 57 ((cs.drop 19).take 1) = some x4 := by
    have := hf 4 _ rfl
    change DataW.trod enc Tryz.prog W 0 (fun _ => true) true k 57 ((cs.drop 19).take (Tryz.prog.cellsOf 57)) = some x4 at this
    rw [Tryz.cells57] at this
    exact this
  obtain ⟨z0, e0, _, _⟩ := DataW.trod_int (k := .i64) Tryz.underlying3 f0
  obtain ⟨z1, e1, _, w1⟩ := DataW.trod_int (k := .u64) Tryz.underlying67 f1
  obtain ⟨D, hD, hDl⟩ := open_id f2
  obtain ⟨z3, e3, _, w3⟩ := DataW.trod_int (k := .i64) Tryz.underlying2 f3
  obtain ⟨N, rfl, hN⟩ := u64_of w1
  obtain ⟨v, hv⟩ : ∃ v, (cs.drop 19).take 1 = [v] := by
    have : ((cs.drop 19).take 1).length = 1 := by rw [List.length_take, List.length_drop]; omega
    match hq : (cs.drop 19).take 1, this with
    | [v], _ => exact ⟨v, rfl⟩
  rw [hv] at f4
  obtain ⟨a, n, c, hs⟩ : ∃ a n c, v = .slice a n c := by
    rcases DataW.trod_slice Tryz.underlying57 f4 with ⟨hcs, _⟩ | ⟨a, len, cap, elems, rest, n2, _, hcs, _⟩
    · simp only [List.cons.injEq, and_true] at hcs
      exact ⟨_, _, _, hcs⟩
    · simp only [List.cons.injEq, and_true] at hcs
      exact ⟨_, _, _, hcs⟩
  refine ⟨⟨z0, N, D, z3, v⟩, ?_, hN, hDl, i64_of w3, a, n, c, hs⟩
  have hsp : cs = (cs.drop 0).take 1 ++ ((cs.drop 1).take 1 ++ ((cs.drop 2).take 16 ++ ((cs.drop 18).take 1 ++ (cs.drop 19).take 1))) := by
    have h5 : (cs.drop 19).take 1 = cs.drop 19 := List.take_of_length_le (by rw [List.length_drop]; omega)
    rw [h5]
    have h4 : (cs.drop 18).take 1 ++ cs.drop 19 = cs.drop 18 := by
      have := List.take_append_drop 1 (cs.drop 18)
      rwa [List.drop_drop] at this
    rw [h4]
    have h3 : (cs.drop 2).take 16 ++ cs.drop 18 = cs.drop 2 := by
      have := List.take_append_drop 16 (cs.drop 2)
      rwa [List.drop_drop] at this
    rw [h3]
    have h2 : (cs.drop 1).take 1 ++ cs.drop 2 = cs.drop 1 := by
      have := List.take_append_drop 1 (cs.drop 1)
      rwa [List.drop_drop] at this
    rw [h2]
    exact (List.take_append_drop 1 cs).symm
  rw [hsp, e0, e1, hD, e3, hv]
  rfl
theorem open_S {fuel : Nat} {v : Value} {y : DataW H × List MemPlace} (h : DataW.trod enc Tryz.prog W 0 (fun _ => true) true fuel 22 [v] = some y) (hsz : (y.1.weights Tryz.prog 22).all (· ≤ reachBytes) = true) :
    ∃ (a : Option Addr) (b o n c : Nat) (T : Nat → St), v = .slice a n c ∧ n ≤ 140737488355328 ∧ ArgS W a b o n T ∧ n ≤ c := by
  obtain ⟨a, b, o, n, c, hv, hnc, hn, ha, hel⟩ := open_rows Tryz.underlying22 Tryz.cells71 (by decide) (by rw [Tryz.bytes71]; decide) h hsz
  have hex : ∀ i, i < n → ∃ q : St, W.rangeAt b (o + i * 20) q.cells ∧ q.ok := by
    intro i hi
    obtain ⟨cs, m, x, hcl, hcell, ht, hs⟩ := hel i hi
    obtain ⟨q, rfl, hq⟩ := open_step ht
    refine ⟨q, fun j v hj => ?_, hq⟩
    have hj' : j < 20 := by rw [← hcl]; exact (List.getElem?_eq_some_iff.1 hj).1
    have := hcell j hj'
    rw [hj, ← Nat.add_assoc] at this
    exact this
  haveI : Inhabited St := ⟨zst⟩
  obtain ⟨f, hf⟩ := choose_lt hex
  exact ⟨a, b, o, n, c, f, hv, hn, ⟨ha, hf⟩, hnc⟩
end
end Go.Proofs.YtlgjmhemgfjgnaaGreat
