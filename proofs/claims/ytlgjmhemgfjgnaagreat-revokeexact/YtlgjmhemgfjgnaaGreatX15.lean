/- The argument of RevokeExact, opened: steps, with their raw lists. -/
import Derived.Test.YtlgjmhemgfjgnaaGreatX14
import Derived.Test.YtlgjmhemgfjgnaaGreatX08
namespace Go.Proofs.YtlgjmhemgfjgnaaGreat
open Go Go.RowKit Go.ChangeShapes Go.WideShapes Go.ChangeAt Go.Joins Go.Deep

theorem Tryz.cells4 : Tryz.prog.cellsOf 4 = 1 := by kernel_rfl
theorem Tryz.cells85 : Tryz.prog.cellsOf 85 = 19 := by kernel_rfl
theorem Tryz.bytes85 : Tryz.prog.bytesOf 85 = 40 := by kernel_rfl
section
variable {H : Type} {enc : TypeId × Value → H} {W : World}
set_option maxRecDepth 100000 in
theorem open_ent {fuel : Nat} {cs : List Value} {x : DataW H × List MemPlace} (h : DataW.trod enc Tryz.prog W 0 (fun _ => true) true fuel 85 cs = some x) : ∃ t : Ky, cs = t.cells ∧ t.ok := by
  obtain ⟨xs, k, _, hx, hl, hxl, hf⟩ := DataW.trod_struct Tryz.underlying85 h
  rw [Tryz.cells85] at hl
  obtain ⟨x0, x1, x2, x3, rfl⟩ : ∃ x0 x1 x2 x3, xs = [x0, x1, x2, x3] := by
    match xs, (show xs.length = 4 from hxl) with
    | [a, b, c, d], _ => exact ⟨a, b, c, d, rfl⟩
  have f0 : DataW.trod enc Tryz.prog W 0 (fun _ => true) true k 4 ((cs.drop 0).take 1) = some x0 := by
    have := hf 0 _ rfl
    change DataW.trod enc Tryz.prog W 0 (fun _ => true) true k 4 ((cs.drop 0).take (Tryz.prog.cellsOf 4)) = some x0 at this
    rw [Tryz.cells4] at this
    exact this
  have f1 : DataW.trod enc Tryz.prog W 0 (fun _ => true) true k 67 ((cs.drop 1).take 1) = some x1 := by
    have := hf 1 _ rfl
    change DataW.trod enc Tryz.prog W 0 (fun _ => true) true k 67 ((cs.drop 1).take (Tryz.prog.cellsOf 67)) = some x1 at this
    rw [Tryz.cells67] at this
    exact this
  have f2 : DataW.trod enc Tryz.prog W 0 (fun _ => true) true k 69 ((cs.drop 2).take 16) = some x2 := by
    have := hf 2 _ rfl
    change DataW.trod enc Tryz.prog W 0 (fun _ => true) true k 69 ((cs.drop 2).take (Tryz.prog.cellsOf 69)) = some x2 at this
    rw [Tryz.cells69] at this
    exact this
  have f3 : DataW.trod enc Tryz.prog W 0 (fun _ => true) true k 2 ((cs.drop 18).take 1) = some x3 := by
    have := hf 3 _ rfl
    change DataW.trod enc Tryz.prog W 0 (fun _ => true) true k 2 ((cs.drop 18).take (Tryz.prog.cellsOf 2)) = some x3 at this
    rw [Tryz.cells2] at this
    exact this
  obtain ⟨z0, e0, _⟩ := DataW.trod_bool Tryz.underlying4 f0
  obtain ⟨z1, e1, _, w1⟩ := DataW.trod_int (k := .u64) Tryz.underlying67 f1
  obtain ⟨D, hD, hDl⟩ := open_id f2
  obtain ⟨z3, e3, _, w3⟩ := DataW.trod_int (k := .i64) Tryz.underlying2 f3
  obtain ⟨N, rfl, hN⟩ := u64_of w1
  refine ⟨⟨z0, N, D, z3⟩, ?_, hN, hDl, i64_of w3⟩
  have hsp : cs = (cs.drop 0).take 1 ++ ((cs.drop 1).take 1 ++ ((cs.drop 2).take 16 ++ (cs.drop 18).take 1)) := by
    have h5 : (cs.drop 18).take 1 = cs.drop 18 := List.take_of_length_le (by rw [List.length_drop]; omega)
    rw [h5]
    have h3 : (cs.drop 2).take 16 ++ cs.drop 18 = cs.drop 2 := by
      have := List.take_append_drop 16 (cs.drop 2)
      rwa [List.drop_drop] at this
    rw [h3]
    have h2 : (cs.drop 1).take 1 ++ cs.drop 2 = cs.drop 1 := by
      have := List.take_append_drop 1 (cs.drop 1)
      rwa [List.drop_drop] at this
    rw [h2]
    exact (List.take_append_drop 1 cs).symm
  rw [hsp, e0, e1, hD, e3]
  rfl
theorem okc {fuel n c : Nat} {y : DataW H × List MemPlace} (h : DataW.trod enc Tryz.prog W 0 (fun _ => true) true fuel 57 [.slice none n c] = some y) : c = 0 := by
  rcases DataW.trod_slice Tryz.underlying57 h with ⟨hcs, _⟩ | ⟨a, len, cap, elems, rest, n2, _, hcs, _⟩
  · simp only [List.cons.injEq, and_true] at hcs
    injection hcs with _ _ e
  · simp only [List.cons.injEq, and_true] at hcs
    injection hcs with e
    cases e
theorem open_keys {fuel : Nat} {v : Value} {y : DataW H × List MemPlace} (h : DataW.trod enc Tryz.prog W 0 (fun _ => true) true fuel 57 [v] = some y) (hsz : (y.1.weights Tryz.prog 57).all (· ≤ reachBytes) = true) :
    ∃ l : List Ky, RdK W (fun _ => True) v l ∧ l.length ≤ 140737488355328 := by
  obtain ⟨a, b, o, n, c, rfl, hnc, hn, ha, hel⟩ := open_rows Tryz.underlying57 Tryz.cells85 (by decide) (by rw [Tryz.bytes85]; decide) h hsz
  have hex : ∀ i, i < n → ∃ q : Ky, W.rangeAt b (o + i * 19) q.cells ∧ q.ok := by
    intro i hi
    obtain ⟨cs, m, x, hcl, hcell, ht, hs⟩ := hel i hi
    obtain ⟨q, rfl, hq⟩ := open_ent ht
    refine ⟨q, fun j v hj => ?_, hq⟩
    have hj' : j < 19 := by rw [← hcl]; exact (List.getElem?_eq_some_iff.1 hj).1
    have := hcell j hj'
    rw [hj, ← Nat.add_assoc] at this
    exact this
  haveI : Inhabited Ky := ⟨zky⟩
  obtain ⟨f, hf⟩ := choose_lt hex
  have hl : ((List.range n).map f).length = n := by simp
  have hca : a = none → c = 0 := by
    intro ha0
    subst ha0
    exact okc h
  refine ⟨(List.range n).map f, ⟨fun k hk => ?_, a, b, o, c, by rw [hl], by rw [hl]; exact hnc, hca, fun h0 => ?_, fun i hi => ?_⟩, by rw [hl]; exact hn⟩
  · obtain ⟨i, hi, rfl⟩ := List.mem_map.1 hk
    exact (hf i (List.mem_range.1 hi)).2
  · rw [hl] at h0
    exact ⟨(ha h0).1, (ha h0).2, trivial⟩
  · rw [hl] at hi
    simp only [List.getElem_map, List.getElem_range]
    exact (hf i hi).1
set_option maxRecDepth 100000 in
theorem open_len {t e : TypeId} (ht : Tryz.prog.underlying t = some (.slice e)) {fuel : Nat} {a : Option Addr} {n c : Nat} {y : DataW H × List MemPlace}
    (h : DataW.trod enc Tryz.prog W 0 (fun _ => true) true fuel t [.slice a n c] = some y) (hsz : (y.1.weights Tryz.prog t).all (· ≤ reachBytes) = true) : n * Tryz.prog.bytesOf e ≤ 140737488355328 := by
  rcases DataW.trod_slice ht h with ⟨hcs, _⟩ | ⟨a, len, cap, elems, rest, n2, _, hcs, hx, _, hl', _, hlen, hel, _, _⟩
  · simp only [List.cons.injEq, and_true] at hcs
    injection hcs with _ e1 _
    subst e1
    exact Nat.le_trans (Nat.le_of_eq (Nat.zero_mul _)) (Nat.zero_le _)
  · simp only [List.cons.injEq, and_true] at hcs
    injection hcs with _ e1 _
    subst e1
    rw [hx] at hsz
    obtain ⟨hs1, hs2⟩ := all_slice ht hsz
    simp only [List.length_map] at hs1
    have hrb := reachBytes_lt
    have h3 : n * Tryz.prog.bytesOf e ≤ (elems.length + rest.length) * Tryz.prog.bytesOf e := Nat.mul_le_mul_right _ (by omega)
    omega
theorem open_keys2 {fuel : Nat} {v : Value} {y : DataW H × List MemPlace} (h : DataW.trod enc Tryz.prog W 0 (fun _ => true) true fuel 57 [v] = some y) (hsz : (y.1.weights Tryz.prog 57).all (· ≤ reachBytes) = true) :
    ∃ l : List Ky, RdK W (fun _ => True) v l ∧ l.length ≤ 140737488355328 ∧ l.length ≤ 3518437208883 := by
  obtain ⟨l, h1, h2⟩ := open_keys h hsz
  obtain ⟨_, a, b, o, c, rfl, _⟩ := h1.open
  have h3 := open_len Tryz.underlying57 h hsz
  rw [Tryz.bytes85] at h3
  exact ⟨l, h1, h2, by omega⟩
theorem step_sized {d0 d1 d2 d3 d4 : DataW H} (h : ((DataW.agg [d0, d1, d2, d3, d4]).weights Tryz.prog 71).all (· ≤ reachBytes) = true) : (d4.weights Tryz.prog 57).all (· ≤ reachBytes) = true := by
  rw [List.all_eq_true] at h
  simp only [DataW.weights, Tryz.underlying71, DataW.weightsEach, List.map_cons, List.map_nil, List.append_nil] at h
  exact List.all_eq_true.2 fun n hn => h n (by simp only [List.mem_append]; exact Or.inr (Or.inr (Or.inr (Or.inr hn))))
set_option maxRecDepth 100000 in
theorem open_step2 {fuel : Nat} {cs : List Value} {x : DataW H × List MemPlace} (h : DataW.trod enc Tryz.prog W 0 (fun _ => true) true fuel 71 cs = some x) (hs : (x.1.weights Tryz.prog 71).all (· ≤ reachBytes) = true) : ∃ t : St, cs = t.cells ∧ t.ok ∧ ∃ l : List Ky, RdK W (fun _ => True) t.raw l ∧ l.length ≤ 3518437208883 := by
  obtain ⟨xs, k, _, hx, hl, hxl, hf⟩ := DataW.trod_struct Tryz.underlying71 h
  rw [Tryz.cells71] at hl
  obtain ⟨x0, x1, x2, x3, x4, rfl⟩ : ∃ x0 x1 x2 x3 x4, xs = [x0, x1, x2, x3, x4] := by
    match xs, (show xs.length = 5 from hxl) with
    | [a, b, c, d, e], _ => exact ⟨a, b, c, d, e, rfl⟩
  rw [hx] at hs
  have s4 := step_sized (d0 := x0.1) (d1 := x1.1) (d2 := x2.1) (d3 := x3.1) (d4 := x4.1) hs
  have f0 : DataW.trod enc Tryz.prog W 0 (fun _ => true) true k 3 ((cs.drop 0).take 1) = some x0 := by
    have := hf 0 _ rfl
    change DataW.trod enc Tryz.prog W 0 (fun _ => true) true k 3 ((cs.drop 0).take (Tryz.prog.cellsOf 3)) = some x0 at this
    rw [Tryz.cells3] at this
    exact this
  have f1 : DataW.trod enc Tryz.prog W 0 (fun _ => true) true k 67 ((cs.drop 1).take 1) = some x1 := by
    have := hf 1 _ rfl
    change DataW.trod enc Tryz.prog W 0 (fun _ => true) true k 67 ((cs.drop 1).take (Tryz.prog.cellsOf 67)) = some x1 at this
    rw [Tryz.cells67] at this
    exact this
  have f2 : DataW.trod enc Tryz.prog W 0 (fun _ => true) true k 69 ((cs.drop 2).take 16) = some x2 := by
    have := hf 2 _ rfl
    change DataW.trod enc Tryz.prog W 0 (fun _ => true) true k 69 ((cs.drop 2).take (Tryz.prog.cellsOf 69)) = some x2 at this
    rw [Tryz.cells69] at this
    exact this
  have f3 : DataW.trod enc Tryz.prog W 0 (fun _ => true) true k 2 ((cs.drop 18).take 1) = some x3 := by
    have := hf 3 _ rfl
    change DataW.trod enc Tryz.prog W 0 (fun _ => true) true k 2 ((cs.drop 18).take (Tryz.prog.cellsOf 2)) = some x3 at this
    rw [Tryz.cells2] at this
    exact this
  have f4 : DataW.trod enc Tryz.prog W 0 (fun _ => true) true k 57 ((cs.drop 19).take 1) = some x4 := by
    have := hf 4 _ rfl
    change DataW.trod enc Tryz.prog W 0 (fun _ => true) true k 57 ((cs.drop 19).take (Tryz.prog.cellsOf 57)) = some x4 at this
    rw [Tryz.cells57] at this
    exact this
  obtain ⟨z0, e0, _, _⟩ := DataW.trod_int (k := .i64) Tryz.underlying3 f0
  obtain ⟨z1, e1, _, w1⟩ := DataW.trod_int (k := .u64) Tryz.underlying67 f1
  obtain ⟨D, hD, hDl⟩ := open_id f2
  obtain ⟨z3, e3, _, w3⟩ := DataW.trod_int (k := .i64) Tryz.underlying2 f3
  obtain ⟨N, rfl, hN⟩ := u64_of w1
  obtain ⟨v, hv⟩ : ∃ v, (cs.drop 19).take 1 = [v] := by
    have : ((cs.drop 19).take 1).length = 1 := by rw [List.length_take, List.length_drop]; omega
    match hq : (cs.drop 19).take 1, this with
    | [v], _ => exact ⟨v, rfl⟩
  rw [hv] at f4
  obtain ⟨l, hl1, -, hl3⟩ := open_keys2 f4 s4
  obtain ⟨a, n, c, hs⟩ : ∃ a n c, v = .slice a n c := by
    rcases DataW.trod_slice Tryz.underlying57 f4 with ⟨hcs, _⟩ | ⟨a, len, cap, elems, rest, n2, _, hcs, _⟩
    · simp only [List.cons.injEq, and_true] at hcs
      exact ⟨_, _, _, hcs⟩
    · simp only [List.cons.injEq, and_true] at hcs
      exact ⟨_, _, _, hcs⟩
  refine ⟨⟨z0, N, D, z3, v⟩, ?_, ⟨hN, hDl, i64_of w3, a, n, c, hs⟩, l, hl1, hl3⟩
  have hsp : cs = (cs.drop 0).take 1 ++ ((cs.drop 1).take 1 ++ ((cs.drop 2).take 16 ++ ((cs.drop 18).take 1 ++ (cs.drop 19).take 1))) := by
    have h5 : (cs.drop 19).take 1 = cs.drop 19 := List.take_of_length_le (by rw [List.length_drop]; omega)
    rw [h5]
    have h4 : (cs.drop 18).take 1 ++ cs.drop 19 = cs.drop 18 := by
      have := List.take_append_drop 1 (cs.drop 18)
      rwa [List.drop_drop] at this
    rw [h4]
    have h3 : (cs.drop 2).take 16 ++ cs.drop 18 = cs.drop 2 := by
      have := List.take_append_drop 16 (cs.drop 2)
      rwa [List.drop_drop] at this
    rw [h3]
    have h2 : (cs.drop 1).take 1 ++ cs.drop 2 = cs.drop 1 := by
      have := List.take_append_drop 1 (cs.drop 1)
      rwa [List.drop_drop] at this
    rw [h2]
    exact (List.take_append_drop 1 cs).symm
  rw [hsp, e0, e1, hD, e3, hv]
  rfl
theorem open_S2 {fuel : Nat} {v : Value} {y : DataW H × List MemPlace} (h : DataW.trod enc Tryz.prog W 0 (fun _ => true) true fuel 22 [v] = some y) (hsz : (y.1.weights Tryz.prog 22).all (· ≤ reachBytes) = true) :
    ∃ (a : Option Addr) (b o n c : Nat) (T : Nat → St), v = .slice a n c ∧ n ≤ 140737488355328 ∧ ArgS W a b o n T ∧ n ≤ c ∧ ∃ RW : Nat → List Ky, ∀ i, i < n → RdK W (fun _ => True) (T i).raw (RW i) ∧ (RW i).length ≤ 3518437208883 := by
  obtain ⟨a, b, o, n, c, hv, hnc, hn, ha, hel⟩ := open_rows Tryz.underlying22 Tryz.cells71 (by decide) (by rw [Tryz.bytes71]; decide) h hsz
  have hex : ∀ i, i < n → ∃ q : St × List Ky, W.rangeAt b (o + i * 20) q.1.cells ∧ q.1.ok ∧ RdK W (fun _ => True) q.1.raw q.2 ∧ q.2.length ≤ 3518437208883 := by
    intro i hi
    obtain ⟨cs, m, x, hcl, hcell, ht, hs⟩ := hel i hi
    obtain ⟨q, rfl, hq, l, hl1, hl2⟩ := open_step2 ht hs
    refine ⟨(q, l), fun j v hj => ?_, hq, hl1, hl2⟩
    have hj' : j < 20 := by rw [← hcl]; exact (List.getElem?_eq_some_iff.1 hj).1
    have := hcell j hj'
    rw [hj, ← Nat.add_assoc] at this
    exact this
  haveI : Inhabited (St × List Ky) := ⟨(zst, [])⟩
  obtain ⟨f, hf⟩ := choose_lt hex
  exact ⟨a, b, o, n, c, fun i => (f i).1, hv, hn, ⟨ha, fun i hi => ⟨(hf i hi).1, (hf i hi).2.1⟩⟩, hnc, fun i => (f i).2, fun i hi => (hf i hi).2.2⟩
end
end Go.Proofs.YtlgjmhemgfjgnaaGreat

namespace Go.Proofs.YtlgjmhemgfjgnaaGreat
open Go Go.RowKit
open Go.RowKit (wrap32 wrap64)

theorem gd1n (w : World) (n : Nat) : w.grownBy (w.drewN n) none := gdrew _ _ _
theorem byteCells_at {A : List UInt8} {i : Nat} (h : i < A.length) : (Lib.byteCells A)[i]? = some (.int .u8 (A[i].toNat : Nat)) := by
  unfold Lib.byteCells
  rw [List.getElem?_map, List.getElem?_eq_getElem h]
  rfl
theorem ltB_drop {A B : List UInt8} {i : Nat} (hA : i < A.length) (hB : i < B.length) : ltB (A.drop i) (B.drop i) = if A[i].toNat = B[i].toNat then ltB (A.drop (i + 1)) (B.drop (i + 1)) else decide (A[i].toNat < B[i].toNat) := by
  rw [List.drop_eq_getElem_cons hA, List.drop_eq_getElem_cons hB]
  show (if A[i] = B[i] then _ else _) = _
  by_cases h : A[i] = B[i]
  · rw [if_pos h, if_pos (by rw [h])]
  · rw [if_neg h, if_neg (fun e => h (UInt8.toNat_inj.1 e))]
    rfl
set_option maxRecDepth 100000 in
set_option maxHeartbeats 1600000 in
theorem rless_any (w : World) (b1 o1 b2 o2 : Nat) (A B : List UInt8) (hA : A.length = 16) (hB : B.length = 16) (h1 : w.rangeAt b1 o1 (Lib.byteCells A)) (h2 : w.rangeAt b2 o2 (Lib.byteCells B)) (hb1 : b1 < w.heap.size) (hb2 : b2 < w.heap.size) :
    Calls Tryz.prog 74 #[.slice (some ⟨b1, o1, none⟩) 16 16, .slice (some ⟨b2, o2, none⟩) 16 16] w fun e w' => e = .returned (.bool (ltB A B)) ∧ ∃ n, w' = w.drewN n := by
  obtain ⟨R, HR⟩ : ∃ R, Hid (ltB A B = R) := ⟨_, hid rfl⟩
  rw [HR.out]
  have HS : Hid (ltB (A.drop 0) (B.drop 0) = R) := hid HR.out
  have HE : Hid (ltB (A.drop 16) (B.drop 16) = false) := hid (by rw [List.drop_of_length_le (by omega), List.drop_of_length_le (by omega)]; rfl)
  have HC : Hid (∀ u, w.grownBy u none → ∀ i (hi : i < 16), u.cell? ⟨b1, o1 + i, none⟩ = some (.int .u8 ((A[i]'(by omega)).toNat : Nat)) ∧ u.cell? ⟨b2, o2 + i, none⟩ = some (.int .u8 ((B[i]'(by omega)).toNat : Nat))) := hid (fun u hu i hi =>
    ⟨range_at hu hb1 (by simp) h1 i _ (byteCells_at (by omega)), range_at hu hb2 (by simp) h2 i _ (byteCells_at (by omega))⟩)
  have HL := hid (And.intro hA hB)
  clear h1 h2 hb1 hb2 HR
  go_enter Tryz.func74, Tryz.ntmps74
  go_wp2_with fail
  go_loopw [5] (fun iv wr => ∃ i : Nat, iv = .int .i64 i ∧ i ≤ 16 ∧ Hid (ltB (A.drop i) (B.drop i) = R) ∧ Hid (∃ n, wr = w.drewN n)) (fun iv _ => 16 - (intOf iv).toNat)
  case atStart => exact ⟨0, rfl, by omega, HS, hid ⟨0, rfl⟩⟩
  case round =>
    clear HS
    obtain ⟨i, rfl, hi, HT, HN⟩ := hrel
    obtain ⟨nn, hnn⟩ := HN.out
    have HG : Hid (w.grownBy wr none) := hid (by rw [hnn]; exact gd1n _ _)
    have HNn := hid hnn
    clear hnn HN
    by_cases hlt : i < 16
    · have hlt' : (i : Int) < 16 := by omega
      obtain ⟨q1, q2⟩ := HC.out wr HG.out i hlt
      have hl := ltB_drop (A := A) (B := B) (i := i) (by rw [HL.out.1]; omega) (by rw [HL.out.2]; omega)
      rw [HT.out] at hl
      obtain ⟨x, hx⟩ : ∃ x, (A[i]'(by rw [HL.out.1]; omega)).toNat = x := ⟨_, rfl⟩
      obtain ⟨y, hy⟩ : ∃ y, (B[i]'(by rw [HL.out.2]; omega)).toNat = y := ⟨_, rfl⟩
      rw [hx, hy] at hl
      rw [hx] at q1
      rw [hy] at q2
      have HLr := hid hl
      clear hl hx hy HT HC
      by_cases hxy : x = y
      · subst hxy
        have HT2 : Hid (ltB (A.drop (i + 1)) (B.drop (i + 1)) = R) := hid (by rw [HLr.out, if_pos rfl])
        go_wp2_with fail
        go_quiet (fail)
        go_wp2_with fail
        go_roundw
        case rel => exact ⟨i + 1, by go_num, by omega, HT2, hid ⟨_, by rw [HNn.out, World.drewN_drewN]⟩⟩
        case measure => simp [intOf]; omega
      · have hne : ¬ (x : Int) = (y : Int) := by omega
        have HRr : Hid (R = decide (x < y)) := hid (by rw [HLr.out, if_neg hxy])
        clear hxy
        go_wp2_with fail
        go_quiet (fail)
        go_wp2_with fail
        go_quiet (fail)
        go_wp2_with fail
        go_ret
        exact ⟨by rw [HRr.out]; rfl, _, by rw [HNn.out, World.drewN_drewN, World.drewN_drewN]⟩
    · have hlt' : ¬ (i : Int) < 16 := by omega
      obtain rfl : i = 16 := by omega
      have HRf : Hid (R = false) := hid (by rw [← HT.out, HE.out])
      go_wp2_with fail
      go_ret
      exact ⟨by rw [HRf.out]; rfl, _, HNn.out⟩
set_option maxRecDepth 100000 in
theorem greater_any (w : World) (a b : Int) : Calls Tryz.prog 36 #[.int .i64 a, .int .i64 b] w fun e w' => e = .returned (.int .i64 (mx b a)) ∧ w' = w := by
  by_cases h : b < a
  · go_enter Tryz.func36, Tryz.ntmps36
    go_wp2
    go_ret
    exact ⟨by unfold mx; rw [if_neg (by omega)]; rfl, rfl⟩
  · go_enter Tryz.func36, Tryz.ntmps36
    go_wp2
    go_ret
    refine ⟨?_, rfl⟩
    unfold mx
    by_cases e : b > a
    · rw [if_pos e]; rfl
    · rw [if_neg e, show a = b by omega]; rfl
/-- does an entry stand ahead of another one? -/
def ahd2 (x y : Ky) : Bool := if x.g = y.g then ltB x.id y.id else decide (x.g < y.g)
theorem Blk.idl {w : World} {B : Nat} {k : Ky} (h : Blk w B k.cells 85) : B < w.heap.size := (Array.getElem?_eq_some_iff.1 h).1
set_option maxRecDepth 100000 in
set_option maxHeartbeats 1600000 in
theorem ahead_any (w : World) (x y : Ky) (hx : x.id.length = 16) (hy : y.id.length = 16) :
    Calls Tryz.prog 32 #[.agg x.cells.toArray, .agg y.cells.toArray] w fun e w' => e = .returned (.bool (ahd2 x y)) ∧ w.grownBy w' none := by
  have hcx := fun (u : World) (B : Nat) (h : Blk u B x.cells 85) => (by rw [h.cell]; exact Ky.c1 _ : u.cell? ⟨B, 1, none⟩ = some (.int .u64 x.g))
  have hcy := fun (u : World) (B : Nat) (h : Blk u B y.cells 85) => (by rw [h.cell]; exact Ky.c1 _ : u.cell? ⟨B, 1, none⟩ = some (.int .u64 y.g))
  have hcmp := fun (u : World) (B C : Nat) (h : Blk u B x.cells 85) (hq : Blk u C y.cells 85) => (fun n => rless_any (u.drewN n) B 2 C 2 x.id y.id hx hy h.idr hq.idr h.idl hq.idl)
  obtain ⟨K, HK⟩ : ∃ K, Hid (x.cells = K) := ⟨_, hid rfl⟩
  obtain ⟨J, HJ⟩ : ∃ K, Hid (y.cells = K) := ⟨_, hid rfl⟩
  obtain ⟨R, HR⟩ : ∃ R, Hid (ltB x.id y.id = R) := ⟨_, hid rfl⟩
  obtain ⟨M, HM⟩ : ∃ R, Hid (ahd2 x y = R) := ⟨_, hid rfl⟩
  have HMe : Hid (M = if x.g = y.g then ltB x.id y.id else decide (x.g < y.g)) := hid (by rw [← HM.out]; rfl)
  obtain ⟨xg, hxg⟩ : ∃ g, x.g = g := ⟨_, rfl⟩
  obtain ⟨yg, hyg⟩ : ∃ g, y.g = g := ⟨_, rfl⟩
  rw [HK.out, HJ.out, HR.out] at hcmp
  rw [HK.out, hxg] at hcx
  rw [HJ.out, hyg] at hcy
  rw [hxg, hyg, HR.out] at HMe
  rw [HK.out, HJ.out, HM.out]
  have HC := hid hcmp
  have HX := hid hcx
  have HY := hid hcy
  clear hcmp hcx hcy HK HJ HR HM hxg hyg hx hy
  by_cases hg : xg = yg
  · have hMe : M = R := by rw [HMe.out, if_pos hg]
    rw [hMe]
    subst hg
    clear HMe hMe
    go_enter Tryz.func32, Tryz.ntmps32
    go_upto_region 1 with (first
      | (have hmark := HA1.out; clear hmark; (with_reducible refine wpList_box_row (by with_unfolding_all rfl) 85 _ (by with_unfolding_all rfl) J (by with_unfolding_all rfl) ?_); intro w2 B2 s2 g2; have HB2 := hid B2; have HB1 := hid (HA1.out.keep g2); have HG2 := hid (gtrans HG1.out g2); clear B2 g2 s2 HA1)
      | ((with_reducible refine wpList_box_row (by with_unfolding_all rfl) 85 _ (by with_unfolding_all rfl) K (by with_unfolding_all rfl) ?_); intro w1 B1 s1 g1; have HA1 := hid B1; have HG1 := hid g1; clear B1 g1 s1))
    have y1 := HX.out _ _ HB1.out
    have z1 := HY.out _ _ HB2.out
    have HCq := hid (HC.out w2 _ _ HB1.out HB2.out)
    go_wp2_with fail
    go_quiet ((go_at_call 74; exact Calls.quiet_of (HCq.out _)))
    go_wp2_with fail
    go_ret
    exact ⟨rfl, gtrans HG2.out (gdrew _ _ _)⟩
  · have hg2 : ¬ (xg : Int) = (yg : Int) := by omega
    have HE0 : Hid (M = decide (xg < yg)) := hid (by rw [HMe.out, if_neg hg])
    clear HMe hg
    go_enter Tryz.func32, Tryz.ntmps32
    go_upto_region 1 with (first
      | (have hmark := HA1.out; clear hmark; (with_reducible refine wpList_box_row (by with_unfolding_all rfl) 85 _ (by with_unfolding_all rfl) J (by with_unfolding_all rfl) ?_); intro w2 B2 s2 g2; have HB2 := hid B2; have HB1 := hid (HA1.out.keep g2); have HG2 := hid (gtrans HG1.out g2); clear B2 g2 s2 HA1)
      | ((with_reducible refine wpList_box_row (by with_unfolding_all rfl) 85 _ (by with_unfolding_all rfl) K (by with_unfolding_all rfl) ?_); intro w1 B1 s1 g1; have HA1 := hid B1; have HG1 := hid g1; clear B1 g1 s1))
    have y1 := HX.out _ _ HB1.out
    have z1 := HY.out _ _ HB2.out
    go_wp2_with fail
    go_ret
    exact ⟨by rw [HE0.out]; rfl, HG2.out⟩
end Go.Proofs.YtlgjmhemgfjgnaaGreat
