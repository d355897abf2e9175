/- The argument of RevokeExact, opened: steps, with their raw lists. -/
import Derived.Test.YtlgjmhemgfjgnaaGreatOpS
namespace Go.Proofs.YtlgjmhemgfjgnaaGreat
open Go Go.RowKit Go.ChangeShapes Go.WideShapes Go.ChangeAt Go.Joins Go.Deep

theorem Tryz.cells4 : Tryz.prog.cellsOf 4 = 1 := by kernel_rfl
theorem Tryz.cells85 : Tryz.prog.cellsOf 85 = 19 := by kernel_rfl
theorem Tryz.bytes85 : Tryz.prog.bytesOf 85 = 40 := by kernel_rfl
section
variable {H : Type} {enc : TypeId × Value → H} {W : World}
set_option maxRecDepth 100000 in
theorem open_ent {fuel : Nat} {cs : List Value} {x : DataW H × List MemPlace} (h : DataW.trod enc Tryz.prog W 0 (fun _ => true) true fuel 85 cs = some x) : ∃ t : Ky, cs = t.cells ∧ t.ok := by
  obtain ⟨xs, k, _, hx, hl, hxl, hf⟩ := DataW.trod_struct Tryz.underlying85 h
  rw [Tryz.cells85] at hl
  obtain ⟨x0, x1, x2, x3, rfl⟩ : ∃ x0 x1 x2 x3, xs = [x0, x1, x2, x3] := by
    match xs, (show xs.length = 4 from hxl) with
    | [a, b, c, d], _ => exact ⟨a, b, c, d, rfl⟩
  have f0 : DataW.trod enc Tryz.prog W 0 (fun _ => true) true k 4 ((cs.drop 0).take 1) = some x0 := by
    have := hf 0 _ rfl
    change DataW.trod enc Tryz.prog W 0 (fun _ => true) true k 4 ((cs.drop 0).take (Tryz.prog.cellsOf 4)) = some x0 at this
    rw [Tryz.cells4] at this
    exact this
  have f1 : DataW.trod enc Tryz.prog W 0 (fun _ => true) true k 67 ((cs.drop 1).take 1) = some x1 := by
    have := hf 1 _ rfl
    change DataW.trod enc Tryz.prog W 0 (fun _ => true) true k 67 ((cs.drop 1).take (Tryz.prog.cellsOf 67)) = some x1 at this
    rw [Tryz.cells67] at this
    exact this
  have f2 : DataW.trod enc Tryz.prog W 0 (fun _ => true) true k 69 ((cs.drop 2).take 16) = some x2 := by
    have := hf 2 _ rfl
    change DataW.trod enc Tryz.prog W 0 (fun _ => true) true k 69 ((cs.drop 2).take (Tryz.prog.cellsOf 69)) = some x2 at this
    rw [Tryz.cells69] at this
    exact this
  have f3 : DataW.trod enc Tryz.prog W 0 (fun _ => true) true k 2 ((cs.drop 18).take 1) = some x3 := by
    have := hf 3 _ rfl
    change DataW.trod enc Tryz.prog W 0 (fun _ => true) true k 2 ((cs.drop 18).take (Tryz.prog.cellsOf 2)) = some x3 at this
    rw [Tryz.cells2] at this
    exact this
  obtain ⟨z0, e0, _⟩ := DataW.trod_bool Tryz.underlying4 f0
  obtain ⟨z1, e1, _, w1⟩ := DataW.trod_int (k := .u64) Tryz.underlying67 f1
  obtain ⟨D, hD, hDl⟩ := open_id f2
  obtain ⟨z3, e3, _, w3⟩ := DataW.trod_int (k := .i64) Tryz.underlying2 f3
  obtain ⟨N, rfl, hN⟩ := u64_of w1
  refine ⟨⟨z0, N, D, z3⟩, ?_, hN, hDl, i64_of w3⟩
  have hsp : cs = (cs.drop 0).take 1 ++ ((cs.drop 1).take 1 ++ ((cs.drop 2).take 16 ++ (cs.drop 18).take 1)) := by
    have h5 : (cs.drop 18).take 1 = cs.drop 18 := List.take_of_length_le (by rw [List.length_drop]; omega)
    rw [h5]
    have h3 : (cs.drop 2).take 16 ++ cs.drop 18 = cs.drop 2 := by
      have := List.take_append_drop 16 (cs.drop 2)
      rwa [List.drop_drop] at this
    rw [h3]
    have h2 : (cs.drop 1).take 1 ++ cs.drop 2 = cs.drop 1 := by
      have := List.take_append_drop 1 (cs.drop 1)
      rwa [List.drop_drop] at this
    rw [h2]
    exact (List.take_append_drop 1 cs).symm
  rw [hsp, e0, e1, hD, e3]
  rfl
theorem okc {fuel n c : Nat} {y : DataW H × List MemPlace} (h : DataW.trod enc Tryz.prog W 0 (fun _ => true) true fuel 57 [.slice none n c] = some y) : c = 0 := by
  rcases DataW.trod_slice Tryz.underlying57 h with ⟨hcs, _⟩ | ⟨a, len, cap, elems, rest, n2, _, hcs, _⟩
  · simp only [List.cons.injEq, and_true] at hcs
    injection hcs with _ _ e
  · simp only [List.cons.injEq, and_true] at hcs
    injection hcs with e
    cases e
theorem open_keys {fuel : Nat} {v : Value} {y : DataW H × List MemPlace} (h : DataW.trod enc Tryz.prog W 0 (fun _ => true) true fuel 57 [v] = some y) (hsz : (y.1.weights Tryz.prog 57).all (· ≤ reachBytes) = true) :
    ∃ l : List Ky, RdK W (fun _ => True) v l ∧ l.length ≤ 140737488355328 := by
  obtain ⟨a, b, o, n, c, rfl, hnc, hn, ha, hel⟩ := open_rows Tryz.underlying57 Tryz.cells85 (by decide) (by rw [Tryz.bytes85]; decide) h hsz
  have hex : ∀ i, i < n → ∃ q : Ky, W.rangeAt b (o + i * 19) q.cells ∧ q.ok := by
    intro i hi
    obtain ⟨cs, m, x, hcl, hcell, ht, hs⟩ := hel i hi
    obtain ⟨q, rfl, hq⟩ := open_ent ht
    refine ⟨q, fun j v hj => ?_, hq⟩
    have hj' : j < 19 := by rw [← hcl]; exact (List.getElem?_eq_some_iff.1 hj).1
    have := hcell j hj'
    rw [hj, ← Nat.add_assoc] at this
    exact this
  haveI : Inhabited Ky := ⟨zky⟩
  obtain ⟨f, hf⟩ := choose_lt hex
  have hl : ((List.range n).map f).length = n := by simp
  have hca : a = none → c = 0 := by
    intro ha0
    subst ha0
    exact okc h
  refine ⟨(List.range n).map f, ⟨fun k hk => ?_, a, b, o, c, by rw [hl], by rw [hl]; exact hnc, hca, fun h0 => ?_, fun i hi => ?_⟩, by rw [hl]; exact hn⟩
  · obtain ⟨i, hi, rfl⟩ := List.mem_map.1 hk
    exact (hf i (List.mem_range.1 hi)).2
  · rw [hl] at h0
    exact ⟨(ha h0).1, (ha h0).2, trivial⟩
  · rw [hl] at hi
    simp only [List.getElem_map, List.getElem_range]
    exact (hf i hi).1
set_option maxRecDepth 100000 in
theorem open_len {t e : TypeId} (ht : Tryz.prog.underlying t = some (.slice e)) {fuel : Nat} {a : Option Addr} {n c : Nat} {y : DataW H × List MemPlace}
    (h : DataW.trod enc Tryz.prog W 0 (fun _ => true) true fuel t [.slice a n c] = some y) (hsz : (y.1.weights Tryz.prog t).all (· ≤ reachBytes) = true) : n * Tryz.prog.bytesOf e ≤ 140737488355328 := by
  rcases DataW.trod_slice ht h with ⟨hcs, _⟩ | ⟨a, len, cap, elems, rest, n2, _, hcs, hx, _, hl', _, hlen, hel, _, _⟩
  · simp only [List.cons.injEq, and_true] at hcs
    injection hcs with _ e1 _
    subst e1
    exact Nat.le_trans (Nat.le_of_eq (Nat.zero_mul _)) (Nat.zero_le _)
  · simp only [List.cons.injEq, and_true] at hcs
    injection hcs with _ e1 _
    subst e1
    rw [hx] at hsz
    obtain ⟨hs1, hs2⟩ := all_slice ht hsz
    simp only [List.length_map] at hs1
    have hrb := reachBytes_lt
    have h3 : n * Tryz.prog.bytesOf e ≤ (elems.length + rest.length) * Tryz.prog.bytesOf e := Nat.mul_le_mul_right _ (by omega)
    omega
theorem open_keys2 {fuel : Nat} {v : Value} {y : DataW H × List MemPlace} (h : DataW.trod enc Tryz.prog W 0 (fun _ => true) true fuel 57 [v] = some y) (hsz : (y.1.weights Tryz.prog 57).all (· ≤ reachBytes) = true) :
    ∃ l : List Ky, RdK W (fun _ => True) v l ∧ l.length ≤ 140737488355328 ∧ l.length ≤ 3518437208883 := by
  obtain ⟨l, h1, h2⟩ := open_keys h hsz
  obtain ⟨_, a, b, o, c, rfl, _⟩ := h1.open
  have h3 := open_len Tryz.underlying57 h hsz
  rw [Tryz.bytes85] at h3
  exact ⟨l, h1, h2, by omega⟩
theorem step_sized {d0 d1 d2 d3 d4 : DataW H} (h : ((DataW.agg [d0, d1, d2, d3, d4]).weights Tryz.prog 71).all (· ≤ reachBytes) = true) : (d4.weights Tryz.prog 57).all (· ≤ reachBytes) = true := by
  rw [List.all_eq_true] at h
  simp only [DataW.weights, Tryz.underlying71, DataW.weightsEach, List.map_cons, List.map_nil, List.append_nil] at h
  exact List.all_eq_true.2 fun n hn => h n (by simp only [List.mem_append]; exact Or.inr (Or.inr (Or.inr (Or.inr hn))))
set_option maxRecDepth 100000 in
theorem open_step2 {fuel : Nat} {cs : List Value} {x : DataW H × List MemPlace} (h : DataW.trod enc Tryz.prog W 0 (fun _ => true) true fuel 71 cs = some x) (hs : (x.1.weights Tryz.prog 71).all (· ≤ reachBytes) = true) : ∃ t : St, cs = t.cells ∧ t.ok ∧ ∃ l : List Ky, RdK W (fun _ => True) t.raw l ∧ l.length ≤ 3518437208883 := by
  obtain ⟨xs, k, _, hx, hl, hxl, hf⟩ := DataW.trod_struct Tryz.underlying71 h
  rw [Tryz.cells71] at hl
  obtain ⟨x0, x1, x2, x3, x4, rfl⟩ : ∃ x0 x1 x2 x3 x4, xs = [x0, x1, x2, x3, x4] := by
    match xs, (show xs.length = 5 from hxl) with
    | [a, b, c, d, e], _ => exact ⟨a, b, c, d, e, rfl⟩
  rw [hx] at hs
  have s4 := step_sized (d0 := x0.1) (d1 := x1.1) (d2 := x2.1) (d3 := x3.1) (d4 := x4.1) hs
  have f0 : DataW.trod enc Tryz.prog W 0 (fun _ => true) true k 3 ((cs.drop 0).take 1) = some x0 := by
    have := hf 0 _ rfl
    change DataW.trod enc Tryz.prog W 0 (fun _ => true) true k 3 ((cs.drop 0).take (Tryz.prog.cellsOf 3)) = some x0 at this
    rw [Tryz.cells3] at this
    exact this
  have f1 : DataW.trod enc Tryz.prog W 0 (fun _ => true) true k 67 ((cs.drop 1).take 1) = some x1 := by
    have := hf 1 _ rfl
    change DataW.trod enc Tryz.prog W 0 (fun _ => true) true k 67 ((cs.drop 1).take (Tryz.prog.cellsOf 67)) = some x1 at this
    rw [Tryz.cells67] at this
    exact this
  have f2 : DataW.trod enc Tryz.prog W 0 (fun _ => true) true k 69 ((cs.drop 2).take 16) = some x2 := by
    have := hf 2 _ rfl
    change DataW.trod enc Tryz.prog W 0 (fun _ => true) true k 69 ((cs.drop 2).take (Tryz.prog.cellsOf 69)) = some x2 at this
    rw [Tryz.cells69] at this
    exact this
  have f3 : DataW.trod enc Tryz.prog W 0 (fun _ => true) true k 2 ((cs.drop 18).take 1) = some x3 := by
    have := hf 3 _ rfl
    change DataW.trod enc Tryz.prog W 0 (fun _ => true) true k 2 ((cs.drop 18).take (Tryz.prog.cellsOf 2)) = some x3 at this
    rw [Tryz.cells2] at this
    exact this
  have f4 : DataW.trod enc Tryz.prog W 0 (fun _ => true) true k 57 ((cs.drop 19).take 1) = some x4 := by
    have := hf 4 _ rfl
    change DataW.trod enc Tryz.prog W 0 (fun _ => true) true k 57 ((cs.drop 19).take (Tryz.prog.cellsOf 57)) = some x4 at this
    rw [Tryz.cells57] at this
    exact this
  obtain ⟨z0, e0, _, _⟩ := DataW.trod_int (k := .i64) Tryz.underlying3 f0
  obtain ⟨z1, e1, _, w1⟩ := DataW.trod_int (k := .u64) Tryz.underlying67 f1
  obtain ⟨D, hD, hDl⟩ := open_id f2
  obtain ⟨z3, e3, _, w3⟩ := DataW.trod_int (k := .i64) Tryz.underlying2 f3
  obtain ⟨N, rfl, hN⟩ := u64_of w1
  obtain ⟨v, hv⟩ : ∃ v, (cs.drop 19).take 1 = [v] := by
    have : ((cs.drop 19).take 1).length = 1 := by rw [List.length_take, List.length_drop]; omega
    match hq : (cs.drop 19).take 1, this with
    | [v], _ => exact ⟨v, rfl⟩
  rw [hv] at f4
  obtain ⟨l, hl1, -, hl3⟩ := open_keys2 f4 s4
  obtain ⟨a, n, c, hs⟩ : ∃ a n c, v = .slice a n c := by
    rcases DataW.trod_slice Tryz.underlying57 f4 with ⟨hcs, _⟩ | ⟨a, len, cap, elems, rest, n2, _, hcs, _⟩
    · simp only [List.cons.injEq, and_true] at hcs
      exact ⟨_, _, _, hcs⟩
    · simp only [List.cons.injEq, and_true] at hcs
      exact ⟨_, _, _, hcs⟩
  refine ⟨⟨z0, N, D, z3, v⟩, ?_, ⟨hN, hDl, i64_of w3, a, n, c, hs⟩, l, hl1, hl3⟩
  have hsp : cs = (cs.drop 0).take 1 ++ ((cs.drop 1).take 1 ++ ((cs.drop 2).take 16 ++ ((cs.drop 18).take 1 ++ (cs.drop 19).take 1))) := by
    have h5 : (cs.drop 19).take 1 = cs.drop 19 := List.take_of_length_le (by rw [List.length_drop]; omega)
    rw [h5]
    have h4 : (cs.drop 18).take 1 ++ cs.drop 19 = cs.drop 18 := by
      have := List.take_append_drop 1 (cs.drop 18)
      rwa [List.drop_drop] at this
    rw [h4]
    have h3 : (cs.drop 2).take 16 ++ cs.drop 18 = cs.drop 2 := by
      have := List.take_append_drop 16 (cs.drop 2)
      rwa [List.drop_drop] at this
    rw [h3]
    have h2 : (cs.drop 1).take 1 ++ cs.drop 2 = cs.drop 1 := by
      have := List.take_append_drop 1 (cs.drop 1)
      rwa [List.drop_drop] at this
    rw [h2]
    exact (List.take_append_drop 1 cs).symm
  rw [hsp, e0, e1, hD, e3, hv]
  rfl
theorem open_S2 {fuel : Nat} {v : Value} {y : DataW H × List MemPlace} (h : DataW.trod enc Tryz.prog W 0 (fun _ => true) true fuel 22 [v] = some y) (hsz : (y.1.weights Tryz.prog 22).all (· ≤ reachBytes) = true) :
    ∃ (a : Option Addr) (b o n c : Nat) (T : Nat → St), v = .slice a n c ∧ n ≤ 140737488355328 ∧ ArgS W a b o n T ∧ n ≤ c ∧ ∃ RW : Nat → List Ky, ∀ i, i < n → RdK W (fun _ => True) (T i).raw (RW i) ∧ (RW i).length ≤ 3518437208883 := by
  obtain ⟨a, b, o, n, c, hv, hnc, hn, ha, hel⟩ := open_rows Tryz.underlying22 Tryz.cells71 (by decide) (by rw [Tryz.bytes71]; decide) h hsz
  have hex : ∀ i, i < n → ∃ q : St × List Ky, W.rangeAt b (o + i * 20) q.1.cells ∧ q.1.ok ∧ RdK W (fun _ => True) q.1.raw q.2 ∧ q.2.length ≤ 3518437208883 := by
    intro i hi
    obtain ⟨cs, m, x, hcl, hcell, ht, hs⟩ := hel i hi
    obtain ⟨q, rfl, hq, l, hl1, hl2⟩ := open_step2 ht hs
    refine ⟨(q, l), fun j v hj => ?_, hq, hl1, hl2⟩
    have hj' : j < 20 := by rw [← hcl]; exact (List.getElem?_eq_some_iff.1 hj).1
    have := hcell j hj'
    rw [hj, ← Nat.add_assoc] at this
    exact this
  haveI : Inhabited (St × List Ky) := ⟨(zst, [])⟩
  obtain ⟨f, hf⟩ := choose_lt hex
  exact ⟨a, b, o, n, c, fun i => (f i).1, hv, hn, ⟨ha, fun i hi => ⟨(hf i hi).1, (hf i hi).2.1⟩⟩, hnc, fun i => (f i).2, fun i hi => (hf i hi).2.2⟩
end
end Go.Proofs.YtlgjmhemgfjgnaaGreat
