/- The argument of RingForms and RingExact, opened: steps. -/
import Derived.Test.YtmpcpakdocaieaaRfH
namespace Go.Proofs.Ytmpcpakdocaieaa
open Go Go.RowKit Go.ChangeShapes Go.WideShapes Go.ChangeAt Go.Joins Go.Deep

theorem Try.cells107 : Try.prog.cellsOf 107 = 34 := by kernel_rfl
theorem Try.cells72 : Try.prog.cellsOf 72 = 37 := by kernel_rfl
theorem Try.cells69 : Try.prog.cellsOf 69 = 2 := by kernel_rfl
theorem Try.cells55 : Try.prog.cellsOf 55 = 1 := by kernel_rfl
theorem Try.bytes107 : Try.prog.bytesOf 107 = 48 := by kernel_rfl
theorem Try.bytes72 : Try.prog.bytesOf 72 = 88 := by kernel_rfl
section
variable {H : Type} {enc : TypeId × Value → H} {W : World}
set_option maxRecDepth 100000 in
theorem open_key {fuel : Nat} {cs : List Value} {x : DataW H × List MemPlace} (h : DataW.trod enc Try.prog W 0 (fun _ => true) true fuel 107 cs = some x) : ∃ t : Ky, cs = t.cells ∧ t.ok := by
  obtain ⟨xs, k, _, hx, hl, hxl, hf⟩ := DataW.trod_struct Try.underlying107 h
  rw [Try.cells107] at hl
  obtain ⟨x0, x1, x2, rfl⟩ : ∃ x0 x1 x2, xs = [x0, x1, x2] := by
    match xs, (show xs.length = 3 from hxl) with
    | [a, b, c], _ => exact ⟨a, b, c, rfl⟩
  have f0 : DataW.trod enc Try.prog W 0 (fun _ => true) true k 67 ((cs.drop 0).take 1) = some x0 := by
    have := hf 0 _ rfl
    change DataW.trod enc Try.prog W 0 (fun _ => true) true k 67 ((cs.drop 0).take (Try.prog.cellsOf 67)) = some x0 at this
    rw [Try.cells67] at this
    exact this
  have f1 : DataW.trod enc Try.prog W 0 (fun _ => true) true k 70 ((cs.drop 1).take 32) = some x1 := by
    have := hf 1 _ rfl
    change DataW.trod enc Try.prog W 0 (fun _ => true) true k 70 ((cs.drop 1).take (Try.prog.cellsOf 70)) = some x1 at this
    rw [Try.cells70] at this
    exact this
  have f2 : DataW.trod enc Try.prog W 0 (fun _ => true) true k 2 ((cs.drop 33).take 1) = some x2 := by
    have := hf 2 _ rfl
    change DataW.trod enc Try.prog W 0 (fun _ => true) true k 2 ((cs.drop 33).take (Try.prog.cellsOf 2)) = some x2 at this
    rw [Try.cells2] at this
    exact this
  obtain ⟨z0, e0, _, w0⟩ := DataW.trod_int (k := .u64) Try.underlying67 f0
  obtain ⟨D, hD, hDl⟩ := open_sec f1
  obtain ⟨z2, e2, _, w2⟩ := DataW.trod_int (k := .i64) Try.underlying2 f2
  obtain ⟨N, rfl, hN⟩ := u64_of w0
  refine ⟨⟨N, D, z2⟩, ?_, hN, hDl, (i64_of w2).1, (i64_of w2).2⟩
  have hsp : cs = (cs.drop 0).take 1 ++ ((cs.drop 1).take 32 ++ (cs.drop 33).take 1) := by
    have h4 : (cs.drop 33).take 1 = cs.drop 33 := List.take_of_length_le (by rw [List.length_drop]; omega)
    rw [h4]
    have h2 : (cs.drop 1).take 32 ++ cs.drop 33 = cs.drop 1 := by
      have := List.take_append_drop 32 (cs.drop 1)
      rwa [List.drop_drop] at this
    rw [h2]
    exact (List.take_append_drop 1 cs).symm
  rw [hsp, e0, hD, e2]
  rfl
theorem okc {fuel n c : Nat} {y : DataW H × List MemPlace} (h : DataW.trod enc Try.prog W 0 (fun _ => true) true fuel 55 [.slice none n c] = some y) : c = 0 := by
  rcases DataW.trod_slice Try.underlying55 h with ⟨hcs, _⟩ | ⟨a, len, cap, elems, rest, n2, _, hcs, _⟩
  · simp only [List.cons.injEq, and_true] at hcs
    injection hcs with _ _ e
  · simp only [List.cons.injEq, and_true] at hcs
    injection hcs with e
    cases e
theorem open_keys {fuel : Nat} {v : Value} {y : DataW H × List MemPlace} (h : DataW.trod enc Try.prog W 0 (fun _ => true) true fuel 55 [v] = some y) (hsz : (y.1.weights Try.prog 55).all (· ≤ reachBytes) = true) :
    ∃ l : List Ky, RdK W (fun _ => True) v l ∧ l.length ≤ 140737488355328 := by
  obtain ⟨a, b, o, n, c, rfl, hnc, hn, ha, hel⟩ := open_rows Try.underlying55 Try.cells107 (by decide) (by rw [Try.bytes107]; decide) h hsz
  have hex : ∀ i, i < n → ∃ q : Ky, W.rangeAt b (o + i * 34) q.cells ∧ q.ok := by
    intro i hi
    obtain ⟨cs, m, x, hcl, hcell, ht, hs⟩ := hel i hi
    obtain ⟨q, rfl, hq⟩ := open_key ht
    refine ⟨q, fun j v hj => ?_, hq⟩
    have hj' : j < 34 := by rw [← hcl]; exact (List.getElem?_eq_some_iff.1 hj).1
    have := hcell j hj'
    rw [hj, ← Nat.add_assoc] at this
    exact this
  haveI : Inhabited Ky := ⟨zky⟩
  obtain ⟨f, hf⟩ := choose_lt hex
  have hl : ((List.range n).map f).length = n := by simp
  have hca : a = none → c = 0 := by
    intro ha0
    subst ha0
    exact okc h
  refine ⟨(List.range n).map f, ⟨fun k hk => ?_, a, b, o, c, by rw [hl], by rw [hl]; exact hnc, hca, fun h0 => ?_, fun i hi => ?_⟩, by rw [hl]; exact hn⟩
  · obtain ⟨i, hi, rfl⟩ := List.mem_map.1 hk
    exact (hf i (List.mem_range.1 hi)).2
  · rw [hl] at h0
    exact ⟨(ha h0).1, (ha h0).2, trivial⟩
  · rw [hl] at hi
    simp only [List.getElem_map, List.getElem_range]
    exact (hf i hi).1
theorem ring_sized {d0 d1 : DataW H} (h : ((DataW.agg [d0, d1]).weights Try.prog 69).all (· ≤ reachBytes) = true) : (d0.weights Try.prog 55).all (· ≤ reachBytes) = true := by
  rw [List.all_eq_true] at h
  simp only [DataW.weights, Try.underlying69, DataW.weightsEach, List.map_cons, List.map_nil, List.append_nil] at h
  exact List.all_eq_true.2 fun n hn => h n (List.mem_append_left _ hn)
set_option maxRecDepth 100000 in
theorem open_ring {fuel : Nat} {cs : List Value} {x : DataW H × List MemPlace} (h : DataW.trod enc Try.prog W 0 (fun _ => true) true fuel 69 cs = some x) (hs : (x.1.weights Try.prog 69).all (· ≤ reachBytes) = true) :
    ∃ (v : Value) (nx : Nat) (l : List Ky), cs = [v, .int .u64 nx] ∧ RdK W (fun _ => True) v l ∧ l.length ≤ 140737488355328 := by
  obtain ⟨xs, k, _, hx, hl, hxl, hf⟩ := DataW.trod_struct Try.underlying69 h
  rw [Try.cells69] at hl
  obtain ⟨x0, x1, rfl⟩ : ∃ x0 x1, xs = [x0, x1] := by
    match xs, (show xs.length = 2 from hxl) with
    | [a, b], _ => exact ⟨a, b, rfl⟩
  rw [hx] at hs
  have s0 := ring_sized (d0 := x0.1) (d1 := x1.1) hs
  obtain ⟨c0, c1, rfl⟩ : ∃ c0 c1, cs = [c0, c1] := by
    match cs, hl with
    | [a, b], _ => exact ⟨a, b, rfl⟩
  have f0 : DataW.trod enc Try.prog W 0 (fun _ => true) true k 55 [c0] = some x0 := by
    have := hf 0 _ rfl
    change DataW.trod enc Try.prog W 0 (fun _ => true) true k 55 ((([c0, c1] : List Value).drop 0).take (Try.prog.cellsOf 55)) = some x0 at this
    rw [Try.cells55] at this
    exact this
  have f1 : DataW.trod enc Try.prog W 0 (fun _ => true) true k 67 [c1] = some x1 := by
    have := hf 1 _ rfl
    change DataW.trod enc Try.prog W 0 (fun _ => true) true k 67 ((([c0, c1] : List Value).drop 1).take (Try.prog.cellsOf 67)) = some x1 at this
    rw [Try.cells67] at this
    exact this
  obtain ⟨l, h1, h2⟩ := open_keys f0 s0
  obtain ⟨z1, e1, _, w1⟩ := DataW.trod_int (k := .u64) Try.underlying67 f1
  obtain ⟨N, rfl, _⟩ := u64_of w1
  simp only [List.cons.injEq, and_true] at e1
  subst e1
  exact ⟨c0, N, l, rfl, h1, h2⟩
theorem step_sized {d0 d1 d2 d3 d4 : DataW H} (h : ((DataW.agg [d0, d1, d2, d3, d4]).weights Try.prog 72).all (· ≤ reachBytes) = true) : (d4.weights Try.prog 69).all (· ≤ reachBytes) = true := by
  rw [List.all_eq_true] at h
  simp only [DataW.weights, Try.underlying72, DataW.weightsEach, List.map_cons, List.map_nil, List.append_nil] at h
  exact List.all_eq_true.2 fun n hn => h n (by simp only [List.mem_append]; exact Or.inr (Or.inr (Or.inr (Or.inr hn))))
set_option maxRecDepth 100000 in
theorem open_step {fuel : Nat} {cs : List Value} {x : DataW H × List MemPlace} (h : DataW.trod enc Try.prog W 0 (fun _ => true) true fuel 72 cs = some x) (hs : (x.1.weights Try.prog 72).all (· ≤ reachBytes) = true) : ∃ t : Sp, cs = t.cells ∧ t.In W := by
  obtain ⟨xs, k, _, hx, hl, hxl, hf⟩ := DataW.trod_struct Try.underlying72 h
  rw [Try.cells72] at hl
  obtain ⟨x0, x1, x2, x3, x4, rfl⟩ : ∃ x0 x1 x2 x3 x4, xs = [x0, x1, x2, x3, x4] := by
    match xs, (show xs.length = 5 from hxl) with
    | [a, b, c, d, e], _ => exact ⟨a, b, c, d, e, rfl⟩
  rw [hx] at hs
  have s4 := step_sized (d0 := x0.1) (d1 := x1.1) (d2 := x2.1) (d3 := x3.1) (d4 := x4.1) hs
  have f0 : DataW.trod enc Try.prog W 0 (fun _ => true) true k 3 ((cs.drop 0).take 1) = some x0 := by
    have := hf 0 _ rfl
    change DataW.trod enc Try.prog W 0 (fun _ => true) true k 3 ((cs.drop 0).take (Try.prog.cellsOf 3)) = some x0 at this
    rw [Try.cells3] at this
    exact this
  have f1 : DataW.trod enc Try.prog W 0 (fun _ => true) true k 70 ((cs.drop 1).take 32) = some x1 := by
    have := hf 1 _ rfl
    change DataW.trod enc Try.prog W 0 (fun _ => true) true k 70 ((cs.drop 1).take (Try.prog.cellsOf 70)) = some x1 at this
    rw [Try.cells70] at this
    exact this
  have f2 : DataW.trod enc Try.prog W 0 (fun _ => true) true k 2 ((cs.drop 33).take 1) = some x2 := by
    have := hf 2 _ rfl
    change DataW.trod enc Try.prog W 0 (fun _ => true) true k 2 ((cs.drop 33).take (Try.prog.cellsOf 2)) = some x2 at this
    rw [Try.cells2] at this
    exact this
  have f3 : DataW.trod enc Try.prog W 0 (fun _ => true) true k 67 ((cs.drop 34).take 1) = some x3 := by
    have := hf 3 _ rfl
    change DataW.trod enc Try.prog W 0 (fun _ => true) true k 67 ((cs.drop 34).take (Try.prog.cellsOf 67)) = some x3 at this
    rw [Try.cells67] at this
    exact this
  have f4 : DataW.trod enc Try.prog W 0 (fun _ => true) true k 69 ((cs.drop 35).take 2) = some x4 := by
    have := hf 4 _ rfl
    change DataW.trod enc Try.prog W 0 (fun _ => true) true k 69 ((cs.drop 35).take (Try.prog.cellsOf 69)) = some x4 at this
    rw [Try.cells69] at this
    exact this
  obtain ⟨z0, e0, _, _⟩ := DataW.trod_int (k := .i64) Try.underlying3 f0
  obtain ⟨D, hD, hDl⟩ := open_sec f1
  obtain ⟨z2, e2, _, w2⟩ := DataW.trod_int (k := .i64) Try.underlying2 f2
  obtain ⟨z3, e3, _, w3⟩ := DataW.trod_int (k := .u64) Try.underlying67 f3
  obtain ⟨N, rfl, _⟩ := u64_of w3
  obtain ⟨v, nx, l, e4, hr, hrl⟩ := open_ring f4 s4
  refine ⟨⟨z0, D, z2, N, v, nx, l⟩, ?_, hDl, i64_of w2, hr, hrl⟩
  have hsp : cs = (cs.drop 0).take 1 ++ ((cs.drop 1).take 32 ++ ((cs.drop 33).take 1 ++ ((cs.drop 34).take 1 ++ (cs.drop 35).take 2))) := by
    have h5 : (cs.drop 35).take 2 = cs.drop 35 := List.take_of_length_le (by rw [List.length_drop]; omega)
    rw [h5]
    have h4 : (cs.drop 34).take 1 ++ cs.drop 35 = cs.drop 34 := by
      have := List.take_append_drop 1 (cs.drop 34)
      rwa [List.drop_drop] at this
    rw [h4]
    have h3 : (cs.drop 33).take 1 ++ cs.drop 34 = cs.drop 33 := by
      have := List.take_append_drop 1 (cs.drop 33)
      rwa [List.drop_drop] at this
    rw [h3]
    have h2 : (cs.drop 1).take 32 ++ cs.drop 33 = cs.drop 1 := by
      have := List.take_append_drop 32 (cs.drop 1)
      rwa [List.drop_drop] at this
    rw [h2]
    exact (List.take_append_drop 1 cs).symm
  rw [hsp, e0, hD, e2, e3, e4]
  rfl
theorem open_S {fuel : Nat} {v : Value} {y : DataW H × List MemPlace} (h : DataW.trod enc Try.prog W 0 (fun _ => true) true fuel 22 [v] = some y) (hsz : (y.1.weights Try.prog 22).all (· ≤ reachBytes) = true) :
    ∃ (a : Option Addr) (b o n c : Nat) (T : Nat → Sp), v = .slice a n c ∧ n ≤ 140737488355328 ∧ ArgS W a b o n T := by
  obtain ⟨a, b, o, n, c, hv, hnc, hn, ha, hel⟩ := open_rows Try.underlying22 Try.cells72 (by decide) (by rw [Try.bytes72]; decide) h hsz
  have hex : ∀ i, i < n → ∃ q : Sp, W.rangeAt b (o + i * 37) q.cells ∧ q.In W := by
    intro i hi
    obtain ⟨cs, m, x, hcl, hcell, ht, hs⟩ := hel i hi
    obtain ⟨q, rfl, hq⟩ := open_step ht hs
    refine ⟨q, fun j v hj => ?_, hq⟩
    have hj' : j < 37 := by rw [← hcl]; exact (List.getElem?_eq_some_iff.1 hj).1
    have := hcell j hj'
    rw [hj, ← Nat.add_assoc] at this
    exact this
  haveI : Inhabited Sp := ⟨⟨0, [], 0, 0, .bool false, 0, []⟩⟩
  obtain ⟨f, hf⟩ := choose_lt hex
  exact ⟨a, b, o, n, c, f, hv, hn, ha, hf⟩
end
end Go.Proofs.Ytmpcpakdocaieaa
