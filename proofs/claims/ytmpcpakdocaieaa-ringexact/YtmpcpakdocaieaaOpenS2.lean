/- The argument of RingExact, opened: steps, with the bytes of their raw rings bounded. -/
import Derived.Test.YtmpcpakdocaieaaOpenS
namespace Go.Proofs.Ytmpcpakdocaieaa
open Go Go.RowKit Go.ChangeShapes Go.WideShapes Go.ChangeAt Go.Joins Go.Deep

/-- The argument, its raw rings no longer than memory bears. -/
def ArgB (W : World) (a : Option Addr) (b o n : Nat) (T : Nat → Sp) : Prop := ArgS W a b o n T ∧ ∀ i, i < n → (T i).rl.length ≤ 2932031007402
section
variable {H : Type} {enc : TypeId × Value → H} {W : World}
set_option maxRecDepth 100000 in
theorem open_len {t e : TypeId} (ht : Try.prog.underlying t = some (.slice e)) {fuel : Nat} {a : Option Addr} {n c : Nat} {y : DataW H × List MemPlace}
    (h : DataW.trod enc Try.prog W 0 (fun _ => true) true fuel t [.slice a n c] = some y) (hsz : (y.1.weights Try.prog t).all (· ≤ reachBytes) = true) : n * Try.prog.bytesOf e ≤ 140737488355328 := by
  rcases DataW.trod_slice ht h with ⟨hcs, _⟩ | ⟨a, len, cap, elems, rest, n2, _, hcs, hx, _, hl', _, hlen, hel, _, _⟩
  · simp only [List.cons.injEq, and_true] at hcs
    injection hcs with _ e1 _
    subst e1
    exact Nat.le_trans (Nat.le_of_eq (Nat.zero_mul _)) (Nat.zero_le _)
  · simp only [List.cons.injEq, and_true] at hcs
    injection hcs with _ e1 _
    subst e1
    rw [hx] at hsz
    obtain ⟨hs1, hs2⟩ := all_slice ht hsz
    simp only [List.length_map] at hs1
    have hrb := reachBytes_lt
    have h3 : n * Try.prog.bytesOf e ≤ (elems.length + rest.length) * Try.prog.bytesOf e := Nat.mul_le_mul_right _ (by omega)
    omega
theorem open_keys2 {fuel : Nat} {v : Value} {y : DataW H × List MemPlace} (h : DataW.trod enc Try.prog W 0 (fun _ => true) true fuel 55 [v] = some y) (hsz : (y.1.weights Try.prog 55).all (· ≤ reachBytes) = true) :
    ∃ l : List Ky, RdK W (fun _ => True) v l ∧ l.length ≤ 140737488355328 ∧ l.length ≤ 2932031007402 := by
  obtain ⟨l, h1, h2⟩ := open_keys h hsz
  obtain ⟨_, a, b, o, c, rfl, _⟩ := h1.open
  have h3 := open_len Try.underlying55 h hsz
  rw [Try.bytes107] at h3
  exact ⟨l, h1, h2, by omega⟩
set_option maxRecDepth 100000 in
theorem open_ring2 {fuel : Nat} {cs : List Value} {x : DataW H × List MemPlace} (h : DataW.trod enc Try.prog W 0 (fun _ => true) true fuel 69 cs = some x) (hs : (x.1.weights Try.prog 69).all (· ≤ reachBytes) = true) :
    ∃ (v : Value) (nx : Nat) (l : List Ky), cs = [v, .int .u64 nx] ∧ RdK W (fun _ => True) v l ∧ l.length ≤ 140737488355328 ∧ l.length ≤ 2932031007402 := by
  obtain ⟨xs, k, _, hx, hl, hxl, hf⟩ := DataW.trod_struct Try.underlying69 h
  rw [Try.cells69] at hl
  obtain ⟨x0, x1, rfl⟩ : ∃ x0 x1, xs = [x0, x1] := by
    match xs, (show xs.length = 2 from hxl) with
    | [a, b], _ => exact ⟨a, b, rfl⟩
  rw [hx] at hs
  have s0 := ring_sized (d0 := x0.1) (d1 := x1.1) hs
  obtain ⟨c0, c1, rfl⟩ : ∃ c0 c1, cs = [c0, c1] := by
    match cs, hl with
    | [a, b], _ => exact ⟨a, b, rfl⟩
  have f0 : DataW.trod enc Try.prog W 0 (fun _ => true) true k 55 [c0] = some x0 := by
    have := hf 0 _ rfl
    change DataW.trod enc Try.prog W 0 (fun _ => true) true k 55 ((([c0, c1] : List Value).drop 0).take (Try.prog.cellsOf 55)) = some x0 at this
    rw [Try.cells55] at this
    exact this
  have f1 : DataW.trod enc Try.prog W 0 (fun _ => true) true k 67 [c1] = some x1 := by
    have := hf 1 _ rfl
    change DataW.trod enc Try.prog W 0 (fun _ => true) true k 67 ((([c0, c1] : List Value).drop 1).take (Try.prog.cellsOf 67)) = some x1 at this
    rw [Try.cells67] at this
    exact this
  obtain ⟨l, h1, h2⟩ := open_keys2 f0 s0
  obtain ⟨z1, e1, _, w1⟩ := DataW.trod_int (k := .u64) Try.underlying67 f1
  obtain ⟨N, rfl, _⟩ := u64_of w1
  simp only [List.cons.injEq, and_true] at e1
  subst e1
  exact ⟨c0, N, l, rfl, h1, h2⟩
set_option maxRecDepth 100000 in
theorem open_step2 {fuel : Nat} {cs : List Value} {x : DataW H × List MemPlace} (h : DataW.trod enc Try.prog W 0 (fun _ => true) true fuel 72 cs = some x) (hs : (x.1.weights Try.prog 72).all (· ≤ reachBytes) = true) : ∃ t : Sp, cs = t.cells ∧ t.In W ∧ t.rl.length ≤ 2932031007402 := by
  obtain ⟨xs, k, _, hx, hl, hxl, hf⟩ := DataW.trod_struct Try.underlying72 h
  rw [Try.cells72] at hl
  obtain ⟨x0, x1, x2, x3, x4, rfl⟩ : ∃ x0 x1 x2 x3 x4, xs = [x0, x1, x2, x3, x4] := by
    match xs, (show xs.length = 5 from hxl) with
    | [a, b, c, d, e], _ => exact ⟨a, b, c, d, e, rfl⟩
  rw [hx] at hs
  have s4 := step_sized (d0 := x0.1) (d1 := x1.1) (d2 := x2.1) (d3 := x3.1) (d4 := x4.1) hs
  have f0 : DataW.trod enc Try.prog W 0 (fun _ => true) true k 3 ((cs.drop 0).take 1) = some x0 := by
    have := hf 0 _ rfl
    change DataW.trod enc Try.prog W 0 (fun _ => true) true k 3 ((cs.drop 0).take (Try.prog.cellsOf 3)) = some x0 at this
    rw [Try.cells3] at this
    exact this
  have f1 : DataW.trod enc Try.prog W 0 (fun _ => true) true k 70 ((cs.drop 1).take 32) = some x1 := by
    have := hf 1 _ rfl
    change DataW.trod enc Try.prog W 0 (fun _ => true) true k 70 ((cs.drop 1).take (Try.prog.cellsOf 70)) = some x1 at this
    rw [Try.cells70] at this
    exact this
  have f2 : DataW.trod enc Try.prog W 0 (fun _ => true) true k 2 ((cs.drop 33).take 1) = some x2 := by
    have := hf 2 _ rfl
    change DataW.trod enc Try.prog W 0 (fun _ => true) true k 2 ((cs.drop 33).take (Try.prog.cellsOf 2)) = some x2 at this
    rw [Try.cells2] at this
    exact this
  have f3 : DataW.trod enc Try.prog W 0 (fun _ => true) true k 67 ((cs.drop 34).take 1) = some x3 := by
    have := hf 3 _ rfl
    change DataW.trod enc Try.prog W 0 (fun _ => true) true k 67 ((cs.drop 34).take (Try.prog.cellsOf 67)) = some x3 at this
    rw [Try.cells67] at this
    exact this
  have f4 : DataW.trod enc Try.prog W 0 (fun _ => true) true k 69 ((cs.drop 35).take 2) = some x4 := by
    have := hf 4 _ rfl
    change DataW.trod enc Try.prog W 0 (fun _ => true) true k 69 ((cs.drop 35).take (Try.prog.cellsOf 69)) = some x4 at this
    rw [Try.cells69] at this
    exact this
  obtain ⟨z0, e0, _, _⟩ := DataW.trod_int (k := .i64) Try.underlying3 f0
  obtain ⟨D, hD, hDl⟩ := open_sec f1
  obtain ⟨z2, e2, _, w2⟩ := DataW.trod_int (k := .i64) Try.underlying2 f2
  obtain ⟨z3, e3, _, w3⟩ := DataW.trod_int (k := .u64) Try.underlying67 f3
  obtain ⟨N, rfl, _⟩ := u64_of w3
  obtain ⟨v, nx, l, e4, hr, hrl, hrk⟩ := open_ring2 f4 s4
  refine ⟨⟨z0, D, z2, N, v, nx, l⟩, ?_, ⟨hDl, i64_of w2, hr, hrl⟩, hrk⟩
  have hsp : cs = (cs.drop 0).take 1 ++ ((cs.drop 1).take 32 ++ ((cs.drop 33).take 1 ++ ((cs.drop 34).take 1 ++ (cs.drop 35).take 2))) := by
    have h5 : (cs.drop 35).take 2 = cs.drop 35 := List.take_of_length_le (by rw [List.length_drop]; omega)
    rw [h5]
    have h4 : (cs.drop 34).take 1 ++ cs.drop 35 = cs.drop 34 := by
      have := List.take_append_drop 1 (cs.drop 34)
      rwa [List.drop_drop] at this
    rw [h4]
    have h3 : (cs.drop 33).take 1 ++ cs.drop 34 = cs.drop 33 := by
      have := List.take_append_drop 1 (cs.drop 33)
      rwa [List.drop_drop] at this
    rw [h3]
    have h2 : (cs.drop 1).take 32 ++ cs.drop 33 = cs.drop 1 := by
      have := List.take_append_drop 32 (cs.drop 1)
      rwa [List.drop_drop] at this
    rw [h2]
    exact (List.take_append_drop 1 cs).symm
  rw [hsp, e0, hD, e2, e3, e4]
  rfl
theorem open_S2 {fuel : Nat} {v : Value} {y : DataW H × List MemPlace} (h : DataW.trod enc Try.prog W 0 (fun _ => true) true fuel 22 [v] = some y) (hsz : (y.1.weights Try.prog 22).all (· ≤ reachBytes) = true) :
    ∃ (a : Option Addr) (b o n c : Nat) (T : Nat → Sp), v = .slice a n c ∧ n ≤ 140737488355328 ∧ ArgB W a b o n T := by
  obtain ⟨a, b, o, n, c, hv, hnc, hn, ha, hel⟩ := open_rows Try.underlying22 Try.cells72 (by decide) (by rw [Try.bytes72]; decide) h hsz
  have hex : ∀ i, i < n → ∃ q : Sp, W.rangeAt b (o + i * 37) q.cells ∧ q.In W ∧ q.rl.length ≤ 2932031007402 := by
    intro i hi
    obtain ⟨cs, m, x, hcl, hcell, ht, hs⟩ := hel i hi
    obtain ⟨q, rfl, hq⟩ := open_step2 ht hs
    refine ⟨q, fun j v hj => ?_, hq⟩
    have hj' : j < 37 := by rw [← hcl]; exact (List.getElem?_eq_some_iff.1 hj).1
    have := hcell j hj'
    rw [hj, ← Nat.add_assoc] at this
    exact this
  haveI : Inhabited Sp := ⟨⟨0, [], 0, 0, .bool false, 0, []⟩⟩
  obtain ⟨f, hf⟩ := choose_lt hex
  exact ⟨a, b, o, n, c, f, hv, hn, ⟨ha, fun i hi => ⟨(hf i hi).1, (hf i hi).2.1⟩⟩, fun i hi => (hf i hi).2.2⟩
end
end Go.Proofs.Ytmpcpakdocaieaa
