/- What a reading of a slice of steps gives the walk. -/
import Derived.Test.YtmiojplbcjhggaaDoorPtX
import Derived.Test.YtmiojplbcjhggaaDoorSameZ
import Derived.Test.YtmiojplbcjhggaaDoorOpenW
namespace Go.Proofs.YtmiojplbcjhggaaDoor
open Go Go.RowKit Go.ChangeShapes Go.WideShapes Go.ChangeAt Go.Joins Go.Deep

theorem Tryd.cells37 : Tryd.prog.cellsOf 37 = 3 := by kernel_rfl
theorem Tryd.bytes37 : Tryd.prog.bytesOf 37 = 40 := by kernel_rfl
section
variable {H : Type} {enc : TypeId × Value → H} {W : World}
theorem step_sized {d0 d1 d2 : DataW H} (h : ((DataW.agg [d0, d1, d2]).weights Tryd.prog 37).all (· ≤ reachBytes) = true) : (d2.weights Tryd.prog 23).all (· ≤ reachBytes) = true := by
  rw [List.all_eq_true] at h
  simp only [DataW.weights, Tryd.underlying37, DataW.weightsEach, List.map_cons, List.map_nil, List.append_nil] at h
  exact List.all_eq_true.2 fun n hn => h n (List.mem_append_right _ (List.mem_append_right _ hn))
set_option maxRecDepth 100000 in
theorem open_step {fuel : Nat} {cs : List Value} {x : DataW H × List MemPlace} (h : DataW.trod enc Tryd.prog W 0 (fun _ => true) true fuel 37 cs = some x) (hsz : (x.1.weights Tryd.prog 37).all (· ≤ reachBytes) = true) :
    ∃ (D O : Int) (v : Value) (l : List UInt8), cs = [.int .i64 D, .int .i64 O, v] ∧ Rd W (fun _ => True) v l ∧ l.length ≤ 140737488351232 ∧ -9223372036854775808 ≤ D ∧ D < 9223372036854775808 ∧ -9223372036854775808 ≤ O ∧ O < 9223372036854775808 := by
  obtain ⟨xs, k, _, hx, hl, hxl, hf⟩ := DataW.trod_struct Tryd.underlying37 h
  rw [Tryd.cells37] at hl
  obtain ⟨c0, c1, c2, rfl⟩ : ∃ c0 c1 c2, cs = [c0, c1, c2] := by
    match cs, hl with
    | [a, b, c], _ => exact ⟨a, b, c, rfl⟩
  obtain ⟨x0, x1, x2, rfl⟩ : ∃ x0 x1 x2, xs = [x0, x1, x2] := by
    match xs, (show xs.length = 3 from hxl) with
    | [a, b, c], _ => exact ⟨a, b, c, rfl⟩
  have f0 : DataW.trod enc Tryd.prog W 0 (fun _ => true) true k 3 [c0] = some x0 := by
    have := hf 0 _ rfl
    change DataW.trod enc Tryd.prog W 0 (fun _ => true) true k 3 ((([c0, c1, c2] : List Value).drop 0).take (Tryd.prog.cellsOf 3)) = some x0 at this
    rw [Tryd.cells3'] at this
    exact this
  have f1 : DataW.trod enc Tryd.prog W 0 (fun _ => true) true k 3 [c1] = some x1 := by
    have := hf 1 _ rfl
    change DataW.trod enc Tryd.prog W 0 (fun _ => true) true k 3 ((([c0, c1, c2] : List Value).drop 1).take (Tryd.prog.cellsOf 3)) = some x1 at this
    rw [Tryd.cells3'] at this
    exact this
  have f2 : DataW.trod enc Tryd.prog W 0 (fun _ => true) true k 23 [c2] = some x2 := by
    have := hf 2 _ rfl
    change DataW.trod enc Tryd.prog W 0 (fun _ => true) true k 23 ((([c0, c1, c2] : List Value).drop 2).take (Tryd.prog.cellsOf 23)) = some x2 at this
    rw [Tryd.cells23] at this
    exact this
  have hd : x.1 = DataW.agg [x0.1, x1.1, x2.1] := congrArg Prod.fst hx
  rw [hd] at hsz
  have hs2 := step_sized (d0 := x0.1) (d1 := x1.1) (d2 := x2.1) hsz
  obtain ⟨D, e0, g0, w0⟩ := DataW.trod_int (k := .i64) Tryd.underlying3 f0
  obtain ⟨O, e1, g1, w1⟩ := DataW.trod_int (k := .i64) Tryd.underlying3 f1
  obtain ⟨l, r2, b2⟩ := open_bytes f2 hs2
  simp only [List.cons.injEq, and_true] at e0 e1
  subst e0 e1
  have d := i64_of w0
  have o := i64_of w1
  exact ⟨D, O, c2, l, rfl, r2, b2, d.1, by omega, o.1, by omega⟩
theorem steps_of {fuel : Nat} {v : Value} {y : DataW H × List MemPlace} (h : DataW.trod enc Tryd.prog W 0 (fun _ => true) true fuel 31 [v] = some y) (hsz : (y.1.weights Tryd.prog 31).all (· ≤ reachBytes) = true) :
    ∃ (a : Option Addr) (b o n c : Nat) (D O : Nat → Int) (V : Nat → Value) (L : Nat → List UInt8), v = .slice a n c ∧ n ≤ 140737488355328 ∧ RowsSt W a b o n D O V L := by
  obtain ⟨a, b, o, n, c, hv, hnc, hn, ha, hel⟩ := open_rows Tryd.underlying31 Tryd.cells37 (by decide) (by rw [Tryd.bytes37]; decide) h hsz
  have hex : ∀ i, i < n → ∃ q : Int × Int × Value × List UInt8, W.rangeAt b (o + i * 3) [.int .i64 q.1, .int .i64 q.2.1, q.2.2.1] ∧ Rd W (fun _ => True) q.2.2.1 q.2.2.2 ∧ q.2.2.2.length ≤ 140737488351232 ∧ -9223372036854775808 ≤ q.1 ∧ q.1 < 9223372036854775808 ∧ -9223372036854775808 ≤ q.2.1 ∧ q.2.1 < 9223372036854775808 := by
    intro i hi
    obtain ⟨cs, m, x, hcl, hcell, ht, hs⟩ := hel i hi
    obtain ⟨D, O, c2, l, hcs, h1, h2, h3⟩ := open_step ht hs
    refine ⟨(D, O, c2, l), fun j u hu => ?_, h1, h2, h3⟩
    rw [← hcs] at hu
    have hj : j < 3 := by have := (List.getElem?_eq_some_iff.1 hu).1; omega
    have := hcell j hj
    rw [← Nat.add_assoc] at this
    rw [this]
    exact hu
  obtain ⟨f, hf⟩ := choose_lt hex
  exact ⟨a, b, o, n, c, fun i => (f i).1, fun i => (f i).2.1, fun i => (f i).2.2.1, fun i => (f i).2.2.2, hv, hn, ha, fun i hi => hf i hi⟩
end
end Go.Proofs.YtmiojplbcjhggaaDoor
