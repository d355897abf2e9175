/- WalApart's argument, opened. -/
import Derived.Test.YtpbiofnncdneoaaDoorOpW
namespace Go.Proofs.YtpbiofnncdneoaaDoor
open Go Go.RowKit Go.ChangeShapes Go.WideShapes Go.ChangeAt Go.Joins Go.Deep

theorem Tryd.cells4 : Tryd.prog.cellsOf 4 = 1 := by kernel_rfl
theorem Tryd.cells57 : Tryd.prog.cellsOf 57 = 1 := by kernel_rfl
theorem Tryd.cells59 : Tryd.prog.cellsOf 59 = 3 := by kernel_rfl
theorem Tryd.bytes4 : Tryd.prog.bytesOf 4 = 1 := by kernel_rfl
section
variable {H : Type} {enc : TypeId × Value → H} {W : World}
/-- A slice of truth values. -/
theorem open_bools {fuel : Nat} {v : Value} {y : DataW H × List MemPlace} (h : DataW.trod enc Tryd.prog W 0 (fun _ => true) true fuel 57 [v] = some y) (hsz : (y.1.weights Tryd.prog 57).all (· ≤ reachBytes) = true) :
    ∃ (a : Option Addr) (b o n c : Nat) (T : Nat → Bool), v = .slice a n c ∧ (0 < n → a = some ⟨b, o, none⟩ ∧ b < W.heap.size) ∧ ∀ i, i < n → W.cell? ⟨b, o + i, none⟩ = some (.bool (T i)) := by
  obtain ⟨a, b, o, n, c, hv, _, hn, hat, hel⟩ := open_rows Tryd.underlying57 Tryd.cells4 (by decide) (by rw [Tryd.bytes4]; decide) h hsz
  have hex : ∀ i, i < n → ∃ l : Bool, W.cell? ⟨b, o + i, none⟩ = some (.bool l) := by
    intro i hi
    obtain ⟨cs, m, x, hl, hc, ht, hs⟩ := hel i hi
    obtain ⟨l, rfl, _⟩ := DataW.trod_bool Tryd.underlying4 ht
    have := hc 0 (by decide)
    rw [Nat.mul_one, Nat.add_zero] at this
    exact ⟨l, this⟩
  obtain ⟨f, hf⟩ := choose_lt hex
  exact ⟨a, b, o, n, c, f, hv, hat, hf⟩
theorem apart_sized {d0 d1 d2 : DataW H} (h : ((DataW.agg [d0, d1, d2]).weights Tryd.prog 59).all (· ≤ reachBytes) = true) : (d0.weights Tryd.prog 22).all (· ≤ reachBytes) = true ∧ (d1.weights Tryd.prog 22).all (· ≤ reachBytes) = true ∧ (d2.weights Tryd.prog 57).all (· ≤ reachBytes) = true := by
  rw [List.all_eq_true] at h
  simp only [DataW.weights, Tryd.underlying59, DataW.weightsEach, List.map_cons, List.map_nil, List.append_nil] at h
  exact ⟨List.all_eq_true.2 fun n hn => h n (by simp only [List.mem_append]; exact Or.inl hn), List.all_eq_true.2 fun n hn => h n (by simp only [List.mem_append]; exact Or.inr (Or.inl hn)), List.all_eq_true.2 fun n hn => h n (by simp only [List.mem_append]; exact Or.inr (Or.inr hn))⟩
set_option maxRecDepth 100000 in
theorem open_apart_arg {fuel : Nat} {cs : List Value} {x : DataW H × List MemPlace} (h : DataW.trod enc Tryd.prog W 0 (fun _ => true) true fuel 59 cs = some x) (hs : (x.1.weights Tryd.prog 59).all (· ≤ reachBytes) = true) :
    ∃ (a1 a2 a3 : Option Addr) (g1 o1 n1 c1 g2 o2 n2 c2 g3 o3 n3 c3 : Nat) (la lc : List (List UInt8)) (T : Nat → Bool), cs = [.slice a1 n1 c1, .slice a2 n2 c2, .slice a3 n3 c3] ∧ RowS W (fun k => k < W.heap.size) a1 g1 o1 la ∧ RowS W (fun k => k < W.heap.size) a2 g2 o2 lc ∧ la.length = n1 ∧ lc.length = n2 ∧
      (∀ r ∈ la, r.length ≤ 140737488355328) ∧ (∀ r ∈ lc, r.length ≤ 140737488355328) ∧ ((0 < n3 → a3 = some ⟨g3, o3, none⟩ ∧ g3 < W.heap.size) ∧ ∀ i, i < n3 → W.cell? ⟨g3, o3 + i, none⟩ = some (.bool (T i))) := by
  obtain ⟨xs, k, _, hx, hl, hxl, hf⟩ := DataW.trod_struct Tryd.underlying59 h
  rw [Tryd.cells59] at hl
  obtain ⟨x0, x1, x2, rfl⟩ : ∃ x0 x1 x2, xs = [x0, x1, x2] := by
    match xs, (show xs.length = 3 from hxl) with
    | [a, b, c], _ => exact ⟨a, b, c, rfl⟩
  rw [hx] at hs
  obtain ⟨s0, s1, s2⟩ := apart_sized (d0 := x0.1) (d1 := x1.1) (d2 := x2.1) hs
  obtain ⟨c0, c1, c2, rfl⟩ : ∃ c0 c1 c2, cs = [c0, c1, c2] := by
    match cs, hl with
    | [a, b, c], _ => exact ⟨a, b, c, rfl⟩
  have f0 : DataW.trod enc Tryd.prog W 0 (fun _ => true) true k 22 [c0] = some x0 := by
    have := hf 0 _ rfl
    change DataW.trod enc Tryd.prog W 0 (fun _ => true) true k 22 ((([c0, c1, c2] : List Value).drop 0).take (Tryd.prog.cellsOf 22)) = some x0 at this
    rw [Tryd.cells22] at this
    exact this
  have f1 : DataW.trod enc Tryd.prog W 0 (fun _ => true) true k 22 [c1] = some x1 := by
    have := hf 1 _ rfl
    change DataW.trod enc Tryd.prog W 0 (fun _ => true) true k 22 ((([c0, c1, c2] : List Value).drop 1).take (Tryd.prog.cellsOf 22)) = some x1 at this
    rw [Tryd.cells22] at this
    exact this
  have f2 : DataW.trod enc Tryd.prog W 0 (fun _ => true) true k 57 [c2] = some x2 := by
    have := hf 2 _ rfl
    change DataW.trod enc Tryd.prog W 0 (fun _ => true) true k 57 ((([c0, c1, c2] : List Value).drop 2).take (Tryd.prog.cellsOf 57)) = some x2 at this
    rw [Tryd.cells57] at this
    exact this
  obtain ⟨a1, g1, o1, n1, m1, la, rfl, p1, _, p2, p3⟩ := open_bodies f0 s0
  obtain ⟨a2, g2, o2, n2, m2, lc, rfl, q1, _, q2, q3⟩ := open_bodies f1 s1
  obtain ⟨a3, g3, o3, n3, m3, T, rfl, r1, r2⟩ := open_bools f2 s2
  exact ⟨a1, a2, a3, g1, o1, n1, m1, g2, o2, n2, m2, g3, o3, n3, m3, la, lc, T, rfl, p2, q2, p1, q1, p3, q3, r1, r2⟩
end
end Go.Proofs.YtpbiofnncdneoaaDoor
