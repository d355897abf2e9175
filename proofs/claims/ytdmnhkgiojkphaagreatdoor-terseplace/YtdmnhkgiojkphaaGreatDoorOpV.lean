/- The argument of TersePrints (and others): a row of values. -/
import Derived.Test.YtdmnhkgiojkphaaGreatDoorX37
import Derived.Test.YtdmnhkgiojkphaaGreatDoorEqA
import Derived.ChangeOld
import Derived.Lib.SmallJoins
namespace Go.Proofs.YtdmnhkgiojkphaaGreatDoor
open Go Go.RowKit Go.ChangeShapes Go.WideShapes Go.ChangeAt Go.Joins Go.Deep

section
variable {H : Type} {enc : TypeId × Value → H} {W : World}
set_option maxRecDepth 100000 in
theorem open_VL {fuel : Nat} {v : Value} {y : DataW H × List MemPlace} (h : DataW.trod enc Tryz.prog W 0 (fun _ => true) true fuel 22 [v] = some y) (hs : (y.1.weights Tryz.prog 22).all (· ≤ reachBytes) = true) :
    ∃ ts : List Tree, (∃ (a : Option Addr) (c : Nat), v = .slice a ts.length c ∧ ts.length ≤ c ∧ (0 < ts.length → ∃ g o, a = some ⟨g, o, none⟩ ∧ g < W.heap.size ∧ True ∧ RdIs W (fun _ => True) g o ts)) ∧ FitsL ts ∧ ts.length ≤ 140737488355328 ∧ BndL ts := by
  have hrb : reachBytes ≤ 140737488355328 := by decide
  rcases DataW.trod_slice Tryz.underlying22 h with ⟨hcs, hx⟩ | ⟨a, len, cap, elems, rest, n2, hn2, hcs, hx, _, hl', _, hlen, hel, _, _⟩
  · simp only [List.cons.injEq, and_true] at hcs
    exact ⟨[], ⟨none, 0, hcs, Nat.le_refl _, fun h => by simp at h⟩, trivial, by simp, trivial⟩
  · simp only [List.cons.injEq, and_true] at hcs
    rw [Tryz.cells26] at hel
    rw [hx] at hs
    obtain ⟨s1, s2⟩ := all_sliceV Tryz.underlying22 hs
    have hex : ∀ i, i < len → ∃ t : Tree, (∃ a0 a1 a2 a3 a4 a5, W.cell? ((a.add (i * 6)).add 0) = some a0 ∧ W.cell? ((a.add (i * 6)).add 1) = some a1 ∧ W.cell? ((a.add (i * 6)).add 2) = some a2 ∧ W.cell? ((a.add (i * 6)).add 3) = some a3 ∧ W.cell? ((a.add (i * 6)).add 4) = some a4 ∧ W.cell? ((a.add (i * 6)).add 5) = some a5 ∧ RdT W (fun _ => True) t (.agg #[a0, a1, a2, a3, a4, a5])) ∧ Fits t ∧ BndT t := by
      intro i hi
      have hi' := hel i hi
      rw [List.getElem?_eq_getElem (by omega), Option.bind_eq_some_iff] at hi'
      obtain ⟨cs', hc', ht'⟩ := hi'
      obtain ⟨_, hl6, hc6⟩ := World.cells?_some hc'
      obtain ⟨a0, a1, a2, a3, a4, a5, rfl⟩ := six_of hl6
      obtain ⟨t, hT, hF, hB⟩ := open_VB n2 _ _ ht' (s2 _ (List.mem_map.2 ⟨_, List.getElem_mem _, rfl⟩))
      exact ⟨t, ⟨a0, a1, a2, a3, a4, a5, hc6 0 (by omega), hc6 1 (by omega), hc6 2 (by omega), hc6 3 (by omega), hc6 4 (by omega), hc6 5 (by omega), hT⟩, hF, hB⟩
    obtain ⟨f, hf'⟩ := choose_lt hex
    refine ⟨(List.range len).map f, ⟨some a, cap, by rw [hcs]; simp, by simpa using hl', fun h0 => ?_⟩, ?_, ?_, ?_⟩
    · simp only [List.length_map, List.length_range] at h0
      obtain ⟨b, off, spot⟩ := a
      obtain ⟨⟨q0, _, _, _, _, _, z0, _⟩, _⟩ := hf' 0 (by omega)
      have hspot : spot = none := by simpa [Addr.add] using World.cell?_spot z0
      subst hspot
      rw [add_none, add_none] at z0
      refine ⟨b, off, rfl, World.block_lt_of_cell? W _ z0, trivial, RdIs.of _ _ fun i hi => ?_⟩
      have hil : i < len := by simpa using hi
      obtain ⟨⟨a0, a1, a2, a3, a4, a5, z0, z1, z2, z3, z4, z5, hT⟩, _⟩ := hf' i hil
      simp only [add_none] at z0 z1 z2 z3 z4 z5
      refine ⟨a0, a1, a2, a3, a4, a5, z0, z1, z2, z3, z4, z5, ?_⟩
      simpa using hT
    · refine FitsL_of fun t ht => ?_
      obtain ⟨i, hi, rfl⟩ := List.mem_map.1 ht
      exact (hf' i (List.mem_range.1 hi)).2.1
    · rw [Tryz.bytes26] at s1
      simp at s1 ⊢
      omega
    · refine BndL_of fun t ht => ?_
      obtain ⟨i, hi, rfl⟩ := List.mem_map.1 ht
      exact (hf' i (List.mem_range.1 hi)).2.2
end
end Go.Proofs.YtdmnhkgiojkphaaGreatDoor
