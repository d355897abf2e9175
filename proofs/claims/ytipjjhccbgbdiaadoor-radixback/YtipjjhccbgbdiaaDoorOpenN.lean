/- What a reading of the statement's argument gives the walks: a row of numbers. -/
import Derived.Test.YtipjjhccbgbdiaaDoorOpen
namespace Go.Proofs.YtipjjhccbgbdiaaDoor
open Go Go.RowKit Go.ChangeShapes Go.WideShapes Go.Deep

theorem Tryd.bytes2 : Tryd.prog.bytesOf 2 = 8 := by kernel_rfl

/-- A row of numbers, as the walks read it. -/
def ArgN (W : World) (v : Value) : Prop :=
  ∃ (aN : Option Addr) (bN oN nN cN : Nat) (M : Nat → Int), v = .slice aN nN cN ∧ nN ≤ 140737488355328 ∧ (0 < nN → aN = some ⟨bN, oN, none⟩ ∧ bN < W.heap.size) ∧ ∀ i, i < nN → W.cell? ⟨bN, oN + i, none⟩ = some (.int .i64 (M i)) ∧ -9223372036854775808 ≤ M i ∧ M i ≤ 9223372036854775807

section
variable {H : Type} {enc : TypeId × Value → H} {W : World}
theorem open_N {fuel : Nat} {v : Value} {y : DataW H × List MemPlace} (h : DataW.trod enc Tryd.prog W 0 (fun _ => true) true fuel 24 [v] = some y) (hsz : (y.1.weights Tryd.prog 24).all (· ≤ reachBytes) = true) : ArgN W v := by
  rcases open_ints Tryd.underlying24 Tryd.underlying2 Tryd.cells2 h with ⟨hcs, _⟩ | ⟨a, len, cap, zs, hcs, _, hl, hm, hz, hx, hr, hwf⟩
  · simp only [List.cons.injEq, and_true] at hcs
    exact ⟨none, 0, 0, 0, 0, fun _ => 0, hcs, by omega, fun h => by omega, fun i h => by omega⟩
  · simp only [List.cons.injEq, and_true] at hcs
    simp only [if_true] at hz
    rw [hx] at hsz
    obtain ⟨hs1, _⟩ := all_slice Tryd.underlying24 hsz
    rw [Tryd.bytes2] at hs1
    simp [lits] at hs1
    have hrb := reachBytes_lt
    have hlen : len ≤ 140737488355328 := by omega
    by_cases h0 : len = 0
    · exact ⟨some a, 0, 0, len, cap, fun _ => 0, hcs, hlen, fun h => by omega, fun i h => by omega⟩
    · obtain ⟨b, off, spot⟩ := a
      have c0 := hr 0 (by omega)
      have hspot : spot = none := by simpa [Addr.add] using World.cell?_spot c0
      subst hspot
      have hblt : b < W.heap.size := by
        rw [add_none] at c0
        exact World.block_lt_of_cell? W _ c0
      refine ⟨some ⟨b, off, none⟩, b, off, len, cap, fun i => zs.getD i 0, hcs, hlen, fun _ => ⟨rfl, hblt⟩, fun i hi => ?_⟩
      have q := hr i (by omega)
      rw [add_none] at q
      have hzi : i < zs.length := by omega
      have b1 := bounds_i64 (hwf zs[i] (List.getElem_mem hzi))
      have e : zs.getD i 0 = zs[i] := by simp [List.getD, List.getElem?_eq_getElem hzi]
      refine ⟨q, ?_, ?_⟩
      · show _ ≤ zs.getD i 0
        rw [e]; omega
      · show zs.getD i 0 ≤ _
        rw [e]; omega
end
end Go.Proofs.YtipjjhccbgbdiaaDoor
