/- The argument of RecordBack, opened. -/
import Derived.Test.YtfalgjdhdgkbfabDoorOpenO
import Derived.Deep.MidRow
namespace Go.Proofs.YtfalgjdhdgkbfabDoor
open Go Go.RowKit Go.ChangeShapes Go.WideShapes Go.ChangeAt Go.Joins Go.Deep

/-- The argument as it lies: n fields of 23 cells each. -/
def ArgO (W : World) (a : Option Addr) (b o n : Nat) (fs : Nat → Fv) : Prop :=
  (0 < n → a = some ⟨b, o, none⟩ ∧ b < W.heap.size) ∧ ∀ i, i < n → W.rangeAt b (o + i * 23) (fs i).cells ∧ (fs i).In W (fun _ => True)
theorem Fv.cells_length {o : Fv} {W : World} {G : Nat → Prop} (h : o.In W G) : o.cells.length = 23 := by
  unfold Fv.cells Lib.byteCells
  simp [h.1]
theorem Tryd.bytes33 : Tryd.prog.bytesOf 33 = 88 := by kernel_rfl
section
variable {H : Type} {enc : TypeId × Value → H} {W : World}
theorem open_O {fuel : Nat} {v : Value} {y : DataW H × List MemPlace} (h : DataW.trod enc Tryd.prog W 0 (fun _ => true) true fuel 22 [v] = some y) (hsz : (y.1.weights Tryd.prog 22).all (· ≤ reachBytes) = true) :
    ∃ (a : Option Addr) (b o n c : Nat) (fs : Nat → Fv), v = .slice a n c ∧ n ≤ 140737488355328 ∧ ArgO W a b o n fs := by
  obtain ⟨a, b, o, n, c, hv, hnc, hn, ha, hel⟩ := open_rows Tryd.underlying22 Tryd.cells33 (by decide) (by rw [Tryd.bytes33]; decide) h hsz
  have hex : ∀ i, i < n → ∃ q : Fv, W.rangeAt b (o + i * 23) q.cells ∧ q.In W (fun _ => True) := by
    intro i hi
    obtain ⟨cs, m, x, hcl, hcell, ht, hs⟩ := hel i hi
    obtain ⟨q, rfl, hq⟩ := open_op ht hs
    refine ⟨q, fun j v hj => ?_, hq⟩
    have hj' : j < 23 := by
      have := (List.getElem?_eq_some_iff.1 hj).1
      omega
    rw [← hj, ← hcell j hj', Nat.add_assoc]
  have : Inhabited Fv := ⟨⟨0, 0, 0, 0, 0, false, .bool false, [], []⟩⟩
  obtain ⟨f, hf⟩ := choose_lt hex
  exact ⟨a, b, o, n, c, f, hv, hn, ha, hf⟩
theorem open_argO {r : Reach} {b0 : Nat} {v : Value} {d : DataW H} {p : List MemPlace} (hv : Value.okWide Tryd.prog W r b0 22 v) (h : DataW.Trod enc Tryd.prog W 0 (fun _ => true) true 22 v d p)
    (hsz : (DataW.weightsEach Tryd.prog [22] [d]).all (· ≤ reachBytes) = true) :
    ∃ (a : Option Addr) (b o n c : Nat) (fs : Nat → Fv), v = .slice a n c ∧ n ≤ 140737488355328 ∧ ArgO W a b o n fs := by
  obtain ⟨fuel, hf⟩ := h
  obtain ⟨a, n, c, rfl⟩ := okWide_slice Tryd.underlying22 hv
  refine open_O (fuel := fuel) (y := (d, p)) hf ?_
  simpa [DataW.weightsEach] using hsz
end
end Go.Proofs.YtfalgjdhdgkbfabDoor
