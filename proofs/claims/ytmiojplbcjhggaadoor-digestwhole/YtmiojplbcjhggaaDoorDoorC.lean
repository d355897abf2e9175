/- The listed variables, out of the row's list. -/
import Derived.Test.YtmiojplbcjhggaaDoorBase
import Derived.Test.YtmiojplbcjhggaaDoorChecked
import Derived.Test.YtmiojplbcjhggaaDoorRows
import Derived.ProofKit
import Derived.OpenShut
import Derived.SizedLaws
import Derived.Lib.LaidTab
import Derived.Stop.LaidErr
import Derived.LaidMore
import Derived.MakeChecks
import Derived.ChangeOld
import Derived.Handed
import Derived.Lib.SmallJoins
import Derived.SevenTiedAt
namespace Go.Proofs.YtmiojplbcjhggaaDoor
open Go Go.RowKit Go.ChangeShapes Go.WideShapes Go.ChangeAt Go.Joins

theorem stName : Tryd.prog.globalNamed "postern/digest.firstState" = some 0 := by kernel_rfl
theorem ktName : Tryd.prog.globalNamed "postern/digest.roundConstants" = some 1 := by kernel_rfl
theorem Tryd.cells66 : Tryd.prog.cellsOf 66 = 1 := by kernel_rfl
def stZ : List Int := H0.list.map fun (n : Nat) => (n : Int)
def ktZ : List Int := KT.map fun (n : Nat) => (n : Int)
theorem st_is : (Rows.laid_postern_digest_firstState : DataW Unit) = Lib.tabData .u32 stZ := by kernel_rfl
theorem kt_is : (Rows.laid_postern_digest_roundConstants : DataW Unit) = Lib.tabData .u32 ktZ := by kernel_rfl
theorem ktZ_at (i : Nat) (_h : i < 64) : ktZ.getD i 0 = (kt i : Int) := by
  unfold ktZ kt
  rw [List.getD_eq_getElem?_getD, List.getD_eq_getElem?_getD, List.getElem?_map]
  cases KT[i]? <;> rfl
theorem stZ_at (i : Nat) : stZ.getD i 0 = (H0.list.getD i 0 : Int) := by
  unfold stZ
  rw [List.getD_eq_getElem?_getD, List.getD_eq_getElem?_getD, List.getElem?_map]
  cases H0.list[i]? <;> rfl
theorem glob_of {W : World} (h : laidMet Tryd.prog [("postern/digest.firstState", Rows.laid_postern_digest_firstState), ("postern/digest.roundConstants", Rows.laid_postern_digest_roundConstants)] W) : Glob W := by
  rw [st_is, kt_is] at h
  have h1 := Lib.tabIs_of_head (g := 0) (t := 72) (e := 66) (n := 8) stName (by kernel_rfl) (by kernel_rfl) Tryd.underlying66 Tryd.cells66 (by kernel_rfl) h
  have h2 := Lib.tabIs_of_head (g := 1) (t := 84) (e := 66) (n := 64) ktName (by kernel_rfl) (by kernel_rfl) Tryd.underlying66 Tryd.cells66 (by kernel_rfl) h.tail
  have k0 : ∀ i, i < 64 → W.cell? ⟨1, i, none⟩ = some (.int .u32 (kt i)) := fun i hi => by
    have := h2.cell ktName i (by simpa [ktZ, KT] using hi)
    rw [ktZ_at i hi] at this
    exact this
  refine ⟨World.block_lt_of_cell? W _ (k0 0 (by decide)), fun j v hv => ?_, k0⟩
  have hj : j < 8 := (List.getElem?_eq_some_iff.1 hv).1
  have := h1.cell stName j (by simpa [stZ, S8.list] using hj)
  rw [stZ_at j] at this
  rw [Nat.zero_add, this, ← hv, S8.cells, wcs, List.getElem?_map]
  have hl : j < H0.list.length := hj
  rw [List.getElem?_eq_getElem hl, List.getD_eq_getElem?_getD, List.getElem?_eq_getElem hl]
  rfl
theorem ownD : ownKnob Tryd.prog.godebug = none := by kernel_rfl
theorem laidOutD : laidOutB Tryd.prog = true := by kernel_rfl
end Go.Proofs.YtmiojplbcjhggaaDoor
