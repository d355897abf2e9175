/- The listed table, out of the row's list. -/
import Derived.Test.YtpbiofnncdneoaaDoorRBase
import Derived.Test.YtpbiofnncdneoaaDoorChecked
import Derived.ProofKit
import Derived.OpenShut
import Derived.SizedLaws
import Derived.Lib.LaidTab
import Derived.Stop.LaidErr
import Derived.LaidMore
import Derived.MakeChecks
import Derived.ChangeOld
import Derived.Handed
import Derived.Lib.SmallJoins
import Derived.SevenTiedAt
namespace Go.Proofs.YtpbiofnncdneoaaDoor
open Go Go.RowKit Go.ChangeShapes Go.WideShapes Go.ChangeAt Go.Joins

theorem tabName : Tryd.prog.globalNamed "postern/record.halved" = some 0 := by kernel_rfl
theorem Tryd.cells64 : Tryd.prog.cellsOf 64 = 1 := by kernel_rfl
def tabZ : List Int := tabL.map fun (n : Nat) => (n : Int)
theorem tabZ_at (i : Nat) (h : i < 16) : tabZ.getD i 0 = (tb i : Int) := by
  have : ∀ k : Fin 16, tabZ.getD k.val 0 = (tb k.val : Int) := by decide
  exact this ⟨i, h⟩
theorem tab_of {W : World} (h : laidMet Tryd.prog [("postern/record.halved", Lib.tabData .u32 tabZ)] W) : Tab W := by
  have h1 := Lib.tabIs_of_head (g := 0) (t := 117) (e := 64) (n := 16) tabName (by kernel_rfl) (by kernel_rfl) Tryd.underlying64 Tryd.cells64 (by kernel_rfl) h
  have hc : ∀ i, i < 16 → W.cell? ⟨0, i, none⟩ = some (.int .u32 (tb i)) := fun i hi => by
    have := h1.cell tabName i (by simpa [tabZ, tabL] using hi)
    rw [tabZ_at i hi] at this
    exact this
  exact ⟨World.block_lt_of_cell? W _ (hc 0 (by decide)), hc⟩
theorem ownD : ownKnob Tryd.prog.godebug = none := by kernel_rfl
theorem laidOutD : laidOutB Tryd.prog = true := by kernel_rfl

end Go.Proofs.YtpbiofnncdneoaaDoor
