/- The table of the sums in memory. -/
import Derived.Test.YtpbiofnncdneoaaDoorBase
import Derived.Test.YtpbiofnncdneoaaDoorFrm
namespace Go.Proofs.YtpbiofnncdneoaaDoor
open Go Go.RowKit

/-- The table that the program's text lays. -/
def Tab (w : World) : Prop := 0 < w.heap.size ∧ ∀ i, i < 16 → w.cell? ⟨0, i, none⟩ = some (.int .u32 (tb i))
theorem Tab.on {w w' : World} {row : Option Nat} (h : Tab w) (hg : w.grownBy w' row) (hr : row ≠ some 0) : Tab w' :=
  ⟨Nat.lt_of_lt_of_le h.1 hg.size, fun i hi => by rw [cell_at hg h.1 hr]; exact h.2 i hi⟩
theorem Tab.keep {w w' : World} (h : Tab w) (hg : w.grownBy w' none) : Tab w' := h.on hg (by simp)
end Go.Proofs.YtpbiofnncdneoaaDoor
