/- The list behind so many Adds and Kills. -/
import Derived.Test.YtlgjmhemgfjgnaaVQ
import Derived.Test.YtlgjmhemgfjgnaaRvQ
import Derived.Deep.CutRange
import Derived.Deep.CutBlock
namespace Go.Proofs.Ytlgjmhemgfjgnaa
open Go Go.RowKit
open Go.RowKit (wrap32 wrap64)

/-- the list behind so many Adds and Kills. -/
def ltS (T : Nat → St) : Nat → List Ky
  | 0 => []
  | i + 1 => if (T i).dO = 1 then stepL (ltS T i) (T i) else if (T i).dO = 2 then stepL (ltS T i) (T i) else ltS T i
theorem ltS_ok (T : Nat → St) : ∀ i, chk (ltS T i) = true ∧ (ltS T i).length ≤ i
  | 0 => ⟨rfl, Nat.le_refl _⟩
  | i + 1 => by
    obtain ⟨h1, h2⟩ := ltS_ok T i
    unfold ltS
    split
    · rename_i h
      unfold stepL
      rw [if_pos h]
      exact ⟨chk_add h1 _ _ _, Nat.le_trans (len_add _ _ _ _) (by omega)⟩
    · split
      · rename_i h h'
        unfold stepL
        rw [if_neg h, if_pos h']
        exact ⟨chk_kill h1 _ _, Nat.le_trans (len_kill _ _ _) (by omega)⟩
      · exact ⟨h1, by omega⟩
theorem idx22 (b o n c i : Nat) (h : i < n) (u : World) : (Instr.indexAt 22 (.slice (some ⟨b, o, none⟩) n c) (.int .i64 (i : Nat))).run Try.prog u = .ok (.pointer (some ⟨b, o + i * 20, none⟩)) u := by
  have h0 : ¬ ((i : Int) < 0) := by omega
  have h1 : (i : Int) < (n : Int) := by omega
  have hs : (sizeOf (Try.prog.elem 22)).run Try.prog u = .ok 20 u := by kernel_rfl
  go_simp
theorem neq4 (p : Bool) {x y : Operand} (u : World) : (do eqGuard .neq 4 x y (.bool p) (.bool p); binOp .neq 4 (.bool p) (.bool p) : Sem Value).run Try.prog u = .ok (.bool false) u := by
  cases p <;> kernel_rfl
end Go.Proofs.Ytlgjmhemgfjgnaa
