/-
  DERIVED. GIVEN WITH THE SEED: THE CARDS: each row of YtipjjhccbgbdiaaGreatDoorRows.lean that lists a variable, with what it lists TIED to the program's text (the seventh form; the later family's looks); each row that meets fmt, with fmt's text TOLD by the authors' own Lean function (tested against real Go, not proved from fmt's source: count such statements apart). THE CARD IS WHAT COUNTS. Prove the row's statement (the work); the ties are given (YtipjjhccbgbdiaaGreatDoorTie.lean); close each card by the builder's one call (the guide's Derived/Test/ToyasCard.lean, 'card_holds'). Laid BY PROGRAM, IN A SANDBOX (cutbox-door.mjs). By AI agents, Wed Nov 11 2026. No macro, syntax, notation, axiom, sorry.
-/
import Derived.Test.YtipjjhccbgbdiaaGreatDoorRows
import GoSem.ClaimSeven
namespace Go.Proofs.YtipjjhccbgbdiaaGreatDoor
namespace Rows

/-- THE TIED CARD OF 'posternlaw1.RadixExact'. -/
def radixExactCard : Claim7 := { stood := { row := radixExactRow, standIns := [], harness := (true, "64b18635aaa22126944eb55328afa22813034ab83d31f7af6cfba74d1a0c6431"), looks := false }, kinds := [], alts := [], laidByText := true, laidKinds := [.data, .data, .data], laidTests := true, laidLooks := .later }
def RadixExactCardSaid : Prop := Claim7.holds Tryz.pinned (.plain (OpenSpec.ofChange radixExactSpec)) radixExactCard

/-- THE SECOND FORM's CARD OF 'posternlaw1.RadixExact'. -/
def radixExactUptoCard : Claim7 := { stood := { row := radixExactUptoRow, standIns := [], harness := (true, "64b18635aaa22126944eb55328afa22813034ab83d31f7af6cfba74d1a0c6431"), looks := false }, kinds := [], alts := [], laidByText := true, laidKinds := [.data, .data, .data], laidTests := true, laidLooks := .later }
def RadixExactUptoCardSaid : Prop := Claim7.holds Tryz.pinned (.plain (OpenSpec.upto radixExactSpec)) radixExactUptoCard
end Rows
end Go.Proofs.YtipjjhccbgbdiaaGreatDoor
