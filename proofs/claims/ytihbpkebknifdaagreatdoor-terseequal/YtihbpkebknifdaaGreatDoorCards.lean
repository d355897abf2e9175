/-
  DERIVED. GIVEN WITH THE SEED: THE CARDS: each row of YtihbpkebknifdaaGreatDoorRows.lean that lists a variable, with what it lists TIED to the program's text (the seventh form; the later family's looks); each row that meets fmt, with fmt's text TOLD by the authors' own Lean function (tested against real Go, not proved from fmt's source: count such statements apart). THE CARD IS WHAT COUNTS. Prove the row's statement (the work); the ties are given (YtihbpkebknifdaaGreatDoorTie.lean); close each card by the builder's one call (the guide's Derived/Test/ToyasCard.lean, 'card_holds'). Laid BY PROGRAM, IN A SANDBOX (cutbox-door.mjs). By AI agents, Wed Nov 11 2026. No macro, syntax, notation, axiom, sorry.
-/
import Derived.Test.YtihbpkebknifdaaGreatDoorRows
import GoSem.ClaimSeven
namespace Go.Proofs.YtihbpkebknifdaaGreatDoor
namespace Rows

/-- THE TIED CARD OF 'posternlaw2.TerseEqual'. -/
def terseEqualCard : Claim7 := { stood := { row := terseEqualRow, standIns := [], harness := (true, "4803a64b08d3a481750104e5a133e49fbcbba5489be986daa2a8fe550ed85f70"), looks := true }, kinds := [], alts := [], laidByText := true, laidKinds := [.data, .data, .data, .data, .sentinel, .sentinel, .pinned], laidTests := true, laidLooks := .later }
def TerseEqualCardSaid : Prop := Claim7.holds Tryz.pinned (.plain (OpenSpec.ofChange terseEqualSpec)) terseEqualCard

/-- THE SECOND FORM's CARD OF 'posternlaw2.TerseEqual'. -/
def terseEqualUptoCard : Claim7 := { stood := { row := terseEqualUptoRow, standIns := [], harness := (true, "4803a64b08d3a481750104e5a133e49fbcbba5489be986daa2a8fe550ed85f70"), looks := true }, kinds := [], alts := [], laidByText := true, laidKinds := [.data, .data, .data, .data, .sentinel, .sentinel, .pinned], laidTests := true, laidLooks := .later }
def TerseEqualUptoCardSaid : Prop := Claim7.holds Tryz.pinned (.plain (OpenSpec.upto terseEqualSpec)) terseEqualUptoCard
end Rows
end Go.Proofs.YtihbpkebknifdaaGreatDoor
