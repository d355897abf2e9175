/-
  DERIVED. GIVEN WITH THE SEED: THE CARDS: each row of YtmiojplbcjhggabDoorRows.lean that lists a variable, with what it lists TIED to the program's text (the seventh form; the later family's looks); each row that meets fmt, with fmt's text TOLD by the authors' own Lean function (tested against real Go, not proved from fmt's source: count such statements apart). THE CARD IS WHAT COUNTS. Prove the row's statement (the work); the ties are given (YtmiojplbcjhggabDoorTie.lean); close each card by the builder's one call (the guide's Derived/Test/ToyasCard.lean, 'card_holds'). Laid BY PROGRAM, IN A SANDBOX (cutbox-door.mjs). By AI agents, Wed Nov 11 2026. No macro, syntax, notation, axiom, sorry.
-/
import Derived.Test.YtmiojplbcjhggabDoorRows
import GoSem.ClaimSeven
namespace Go.Proofs.YtmiojplbcjhggabDoor
namespace Rows

/-- THE TIED CARD OF 'posternlaw4.DigestMade'. -/
def digestMadeCard : Claim7 := { stood := { row := digestMadeRow, standIns := [], harness := (true, "8c292cbe1c329c39480d2506e6aa935eb735768a327a887f938a9cd5fc49fa77"), looks := false }, kinds := [], alts := [], laidByText := true, laidKinds := [.data, .data], laidTests := true, laidLooks := .later }
def DigestMadeCardSaid : Prop := Claim7.holds Tryd.pinned (.plain (OpenSpec.ofChange digestMadeSpec)) digestMadeCard

/-- THE TIED CARD OF 'posternlaw4.DigestMany'. -/
def digestManyCard : Claim7 := { stood := { row := digestManyRow, standIns := [], harness := (true, "8c292cbe1c329c39480d2506e6aa935eb735768a327a887f938a9cd5fc49fa77"), looks := false }, kinds := [], alts := [], laidByText := true, laidKinds := [.data, .data], laidTests := true, laidLooks := .later }
def DigestManyCardSaid : Prop := Claim7.holds Tryd.pinned (.plain (OpenSpec.ofChange digestManySpec)) digestManyCard

/-- THE TIED CARD OF 'posternlaw4.DigestApart'. -/
def digestApartCard : Claim7 := { stood := { row := digestApartRow, standIns := [], harness := (true, "8c292cbe1c329c39480d2506e6aa935eb735768a327a887f938a9cd5fc49fa77"), looks := false }, kinds := [], alts := [], laidByText := true, laidKinds := [.data, .data], laidTests := true, laidLooks := .later }
def DigestApartCardSaid : Prop := Claim7.holds Tryd.pinned (.plain (OpenSpec.ofChange digestApartSpec)) digestApartCard

/-- THE TIED CARD OF 'posternlaw4.DigestKnown'. -/
def digestKnownCard : Claim7 := { stood := { row := digestKnownRow, standIns := [], harness := (true, "8c292cbe1c329c39480d2506e6aa935eb735768a327a887f938a9cd5fc49fa77"), looks := false }, kinds := [], alts := [], laidByText := true, laidKinds := [.data, .data], laidTests := true, laidLooks := .later }
def DigestKnownCardSaid : Prop := Claim7.holds Tryd.pinned (.plain (OpenSpec.ofChange digestKnownSpec)) digestKnownCard

/-- THE SECOND FORM's CARD OF 'posternlaw4.DigestMade'. -/
def digestMadeUptoCard : Claim7 := { stood := { row := digestMadeUptoRow, standIns := [], harness := (true, "8c292cbe1c329c39480d2506e6aa935eb735768a327a887f938a9cd5fc49fa77"), looks := false }, kinds := [], alts := [], laidByText := true, laidKinds := [.data, .data], laidTests := true, laidLooks := .later }
def DigestMadeUptoCardSaid : Prop := Claim7.holds Tryd.pinned (.plain (OpenSpec.upto digestMadeSpec)) digestMadeUptoCard

/-- THE SECOND FORM's CARD OF 'posternlaw4.DigestMany'. -/
def digestManyUptoCard : Claim7 := { stood := { row := digestManyUptoRow, standIns := [], harness := (true, "8c292cbe1c329c39480d2506e6aa935eb735768a327a887f938a9cd5fc49fa77"), looks := false }, kinds := [], alts := [], laidByText := true, laidKinds := [.data, .data], laidTests := true, laidLooks := .later }
def DigestManyUptoCardSaid : Prop := Claim7.holds Tryd.pinned (.plain (OpenSpec.upto digestManySpec)) digestManyUptoCard

/-- THE SECOND FORM's CARD OF 'posternlaw4.DigestApart'. -/
def digestApartUptoCard : Claim7 := { stood := { row := digestApartUptoRow, standIns := [], harness := (true, "8c292cbe1c329c39480d2506e6aa935eb735768a327a887f938a9cd5fc49fa77"), looks := false }, kinds := [], alts := [], laidByText := true, laidKinds := [.data, .data], laidTests := true, laidLooks := .later }
def DigestApartUptoCardSaid : Prop := Claim7.holds Tryd.pinned (.plain (OpenSpec.upto digestApartSpec)) digestApartUptoCard

/-- THE SECOND FORM's CARD OF 'posternlaw4.DigestKnown'. -/
def digestKnownUptoCard : Claim7 := { stood := { row := digestKnownUptoRow, standIns := [], harness := (true, "8c292cbe1c329c39480d2506e6aa935eb735768a327a887f938a9cd5fc49fa77"), looks := false }, kinds := [], alts := [], laidByText := true, laidKinds := [.data, .data], laidTests := true, laidLooks := .later }
def DigestKnownUptoCardSaid : Prop := Claim7.holds Tryd.pinned (.plain (OpenSpec.upto digestKnownSpec)) digestKnownUptoCard
end Rows
end Go.Proofs.YtmiojplbcjhggabDoor
