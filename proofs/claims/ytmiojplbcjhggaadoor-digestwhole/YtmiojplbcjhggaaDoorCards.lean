/-
  DERIVED. GIVEN WITH THE SEED: THE CARDS: each row of YtmiojplbcjhggaaDoorRows.lean that lists a variable, with what it lists TIED to the program's text (the seventh form; the later family's looks); each row that meets fmt, with fmt's text TOLD by the authors' own Lean function (tested against real Go, not proved from fmt's source: count such statements apart). THE CARD IS WHAT COUNTS. Prove the row's statement (the work); the ties are given (YtmiojplbcjhggaaDoorTie.lean); close each card by the builder's one call (the guide's Derived/Test/ToyasCard.lean, 'card_holds'). Laid BY PROGRAM, IN A SANDBOX (cutbox-door.mjs). By AI agents, Wed Nov 11 2026. No macro, syntax, notation, axiom, sorry.
-/
import Derived.Test.YtmiojplbcjhggaaDoorRows
import GoSem.ClaimSeven
namespace Go.Proofs.YtmiojplbcjhggaaDoor
namespace Rows

/-- THE TIED CARD OF 'posternlaw4.DigestExact'. -/
def digestExactCard : Claim7 := { stood := { row := digestExactRow, standIns := [], harness := (true, "ca340e6c6f69a6e3b7de218fce9ac7a6715bb5bb189ab3aa5b0d4e0d50bc00cb"), looks := false }, kinds := [], alts := [], laidByText := true, laidKinds := [.data, .data], laidTests := true, laidLooks := .later }
def DigestExactCardSaid : Prop := Claim7.holds Tryd.pinned (.plain (OpenSpec.ofChange digestExactSpec)) digestExactCard

/-- THE TIED CARD OF 'posternlaw4.DigestParts'. -/
def digestPartsCard : Claim7 := { stood := { row := digestPartsRow, standIns := [], harness := (true, "ca340e6c6f69a6e3b7de218fce9ac7a6715bb5bb189ab3aa5b0d4e0d50bc00cb"), looks := false }, kinds := [], alts := [], laidByText := true, laidKinds := [.data, .data], laidTests := true, laidLooks := .later }
def DigestPartsCardSaid : Prop := Claim7.holds Tryd.pinned (.plain (OpenSpec.ofChange digestPartsSpec)) digestPartsCard

/-- THE TIED CARD OF 'posternlaw4.DigestMac'. -/
def digestMacCard : Claim7 := { stood := { row := digestMacRow, standIns := [], harness := (true, "ca340e6c6f69a6e3b7de218fce9ac7a6715bb5bb189ab3aa5b0d4e0d50bc00cb"), looks := false }, kinds := [], alts := [], laidByText := true, laidKinds := [.data, .data], laidTests := true, laidLooks := .later }
def DigestMacCardSaid : Prop := Claim7.holds Tryd.pinned (.plain (OpenSpec.ofChange digestMacSpec)) digestMacCard

/-- THE TIED CARD OF 'posternlaw4.DigestSame'. -/
def digestSameCard : Claim7 := { stood := { row := digestSameRow, standIns := [], harness := (true, "ca340e6c6f69a6e3b7de218fce9ac7a6715bb5bb189ab3aa5b0d4e0d50bc00cb"), looks := false }, kinds := [], alts := [], laidByText := true, laidKinds := [.data, .data], laidTests := true, laidLooks := .later }
def DigestSameCardSaid : Prop := Claim7.holds Tryd.pinned (.plain (OpenSpec.ofChange digestSameSpec)) digestSameCard

/-- THE TIED CARD OF 'posternlaw4.DigestPass'. -/
def digestPassCard : Claim7 := { stood := { row := digestPassRow, standIns := [], harness := (true, "ca340e6c6f69a6e3b7de218fce9ac7a6715bb5bb189ab3aa5b0d4e0d50bc00cb"), looks := false }, kinds := [], alts := [], laidByText := true, laidKinds := [.data, .data], laidTests := true, laidLooks := .later }
def DigestPassCardSaid : Prop := Claim7.holds Tryd.pinned (.plain (OpenSpec.ofChange digestPassSpec)) digestPassCard

/-- THE TIED CARD OF 'posternlaw4.DigestWhole'. -/
def digestWholeCard : Claim7 := { stood := { row := digestWholeRow, standIns := [], harness := (true, "ca340e6c6f69a6e3b7de218fce9ac7a6715bb5bb189ab3aa5b0d4e0d50bc00cb"), looks := false }, kinds := [], alts := [], laidByText := true, laidKinds := [.data, .data], laidTests := true, laidLooks := .later }
def DigestWholeCardSaid : Prop := Claim7.holds Tryd.pinned (.plain (OpenSpec.ofChange digestWholeSpec)) digestWholeCard

/-- THE SECOND FORM's CARD OF 'posternlaw4.DigestExact'. -/
def digestExactUptoCard : Claim7 := { stood := { row := digestExactUptoRow, standIns := [], harness := (true, "ca340e6c6f69a6e3b7de218fce9ac7a6715bb5bb189ab3aa5b0d4e0d50bc00cb"), looks := false }, kinds := [], alts := [], laidByText := true, laidKinds := [.data, .data], laidTests := true, laidLooks := .later }
def DigestExactUptoCardSaid : Prop := Claim7.holds Tryd.pinned (.plain (OpenSpec.upto digestExactSpec)) digestExactUptoCard

/-- THE SECOND FORM's CARD OF 'posternlaw4.DigestParts'. -/
def digestPartsUptoCard : Claim7 := { stood := { row := digestPartsUptoRow, standIns := [], harness := (true, "ca340e6c6f69a6e3b7de218fce9ac7a6715bb5bb189ab3aa5b0d4e0d50bc00cb"), looks := false }, kinds := [], alts := [], laidByText := true, laidKinds := [.data, .data], laidTests := true, laidLooks := .later }
def DigestPartsUptoCardSaid : Prop := Claim7.holds Tryd.pinned (.plain (OpenSpec.upto digestPartsSpec)) digestPartsUptoCard

/-- THE SECOND FORM's CARD OF 'posternlaw4.DigestMac'. -/
def digestMacUptoCard : Claim7 := { stood := { row := digestMacUptoRow, standIns := [], harness := (true, "ca340e6c6f69a6e3b7de218fce9ac7a6715bb5bb189ab3aa5b0d4e0d50bc00cb"), looks := false }, kinds := [], alts := [], laidByText := true, laidKinds := [.data, .data], laidTests := true, laidLooks := .later }
def DigestMacUptoCardSaid : Prop := Claim7.holds Tryd.pinned (.plain (OpenSpec.upto digestMacSpec)) digestMacUptoCard

/-- THE SECOND FORM's CARD OF 'posternlaw4.DigestSame'. -/
def digestSameUptoCard : Claim7 := { stood := { row := digestSameUptoRow, standIns := [], harness := (true, "ca340e6c6f69a6e3b7de218fce9ac7a6715bb5bb189ab3aa5b0d4e0d50bc00cb"), looks := false }, kinds := [], alts := [], laidByText := true, laidKinds := [.data, .data], laidTests := true, laidLooks := .later }
def DigestSameUptoCardSaid : Prop := Claim7.holds Tryd.pinned (.plain (OpenSpec.upto digestSameSpec)) digestSameUptoCard

/-- THE SECOND FORM's CARD OF 'posternlaw4.DigestPass'. -/
def digestPassUptoCard : Claim7 := { stood := { row := digestPassUptoRow, standIns := [], harness := (true, "ca340e6c6f69a6e3b7de218fce9ac7a6715bb5bb189ab3aa5b0d4e0d50bc00cb"), looks := false }, kinds := [], alts := [], laidByText := true, laidKinds := [.data, .data], laidTests := true, laidLooks := .later }
def DigestPassUptoCardSaid : Prop := Claim7.holds Tryd.pinned (.plain (OpenSpec.upto digestPassSpec)) digestPassUptoCard

/-- THE SECOND FORM's CARD OF 'posternlaw4.DigestWhole'. -/
def digestWholeUptoCard : Claim7 := { stood := { row := digestWholeUptoRow, standIns := [], harness := (true, "ca340e6c6f69a6e3b7de218fce9ac7a6715bb5bb189ab3aa5b0d4e0d50bc00cb"), looks := false }, kinds := [], alts := [], laidByText := true, laidKinds := [.data, .data], laidTests := true, laidLooks := .later }
def DigestWholeUptoCardSaid : Prop := Claim7.holds Tryd.pinned (.plain (OpenSpec.upto digestWholeSpec)) digestWholeUptoCard
end Rows
end Go.Proofs.YtmiojplbcjhggaaDoor
