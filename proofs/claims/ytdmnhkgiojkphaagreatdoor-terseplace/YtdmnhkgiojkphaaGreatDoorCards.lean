/-
  DERIVED. GIVEN WITH THE SEED: THE CARDS: each row of YtdmnhkgiojkphaaGreatDoorRows.lean that lists a variable, with what it lists TIED to the program's text (the seventh form; the later family's looks); each row that meets fmt, with fmt's text TOLD by the authors' own Lean function (tested against real Go, not proved from fmt's source: count such statements apart). THE CARD IS WHAT COUNTS. Prove the row's statement (the work); the ties are given (YtdmnhkgiojkphaaGreatDoorTie.lean); close each card by the builder's one call (the guide's Derived/Test/ToyasCard.lean, 'card_holds'). Laid BY PROGRAM, IN A SANDBOX (cutbox-door.mjs). By AI agents, Wed Nov 11 2026. No macro, syntax, notation, axiom, sorry.
-/
import Derived.Test.YtdmnhkgiojkphaaGreatDoorRows
import GoSem.ClaimSeven
namespace Go.Proofs.YtdmnhkgiojkphaaGreatDoor
namespace Rows

/-- THE TIED CARD OF 'posternlaw2.TersePrints'. -/
def tersePrintsCard : Claim7 := { stood := { row := tersePrintsRow, standIns := [], harness := (true, "44a00a4cba4290f38f1d9e030e4dbd621ba5251201dcaf2098f6ab5489d81eed"), looks := true }, kinds := [], alts := [], laidByText := true, laidKinds := [.data, .data, .data, .data, .sentinel, .sentinel, .pinned], laidTests := true, laidLooks := .later }
def TersePrintsCardSaid : Prop := Claim7.holds Tryz.pinned (.plain (OpenSpec.ofChange tersePrintsSpec)) tersePrintsCard

/-- THE TIED CARD OF 'posternlaw2.TerseReads'. -/
def terseReadsCard : Claim7 := { stood := { row := terseReadsRow, standIns := [], harness := (true, "44a00a4cba4290f38f1d9e030e4dbd621ba5251201dcaf2098f6ab5489d81eed"), looks := true }, kinds := [], alts := [], laidByText := true, laidKinds := [.data, .data, .data, .data, .sentinel, .sentinel, .pinned], laidTests := true, laidLooks := .later }
def TerseReadsCardSaid : Prop := Claim7.holds Tryz.pinned (.plain (OpenSpec.ofChange terseReadsSpec)) terseReadsCard

/-- THE TIED CARD OF 'posternlaw2.TerseAsks'. -/
def terseAsksCard : Claim7 := { stood := { row := terseAsksRow, standIns := [], harness := (true, "44a00a4cba4290f38f1d9e030e4dbd621ba5251201dcaf2098f6ab5489d81eed"), looks := true }, kinds := [], alts := [], laidByText := true, laidKinds := [.data, .data, .data, .data, .sentinel, .sentinel, .pinned], laidTests := true, laidLooks := .later }
def TerseAsksCardSaid : Prop := Claim7.holds Tryz.pinned (.plain (OpenSpec.ofChange terseAsksSpec)) terseAsksCard

/-- THE TIED CARD OF 'posternlaw2.TersePlace'. -/
def tersePlaceCard : Claim7 := { stood := { row := tersePlaceRow, standIns := [], harness := (true, "44a00a4cba4290f38f1d9e030e4dbd621ba5251201dcaf2098f6ab5489d81eed"), looks := true }, kinds := [], alts := [], laidByText := true, laidKinds := [.data, .data, .data, .data, .sentinel, .sentinel, .pinned], laidTests := true, laidLooks := .later }
def TersePlaceCardSaid : Prop := Claim7.holds Tryz.pinned (.plain (OpenSpec.ofChange tersePlaceSpec)) tersePlaceCard

/-- THE TIED CARD OF 'posternlaw2.TerseBack'. -/
def terseBackCard : Claim7 := { stood := { row := terseBackRow, standIns := [], harness := (true, "44a00a4cba4290f38f1d9e030e4dbd621ba5251201dcaf2098f6ab5489d81eed"), looks := true }, kinds := [], alts := [], laidByText := true, laidKinds := [.data, .data, .data, .data, .sentinel, .sentinel, .pinned], laidTests := true, laidLooks := .later }
def TerseBackCardSaid : Prop := Claim7.holds Tryz.pinned (.plain (OpenSpec.ofChange terseBackSpec)) terseBackCard

/-- THE TIED CARD OF 'posternlaw2.TerseOne'. -/
def terseOneCard : Claim7 := { stood := { row := terseOneRow, standIns := [], harness := (true, "44a00a4cba4290f38f1d9e030e4dbd621ba5251201dcaf2098f6ab5489d81eed"), looks := true }, kinds := [], alts := [], laidByText := true, laidKinds := [.data, .data, .data, .data, .sentinel, .sentinel, .pinned], laidTests := true, laidLooks := .later }
def TerseOneCardSaid : Prop := Claim7.holds Tryz.pinned (.plain (OpenSpec.ofChange terseOneSpec)) terseOneCard

/-- THE SECOND FORM's CARD OF 'posternlaw2.TersePrints'. -/
def tersePrintsUptoCard : Claim7 := { stood := { row := tersePrintsUptoRow, standIns := [], harness := (true, "44a00a4cba4290f38f1d9e030e4dbd621ba5251201dcaf2098f6ab5489d81eed"), looks := true }, kinds := [], alts := [], laidByText := true, laidKinds := [.data, .data, .data, .data, .sentinel, .sentinel, .pinned], laidTests := true, laidLooks := .later }
def TersePrintsUptoCardSaid : Prop := Claim7.holds Tryz.pinned (.plain (OpenSpec.upto tersePrintsSpec)) tersePrintsUptoCard

/-- THE SECOND FORM's CARD OF 'posternlaw2.TerseReads'. -/
def terseReadsUptoCard : Claim7 := { stood := { row := terseReadsUptoRow, standIns := [], harness := (true, "44a00a4cba4290f38f1d9e030e4dbd621ba5251201dcaf2098f6ab5489d81eed"), looks := true }, kinds := [], alts := [], laidByText := true, laidKinds := [.data, .data, .data, .data, .sentinel, .sentinel, .pinned], laidTests := true, laidLooks := .later }
def TerseReadsUptoCardSaid : Prop := Claim7.holds Tryz.pinned (.plain (OpenSpec.upto terseReadsSpec)) terseReadsUptoCard

/-- THE SECOND FORM's CARD OF 'posternlaw2.TerseAsks'. -/
def terseAsksUptoCard : Claim7 := { stood := { row := terseAsksUptoRow, standIns := [], harness := (true, "44a00a4cba4290f38f1d9e030e4dbd621ba5251201dcaf2098f6ab5489d81eed"), looks := true }, kinds := [], alts := [], laidByText := true, laidKinds := [.data, .data, .data, .data, .sentinel, .sentinel, .pinned], laidTests := true, laidLooks := .later }
def TerseAsksUptoCardSaid : Prop := Claim7.holds Tryz.pinned (.plain (OpenSpec.upto terseAsksSpec)) terseAsksUptoCard

/-- THE SECOND FORM's CARD OF 'posternlaw2.TersePlace'. -/
def tersePlaceUptoCard : Claim7 := { stood := { row := tersePlaceUptoRow, standIns := [], harness := (true, "44a00a4cba4290f38f1d9e030e4dbd621ba5251201dcaf2098f6ab5489d81eed"), looks := true }, kinds := [], alts := [], laidByText := true, laidKinds := [.data, .data, .data, .data, .sentinel, .sentinel, .pinned], laidTests := true, laidLooks := .later }
def TersePlaceUptoCardSaid : Prop := Claim7.holds Tryz.pinned (.plain (OpenSpec.upto tersePlaceSpec)) tersePlaceUptoCard

/-- THE SECOND FORM's CARD OF 'posternlaw2.TerseBack'. -/
def terseBackUptoCard : Claim7 := { stood := { row := terseBackUptoRow, standIns := [], harness := (true, "44a00a4cba4290f38f1d9e030e4dbd621ba5251201dcaf2098f6ab5489d81eed"), looks := true }, kinds := [], alts := [], laidByText := true, laidKinds := [.data, .data, .data, .data, .sentinel, .sentinel, .pinned], laidTests := true, laidLooks := .later }
def TerseBackUptoCardSaid : Prop := Claim7.holds Tryz.pinned (.plain (OpenSpec.upto terseBackSpec)) terseBackUptoCard

/-- THE SECOND FORM's CARD OF 'posternlaw2.TerseOne'. -/
def terseOneUptoCard : Claim7 := { stood := { row := terseOneUptoRow, standIns := [], harness := (true, "44a00a4cba4290f38f1d9e030e4dbd621ba5251201dcaf2098f6ab5489d81eed"), looks := true }, kinds := [], alts := [], laidByText := true, laidKinds := [.data, .data, .data, .data, .sentinel, .sentinel, .pinned], laidTests := true, laidLooks := .later }
def TerseOneUptoCardSaid : Prop := Claim7.holds Tryz.pinned (.plain (OpenSpec.upto terseOneSpec)) terseOneUptoCard
end Rows
end Go.Proofs.YtdmnhkgiojkphaaGreatDoor
