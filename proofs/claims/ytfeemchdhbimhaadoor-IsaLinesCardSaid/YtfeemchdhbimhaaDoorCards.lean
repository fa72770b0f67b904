/-
  DERIVED. GIVEN WITH THE SEED: THE CARDS: each row of YtfeemchdhbimhaaDoorRows.lean that lists a variable, with what it lists TIED to the program's text (the seventh form; the later family's looks); each row that meets fmt, with fmt's text TOLD by the authors' own Lean function (tested against real Go, not proved from fmt's source: count such statements apart). THE CARD IS WHAT COUNTS. Prove the row's statement (the work); the ties are given (YtfeemchdhbimhaaDoorTie.lean); close each card by the builder's one call (the guide's Derived/Test/ToyasCard.lean, 'card_holds'). Laid BY PROGRAM, IN A SANDBOX (cutbox-door.mjs). By AI agents, Wed Nov 11 2026. No macro, syntax, notation, axiom, sorry.
-/
import Derived.Test.YtfeemchdhbimhaaDoorRows
import GoSem.ClaimSeven
namespace Go.Proofs.YtfeemchdhbimhaaDoor
namespace Rows

/-- THE TIED CARD OF 'shuntlaw10.IsaDoes'. -/
def isaDoesCard : Claim7 := { stood := { row := isaDoesRow, standIns := [], harness := (true, "44a917710c274f4bde8449195728084a98efcaf63dd335f741fb69feb78c2535"), looks := true }, kinds := [], alts := [], laidByText := true, laidKinds := [.data], laidTests := true, laidLooks := .later }
def IsaDoesCardSaid : Prop := Claim7.holds Tryd.pinned (.plain (OpenSpec.ofChange isaDoesSpec)) isaDoesCard

/-- THE TIED CARD OF 'shuntlaw10.IsaLines'. -/
def isaLinesCard : Claim7 := { stood := { row := isaLinesRow, standIns := [], harness := (true, "44a917710c274f4bde8449195728084a98efcaf63dd335f741fb69feb78c2535"), looks := true }, kinds := [], alts := [], laidByText := true, laidKinds := [.data, .data, .data, .sentinel, .sentinel, .data], laidTests := true, laidLooks := .later }
def IsaLinesCardSaid : Prop := Claim7.holds Tryd.pinned (.plain (OpenSpec.ofChange isaLinesSpec)) isaLinesCard

/-- THE TIED CARD OF 'shuntlaw10.IsaNames'. -/
def isaNamesCard : Claim7 := { stood := { row := isaNamesRow, standIns := [], harness := (true, "44a917710c274f4bde8449195728084a98efcaf63dd335f741fb69feb78c2535"), looks := true }, kinds := [], alts := [], laidByText := true, laidKinds := [.data, .data, .data, .sentinel, .sentinel, .data], laidTests := true, laidLooks := .later }
def IsaNamesCardSaid : Prop := Claim7.holds Tryd.pinned (.plain (OpenSpec.ofChange isaNamesSpec)) isaNamesCard

/-- THE TIED CARD OF 'shuntlaw10.IsaBack'. -/
def isaBackCard : Claim7 := { stood := { row := isaBackRow, standIns := [], harness := (true, "44a917710c274f4bde8449195728084a98efcaf63dd335f741fb69feb78c2535"), looks := true }, kinds := [], alts := [], laidByText := true, laidKinds := [.data, .data, .data, .sentinel, .sentinel, .data], laidTests := true, laidLooks := .later }
def IsaBackCardSaid : Prop := Claim7.holds Tryd.pinned (.plain (OpenSpec.ofChange isaBackSpec)) isaBackCard

/-- THE TIED CARD OF 'shuntlaw10.IsaSaid'. -/
def isaSaidCard : Claim7 := { stood := { row := isaSaidRow, standIns := [], harness := (true, "44a917710c274f4bde8449195728084a98efcaf63dd335f741fb69feb78c2535"), looks := true }, kinds := [], alts := [], laidByText := true, laidKinds := [.data, .data, .data, .sentinel, .sentinel, .data], laidTests := true, laidLooks := .later }
def IsaSaidCardSaid : Prop := Claim7.holds Tryd.pinned (.plain (OpenSpec.ofChange isaSaidSpec)) isaSaidCard

/-- THE TIED CARD OF 'shuntlaw10.IsaApart'. -/
def isaApartCard : Claim7 := { stood := { row := isaApartRow, standIns := [], harness := (true, "44a917710c274f4bde8449195728084a98efcaf63dd335f741fb69feb78c2535"), looks := true }, kinds := [], alts := [], laidByText := true, laidKinds := [.data, .data, .data, .sentinel, .sentinel, .data], laidTests := true, laidLooks := .later }
def IsaApartCardSaid : Prop := Claim7.holds Tryd.pinned (.plain (OpenSpec.ofChange isaApartSpec)) isaApartCard

/-- THE TIED CARD OF 'shuntlaw10.IsaReckons'. -/
def isaReckonsCard : Claim7 := { stood := { row := isaReckonsRow, standIns := [], harness := (true, "44a917710c274f4bde8449195728084a98efcaf63dd335f741fb69feb78c2535"), looks := true }, kinds := [], alts := [], laidByText := true, laidKinds := [.data, .data, .data, .sentinel, .sentinel, .data], laidTests := true, laidLooks := .later }
def IsaReckonsCardSaid : Prop := Claim7.holds Tryd.pinned (.plain (OpenSpec.ofChange isaReckonsSpec)) isaReckonsCard

/-- THE SECOND FORM's CARD OF 'shuntlaw10.IsaDoes'. -/
def isaDoesUptoCard : Claim7 := { stood := { row := isaDoesUptoRow, standIns := [], harness := (true, "44a917710c274f4bde8449195728084a98efcaf63dd335f741fb69feb78c2535"), looks := true }, kinds := [], alts := [], laidByText := true, laidKinds := [.data], laidTests := true, laidLooks := .later }
def IsaDoesUptoCardSaid : Prop := Claim7.holds Tryd.pinned (.plain (OpenSpec.upto isaDoesSpec)) isaDoesUptoCard

/-- THE SECOND FORM's CARD OF 'shuntlaw10.IsaLines'. -/
def isaLinesUptoCard : Claim7 := { stood := { row := isaLinesUptoRow, standIns := [], harness := (true, "44a917710c274f4bde8449195728084a98efcaf63dd335f741fb69feb78c2535"), looks := true }, kinds := [], alts := [], laidByText := true, laidKinds := [.data, .data, .data, .sentinel, .sentinel, .data], laidTests := true, laidLooks := .later }
def IsaLinesUptoCardSaid : Prop := Claim7.holds Tryd.pinned (.plain (OpenSpec.upto isaLinesSpec)) isaLinesUptoCard

/-- THE SECOND FORM's CARD OF 'shuntlaw10.IsaNames'. -/
def isaNamesUptoCard : Claim7 := { stood := { row := isaNamesUptoRow, standIns := [], harness := (true, "44a917710c274f4bde8449195728084a98efcaf63dd335f741fb69feb78c2535"), looks := true }, kinds := [], alts := [], laidByText := true, laidKinds := [.data, .data, .data, .sentinel, .sentinel, .data], laidTests := true, laidLooks := .later }
def IsaNamesUptoCardSaid : Prop := Claim7.holds Tryd.pinned (.plain (OpenSpec.upto isaNamesSpec)) isaNamesUptoCard

/-- THE SECOND FORM's CARD OF 'shuntlaw10.IsaBack'. -/
def isaBackUptoCard : Claim7 := { stood := { row := isaBackUptoRow, standIns := [], harness := (true, "44a917710c274f4bde8449195728084a98efcaf63dd335f741fb69feb78c2535"), looks := true }, kinds := [], alts := [], laidByText := true, laidKinds := [.data, .data, .data, .sentinel, .sentinel, .data], laidTests := true, laidLooks := .later }
def IsaBackUptoCardSaid : Prop := Claim7.holds Tryd.pinned (.plain (OpenSpec.upto isaBackSpec)) isaBackUptoCard

/-- THE SECOND FORM's CARD OF 'shuntlaw10.IsaSaid'. -/
def isaSaidUptoCard : Claim7 := { stood := { row := isaSaidUptoRow, standIns := [], harness := (true, "44a917710c274f4bde8449195728084a98efcaf63dd335f741fb69feb78c2535"), looks := true }, kinds := [], alts := [], laidByText := true, laidKinds := [.data, .data, .data, .sentinel, .sentinel, .data], laidTests := true, laidLooks := .later }
def IsaSaidUptoCardSaid : Prop := Claim7.holds Tryd.pinned (.plain (OpenSpec.upto isaSaidSpec)) isaSaidUptoCard

/-- THE SECOND FORM's CARD OF 'shuntlaw10.IsaApart'. -/
def isaApartUptoCard : Claim7 := { stood := { row := isaApartUptoRow, standIns := [], harness := (true, "44a917710c274f4bde8449195728084a98efcaf63dd335f741fb69feb78c2535"), looks := true }, kinds := [], alts := [], laidByText := true, laidKinds := [.data, .data, .data, .sentinel, .sentinel, .data], laidTests := true, laidLooks := .later }
def IsaApartUptoCardSaid : Prop := Claim7.holds Tryd.pinned (.plain (OpenSpec.upto isaApartSpec)) isaApartUptoCard

/-- THE SECOND FORM's CARD OF 'shuntlaw10.IsaReckons'. -/
def isaReckonsUptoCard : Claim7 := { stood := { row := isaReckonsUptoRow, standIns := [], harness := (true, "44a917710c274f4bde8449195728084a98efcaf63dd335f741fb69feb78c2535"), looks := true }, kinds := [], alts := [], laidByText := true, laidKinds := [.data, .data, .data, .sentinel, .sentinel, .data], laidTests := true, laidLooks := .later }
def IsaReckonsUptoCardSaid : Prop := Claim7.holds Tryd.pinned (.plain (OpenSpec.upto isaReckonsSpec)) isaReckonsUptoCard
end Rows
end Go.Proofs.YtfeemchdhbimhaaDoor
