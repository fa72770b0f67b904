/-
  DERIVED. GIVEN WITH THE SEED: THE CARDS: each row of YtnhainjdaafmiaaDoorRows.lean that lists a variable, with what it lists TIED to the program's text (the seventh form; the later family's looks); each row that meets fmt, with fmt's text TOLD by the authors' own Lean function (tested against real Go, not proved from fmt's source: count such statements apart). THE CARD IS WHAT COUNTS. Prove the row's statement (the work); the ties are given (YtnhainjdaafmiaaDoorTie.lean); close each card by the builder's one call (the guide's Derived/Test/ToyasCard.lean, 'card_holds'). Laid BY PROGRAM, IN A SANDBOX (cutbox-door.mjs). By AI agents, Wed Nov 11 2026. No macro, syntax, notation, axiom, sorry.
-/
import Derived.Test.YtnhainjdaafmiaaDoorRows
import GoSem.ClaimSeven
namespace Go.Proofs.YtnhainjdaafmiaaDoor
namespace Rows

/-- THE TIED CARD OF 'shuntlaw03.DirPlays'. -/
def dirPlaysCard : Claim7 := { stood := { row := dirPlaysRow, standIns := [], harness := (true, "aaf8b261e178fbdc3078504dff20cac26ed9cca4f1718dd081bde222b3ce3e14"), looks := false }, kinds := [], alts := [], laidByText := true, laidKinds := [.data, .data], laidTests := true, laidLooks := .later }
def DirPlaysCardSaid : Prop := Claim7.holds Tryd.pinned (.plain (OpenSpec.ofChange dirPlaysSpec)) dirPlaysCard

/-- THE TIED CARD OF 'shuntlaw03.DirNames'. -/
def dirNamesCard : Claim7 := { stood := { row := dirNamesRow, standIns := [], harness := (true, "aaf8b261e178fbdc3078504dff20cac26ed9cca4f1718dd081bde222b3ce3e14"), looks := false }, kinds := [], alts := [], laidByText := true, laidKinds := [.data, .data], laidTests := true, laidLooks := .later }
def DirNamesCardSaid : Prop := Claim7.holds Tryd.pinned (.plain (OpenSpec.ofChange dirNamesSpec)) dirNamesCard

/-- THE TIED CARD OF 'shuntlaw03.DirServes'. -/
def dirServesCard : Claim7 := { stood := { row := dirServesRow, standIns := [], harness := (true, "aaf8b261e178fbdc3078504dff20cac26ed9cca4f1718dd081bde222b3ce3e14"), looks := false }, kinds := [], alts := [], laidByText := true, laidKinds := [.data, .data], laidTests := true, laidLooks := .later }
def DirServesCardSaid : Prop := Claim7.holds Tryd.pinned (.plain (OpenSpec.ofChange dirServesSpec)) dirServesCard

/-- THE SECOND FORM's CARD OF 'shuntlaw03.DirPlays'. -/
def dirPlaysUptoCard : Claim7 := { stood := { row := dirPlaysUptoRow, standIns := [], harness := (true, "aaf8b261e178fbdc3078504dff20cac26ed9cca4f1718dd081bde222b3ce3e14"), looks := false }, kinds := [], alts := [], laidByText := true, laidKinds := [.data, .data], laidTests := true, laidLooks := .later }
def DirPlaysUptoCardSaid : Prop := Claim7.holds Tryd.pinned (.plain (OpenSpec.upto dirPlaysSpec)) dirPlaysUptoCard

/-- THE SECOND FORM's CARD OF 'shuntlaw03.DirNames'. -/
def dirNamesUptoCard : Claim7 := { stood := { row := dirNamesUptoRow, standIns := [], harness := (true, "aaf8b261e178fbdc3078504dff20cac26ed9cca4f1718dd081bde222b3ce3e14"), looks := false }, kinds := [], alts := [], laidByText := true, laidKinds := [.data, .data], laidTests := true, laidLooks := .later }
def DirNamesUptoCardSaid : Prop := Claim7.holds Tryd.pinned (.plain (OpenSpec.upto dirNamesSpec)) dirNamesUptoCard

/-- THE SECOND FORM's CARD OF 'shuntlaw03.DirServes'. -/
def dirServesUptoCard : Claim7 := { stood := { row := dirServesUptoRow, standIns := [], harness := (true, "aaf8b261e178fbdc3078504dff20cac26ed9cca4f1718dd081bde222b3ce3e14"), looks := false }, kinds := [], alts := [], laidByText := true, laidKinds := [.data, .data], laidTests := true, laidLooks := .later }
def DirServesUptoCardSaid : Prop := Claim7.holds Tryd.pinned (.plain (OpenSpec.upto dirServesSpec)) dirServesUptoCard
end Rows
end Go.Proofs.YtnhainjdaafmiaaDoor
