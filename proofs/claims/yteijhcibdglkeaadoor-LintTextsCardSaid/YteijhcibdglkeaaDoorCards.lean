/-
  DERIVED. GIVEN WITH THE SEED: THE CARDS: each row of YteijhcibdglkeaaDoorRows.lean that lists a variable, with what it lists TIED to the program's text (the seventh form; the later family's looks); each row that meets fmt, with fmt's text TOLD by the authors' own Lean function (tested against real Go, not proved from fmt's source: count such statements apart). THE CARD IS WHAT COUNTS. Prove the row's statement (the work); the ties are given (YteijhcibdglkeaaDoorTie.lean); close each card by the builder's one call (the guide's Derived/Test/ToyasCard.lean, 'card_holds'). Laid BY PROGRAM, IN A SANDBOX (cutbox-door.mjs). By AI agents, Wed Nov 11 2026. No macro, syntax, notation, axiom, sorry.
-/
import Derived.Test.YteijhcibdglkeaaDoorRows
import GoSem.ClaimSeven
namespace Go.Proofs.YteijhcibdglkeaaDoor
namespace Rows

/-- THE TIED CARD OF 'shuntlaw17.LintLooks'. -/
def lintLooksCard : Claim7 := { stood := { row := lintLooksRow, standIns := [], harness := (true, "ba9743bbb6532b6fa7c4a4a845a1ee8dc89f2f66db047eed418d2c41a23427ba"), looks := false }, kinds := [], alts := [], laidByText := true, laidKinds := [.data], laidTests := true, laidLooks := .later }
def LintLooksCardSaid : Prop := Claim7.holds Tryd.pinned (.plain (OpenSpec.ofChange lintLooksSpec)) lintLooksCard

/-- THE TIED CARD OF 'shuntlaw17.LintTexts'. -/
def lintTextsCard : Claim7 := { stood := { row := lintTextsRow, standIns := [], harness := (true, "ba9743bbb6532b6fa7c4a4a845a1ee8dc89f2f66db047eed418d2c41a23427ba"), looks := false }, kinds := [], alts := [], laidByText := true, laidKinds := [.data, .data, .data, .data], laidTests := true, laidLooks := .later }
def LintTextsCardSaid : Prop := Claim7.holds Tryd.pinned (.plain (OpenSpec.ofChange lintTextsSpec)) lintTextsCard

/-- THE SECOND FORM's CARD OF 'shuntlaw17.LintLooks'. -/
def lintLooksUptoCard : Claim7 := { stood := { row := lintLooksUptoRow, standIns := [], harness := (true, "ba9743bbb6532b6fa7c4a4a845a1ee8dc89f2f66db047eed418d2c41a23427ba"), looks := false }, kinds := [], alts := [], laidByText := true, laidKinds := [.data], laidTests := true, laidLooks := .later }
def LintLooksUptoCardSaid : Prop := Claim7.holds Tryd.pinned (.plain (OpenSpec.upto lintLooksSpec)) lintLooksUptoCard

/-- THE SECOND FORM's CARD OF 'shuntlaw17.LintTexts'. -/
def lintTextsUptoCard : Claim7 := { stood := { row := lintTextsUptoRow, standIns := [], harness := (true, "ba9743bbb6532b6fa7c4a4a845a1ee8dc89f2f66db047eed418d2c41a23427ba"), looks := false }, kinds := [], alts := [], laidByText := true, laidKinds := [.data, .data, .data, .data], laidTests := true, laidLooks := .later }
def LintTextsUptoCardSaid : Prop := Claim7.holds Tryd.pinned (.plain (OpenSpec.upto lintTextsSpec)) lintTextsUptoCard
end Rows
end Go.Proofs.YteijhcibdglkeaaDoor
