/-
  DERIVED. GIVEN WITH THE SEED: THE CARDS: each row of YteijhcibdglkeaaGreatDoorRows.lean that lists a variable, with what it lists TIED to the program's text (the seventh form; the later family's looks); each row that meets fmt, with fmt's text TOLD by the authors' own Lean function (tested against real Go, not proved from fmt's source: count such statements apart). THE CARD IS WHAT COUNTS. Prove the row's statement (the work); the ties are given (YteijhcibdglkeaaGreatDoorTie.lean); close each card by the builder's one call (the guide's Derived/Test/ToyasCard.lean, 'card_holds'). Laid BY PROGRAM, IN A SANDBOX (cutbox-door.mjs). By AI agents, Wed Nov 11 2026. No macro, syntax, notation, axiom, sorry.
-/
import Derived.Test.YteijhcibdglkeaaGreatDoorRows
import GoSem.ClaimSeven
namespace Go.Proofs.YteijhcibdglkeaaGreatDoor
namespace Rows

/-- THE TIED CARD OF 'shuntlaw17.LintNames'. -/
def lintNamesCard : Claim7 := { stood := { row := lintNamesRow, standIns := [], harness := (true, "55e4d3a0bccf65c9b5c1c8ca40acd5d9a7b65da3e02536fe3ec2acb54a19b168"), looks := true }, kinds := [], alts := [], laidByText := true, laidKinds := [.data, .data, .data, .data, .sentinel, .sentinel, .data, .data, .pinned], laidTests := true, laidLooks := .later }
def LintNamesCardSaid : Prop := Claim7.holds Tryz.pinned (.plain (OpenSpec.ofChange lintNamesSpec)) lintNamesCard

/-- THE TIED CARD OF 'shuntlaw17.LintSound'. -/
def lintSoundCard : Claim7 := { stood := { row := lintSoundRow, standIns := [], harness := (true, "55e4d3a0bccf65c9b5c1c8ca40acd5d9a7b65da3e02536fe3ec2acb54a19b168"), looks := true }, kinds := [], alts := [], laidByText := true, laidKinds := [.data, .data, .data, .data, .sentinel, .sentinel, .data, .data, .pinned], laidTests := true, laidLooks := .later }
def LintSoundCardSaid : Prop := Claim7.holds Tryz.pinned (.plain (OpenSpec.ofChange lintSoundSpec)) lintSoundCard

/-- THE TIED CARD OF 'shuntlaw17.LintSame'. -/
def lintSameCard : Claim7 := { stood := { row := lintSameRow, standIns := [], harness := (true, "55e4d3a0bccf65c9b5c1c8ca40acd5d9a7b65da3e02536fe3ec2acb54a19b168"), looks := true }, kinds := [], alts := [], laidByText := true, laidKinds := [.data, .data, .data, .data, .sentinel, .sentinel, .data, .data, .pinned], laidTests := true, laidLooks := .later }
def LintSameCardSaid : Prop := Claim7.holds Tryz.pinned (.plain (OpenSpec.ofChange lintSameSpec)) lintSameCard

/-- THE TIED CARD OF 'shuntlaw17.LintPart'. -/
def lintPartCard : Claim7 := { stood := { row := lintPartRow, standIns := [], harness := (true, "55e4d3a0bccf65c9b5c1c8ca40acd5d9a7b65da3e02536fe3ec2acb54a19b168"), looks := true }, kinds := [], alts := [], laidByText := true, laidKinds := [.data, .data, .data, .data, .sentinel, .sentinel, .data, .data, .pinned], laidTests := true, laidLooks := .later }
def LintPartCardSaid : Prop := Claim7.holds Tryz.pinned (.plain (OpenSpec.ofChange lintPartSpec)) lintPartCard

/-- THE TIED CARD OF 'shuntlaw17.LintPlaces'. -/
def lintPlacesCard : Claim7 := { stood := { row := lintPlacesRow, standIns := [], harness := (true, "55e4d3a0bccf65c9b5c1c8ca40acd5d9a7b65da3e02536fe3ec2acb54a19b168"), looks := true }, kinds := [], alts := [], laidByText := true, laidKinds := [.data, .data, .data, .data, .sentinel, .sentinel, .data, .data, .pinned], laidTests := true, laidLooks := .later }
def LintPlacesCardSaid : Prop := Claim7.holds Tryz.pinned (.plain (OpenSpec.ofChange lintPlacesSpec)) lintPlacesCard

/-- THE SECOND FORM's CARD OF 'shuntlaw17.LintNames'. -/
def lintNamesUptoCard : Claim7 := { stood := { row := lintNamesUptoRow, standIns := [], harness := (true, "55e4d3a0bccf65c9b5c1c8ca40acd5d9a7b65da3e02536fe3ec2acb54a19b168"), looks := true }, kinds := [], alts := [], laidByText := true, laidKinds := [.data, .data, .data, .data, .sentinel, .sentinel, .data, .data, .pinned], laidTests := true, laidLooks := .later }
def LintNamesUptoCardSaid : Prop := Claim7.holds Tryz.pinned (.plain (OpenSpec.upto lintNamesSpec)) lintNamesUptoCard

/-- THE SECOND FORM's CARD OF 'shuntlaw17.LintSound'. -/
def lintSoundUptoCard : Claim7 := { stood := { row := lintSoundUptoRow, standIns := [], harness := (true, "55e4d3a0bccf65c9b5c1c8ca40acd5d9a7b65da3e02536fe3ec2acb54a19b168"), looks := true }, kinds := [], alts := [], laidByText := true, laidKinds := [.data, .data, .data, .data, .sentinel, .sentinel, .data, .data, .pinned], laidTests := true, laidLooks := .later }
def LintSoundUptoCardSaid : Prop := Claim7.holds Tryz.pinned (.plain (OpenSpec.upto lintSoundSpec)) lintSoundUptoCard

/-- THE SECOND FORM's CARD OF 'shuntlaw17.LintSame'. -/
def lintSameUptoCard : Claim7 := { stood := { row := lintSameUptoRow, standIns := [], harness := (true, "55e4d3a0bccf65c9b5c1c8ca40acd5d9a7b65da3e02536fe3ec2acb54a19b168"), looks := true }, kinds := [], alts := [], laidByText := true, laidKinds := [.data, .data, .data, .data, .sentinel, .sentinel, .data, .data, .pinned], laidTests := true, laidLooks := .later }
def LintSameUptoCardSaid : Prop := Claim7.holds Tryz.pinned (.plain (OpenSpec.upto lintSameSpec)) lintSameUptoCard

/-- THE SECOND FORM's CARD OF 'shuntlaw17.LintPart'. -/
def lintPartUptoCard : Claim7 := { stood := { row := lintPartUptoRow, standIns := [], harness := (true, "55e4d3a0bccf65c9b5c1c8ca40acd5d9a7b65da3e02536fe3ec2acb54a19b168"), looks := true }, kinds := [], alts := [], laidByText := true, laidKinds := [.data, .data, .data, .data, .sentinel, .sentinel, .data, .data, .pinned], laidTests := true, laidLooks := .later }
def LintPartUptoCardSaid : Prop := Claim7.holds Tryz.pinned (.plain (OpenSpec.upto lintPartSpec)) lintPartUptoCard

/-- THE SECOND FORM's CARD OF 'shuntlaw17.LintPlaces'. -/
def lintPlacesUptoCard : Claim7 := { stood := { row := lintPlacesUptoRow, standIns := [], harness := (true, "55e4d3a0bccf65c9b5c1c8ca40acd5d9a7b65da3e02536fe3ec2acb54a19b168"), looks := true }, kinds := [], alts := [], laidByText := true, laidKinds := [.data, .data, .data, .data, .sentinel, .sentinel, .data, .data, .pinned], laidTests := true, laidLooks := .later }
def LintPlacesUptoCardSaid : Prop := Claim7.holds Tryz.pinned (.plain (OpenSpec.upto lintPlacesSpec)) lintPlacesUptoCard
end Rows
end Go.Proofs.YteijhcibdglkeaaGreatDoor
