/-
  NARROWER THAN 'FOR EVERY INPUT', by the rows' own cells (each row's printed sentence says how): FlowParts: laid · FlowReaches: laid.
  DERIVED. THE GIVEN ROWS OF THIS SEAT. 2 by the template 'for every input the law returns true; each argument reads behind the call as it read before'; 0 by the template 'total and deterministic' (their statements: YtehnailokgoekaaDoorTotals.lean).
  GIVEN WITH THE SEED: the statements are not yours to turn. If you find one false, say at which input.
  Laid BY PROGRAM, IN A SANDBOX (cutbox-rows.mjs): the forced cells as the released guide's own fill.sh prints them over the translation b02c2c294282301e… (all of the seat's roots in one cut). By AI agents, Wed Nov 11 2026. No macro, syntax, notation, axiom, sorry.
-/
import Derived.Test.YtehnailokgoekaaDoorChecked
import GoSem.Claim
import GoSem.ClaimJoined
import GoSem.ClaimMapViews
import Derived.JoinedTies
import Derived.KernelRfl
namespace Go.Proofs.YtehnailokgoekaaDoor
/- THE CELL 'sum', in the pinned program and in every row, IS THE sha256 OF THE DUMP (.gsa) THAT YtehnailokgoekaaDoorProg.lean LOADS. Nothing in Lean hashes anything: it is a label: what it is worth is what the hold of that sum in a sandbox is worth. -/
noncomputable def Tryd.pinned : Pinned := { name := "ytehnailokgoekaadoor", sum := "b02c2c294282301ec10a046e0406f8bcb6f796ffe86578a7c77352675ba3aaf1", checked := Tryd.checked }
namespace Rows
def none {H : Type} : Left H := { results := [], args := [] }

/- WHAT THE LISTED PACKAGE-LEVEL VARIABLES READ AS WHEN THE CALL BEGINS. Each datum BY PROGRAM (the guide's laid-datum.mjs) off the statement by which the dump's own 'gosem.cut.vars' lays the variable. In a bare row this is a premise. The card (YtehnailokgoekaaDoorCards.lean) ties it to the program's text. -/
def laid_shunt_isa_forms {H : Type} : DataW H := .agg [.agg [.lit (.string [114, 97, 119]), .lit (.int .i64 31)], .agg [.lit (.string [104, 97, 108, 116]), .lit (.int .i64 0)], .agg [.lit (.string [115, 101, 116]), .lit (.int .i64 18)], .agg [.lit (.string [109, 111, 118]), .lit (.int .i64 6)], .agg [.lit (.string [97, 100, 100]), .lit (.int .i64 14)], .agg [.lit (.string [115, 117, 98]), .lit (.int .i64 14)], .agg [.lit (.string [109, 117, 108]), .lit (.int .i64 14)], .agg [.lit (.string [97, 110, 100]), .lit (.int .i64 14)], .agg [.lit (.string [120, 111, 114]), .lit (.int .i64 14)], .agg [.lit (.string [115, 104, 108]), .lit (.int .i64 14)], .agg [.lit (.string [115, 104, 114]), .lit (.int .i64 14)], .agg [.lit (.string [108, 111, 97, 100]), .lit (.int .i64 22)], .agg [.lit (.string [115, 116, 111, 114, 101]), .lit (.int .i64 22)], .agg [.lit (.string [106, 117, 109, 112]), .lit (.int .i64 16)], .agg [.lit (.string [101, 113]), .lit (.int .i64 22)], .agg [.lit (.string [110, 101]), .lit (.int .i64 22)], .agg [.lit (.string [108, 116]), .lit (.int .i64 22)], .agg [.lit (.string [98, 101, 103, 105, 110]), .lit (.int .i64 0)], .agg [.lit (.string [101, 110, 100]), .lit (.int .i64 0)]]

/-- 'shuntlaw16.FlowParts': WHATEVER THE INPUT: true; the input reads as it did. -/
def flowPartsSpec : ChangeSpec := { name := "flowParts", fn := fun _ => fun
  | [d1, d2] => { results := [.lit (.bool true)], args := [d1, d2] }
  | _ => none }
def flowPartsRow : OpenClaim := { program := "ytehnailokgoekaadoor", sum := "b02c2c294282301ec10a046e0406f8bcb6f796ffe86578a7c77352675ba3aaf1", func := "shunt/shuntlaw16.FlowParts", spec := "flowParts", unfollowed := true, recurses := true, named := ["shunt/isa.forms"], apart := false, laid := [("shunt/isa.forms", laid_shunt_isa_forms)] }
def FlowPartsSaid : Prop := flowPartsRow.holds Tryd.pinned (OpenSpec.ofChange flowPartsSpec)

/-- ITS FALSE NEIGHBOUR: 'it returns false'. Refute it at one input. -/
def flowPartsWrong : ChangeSpec := { name := "flowParts", fn := fun _ => fun
  | [d1, d2] => { results := [.lit (.bool false)], args := [d1, d2] }
  | _ => none }
def FlowPartsWrongFalsely : Prop := flowPartsRow.holds Tryd.pinned (OpenSpec.ofChange flowPartsWrong)

/-- 'shuntlaw16.FlowReaches': WHATEVER THE INPUT: true; the input reads as it did. -/
def flowReachesSpec : ChangeSpec := { name := "flowReaches", fn := fun _ => fun
  | [d] => { results := [.lit (.bool true)], args := [d] }
  | _ => none }
def flowReachesRow : OpenClaim := { program := "ytehnailokgoekaadoor", sum := "b02c2c294282301ec10a046e0406f8bcb6f796ffe86578a7c77352675ba3aaf1", func := "shunt/shuntlaw16.FlowReaches", spec := "flowReaches", unfollowed := true, recurses := true, named := ["shunt/isa.forms"], apart := false, laid := [("shunt/isa.forms", laid_shunt_isa_forms)] }
def FlowReachesSaid : Prop := flowReachesRow.holds Tryd.pinned (OpenSpec.ofChange flowReachesSpec)

/-- ITS FALSE NEIGHBOUR: 'it returns false'. Refute it at one input. -/
def flowReachesWrong : ChangeSpec := { name := "flowReaches", fn := fun _ => fun
  | [d] => { results := [.lit (.bool false)], args := [d] }
  | _ => none }
def FlowReachesWrongFalsely : Prop := flowReachesRow.holds Tryd.pinned (OpenSpec.ofChange flowReachesWrong)

/- THE SECOND FORM. 'bulk': how many values and letters a reading holds, each counted each time it is reached (what is shared counts as often as it is met; a slice's spare places count too). A statement '..UptoSaid' is the law's where the arguments, and the package variables that the reading takes, are together of bulk at most 1048576: NARROWER than '..Said'. Prove '..Said' where nothing that the law and all that it calls make is longer than what came in: it says more and counts as full. Else prove '..UptoSaid'. A law counts once. -/
mutual
def uptoBulk {H : Type} : DataW H → Nat
  | .lit (.string bytes) => bytes.length + 1
  | .lit _ => 1
  | .nil => 1
  | .ptr d => uptoBulk d + 1
  | .slice elems spare => uptoBulkAll elems + uptoBulkAll spare + 1
  | .agg parts => uptoBulkAll parts + 1
  | .iface _ d => uptoBulk d + 1
  | .map entries => uptoBulkEntries entries + 1
  | .held _ => 1
def uptoBulkAll {H : Type} : List (DataW H) → Nat
  | [] => 0
  | d :: r => uptoBulk d + uptoBulkAll r
def uptoBulkEntries {H : Type} : List (Lit × DataW H) → Nat
  | [] => 0
  | x :: r => uptoBulkEntry x + uptoBulkEntries r
def uptoBulkEntry {H : Type} : Lit × DataW H → Nat
  | (.string bytes, d) => bytes.length + uptoBulk d + 1
  | (_, d) => uptoBulk d + 1
 end
def uptoSmall : (H : Type) → List (DataW H) → Bool := fun _ ds => decide (uptoBulkAll ds ≤ 1048576)
def OpenSpec.upto (s : _root_.Go.ChangeSpec) : _root_.Go.OpenSpec := { _root_.Go.OpenSpec.ofChange s with cond := some uptoSmall }

/-- 'shuntlaw16.FlowParts', WHERE WHAT IT READS IS OF BULK AT MOST 1048576: true; the input reads as it did. -/
def flowPartsUptoRow : OpenClaim := { program := "ytehnailokgoekaadoor", sum := "b02c2c294282301ec10a046e0406f8bcb6f796ffe86578a7c77352675ba3aaf1", func := "shunt/shuntlaw16.FlowParts", spec := "flowParts", unfollowed := true, recurses := true, named := ["shunt/isa.forms"], apart := false, laid := [("shunt/isa.forms", laid_shunt_isa_forms)], narrowed := true }
def FlowPartsUptoSaid : Prop := flowPartsUptoRow.holds Tryd.pinned (OpenSpec.upto flowPartsSpec)

/-- 'shuntlaw16.FlowReaches', WHERE WHAT IT READS IS OF BULK AT MOST 1048576: true; the input reads as it did. -/
def flowReachesUptoRow : OpenClaim := { program := "ytehnailokgoekaadoor", sum := "b02c2c294282301ec10a046e0406f8bcb6f796ffe86578a7c77352675ba3aaf1", func := "shunt/shuntlaw16.FlowReaches", spec := "flowReaches", unfollowed := true, recurses := true, named := ["shunt/isa.forms"], apart := false, laid := [("shunt/isa.forms", laid_shunt_isa_forms)], narrowed := true }
def FlowReachesUptoSaid : Prop := flowReachesUptoRow.holds Tryd.pinned (OpenSpec.upto flowReachesSpec)

end Rows
end Go.Proofs.YtehnailokgoekaaDoor
