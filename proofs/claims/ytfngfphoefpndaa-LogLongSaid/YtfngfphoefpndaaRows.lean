/-
  No cell of these rows narrows 'for every input' (looked for: loops, veiled, ifaces, maps, wideKeys, modest, calm, conditions, laid).
  DERIVED. THE GIVEN ROWS OF THIS SEAT. 7 by the template 'for every input the law returns true; each argument reads behind the call as it read before'; 0 by the template 'total and deterministic' (their statements: YtfngfphoefpndaaTotals.lean).
  GIVEN WITH THE SEED: the statements are not yours to turn. If you find one false, say at which input.
  Laid BY PROGRAM, IN A SANDBOX (cutbox-rows.mjs): the forced cells as the released guide's own fill.sh prints them over the translation 23b767160ea27a8f… (all of the seat's roots in one cut). By AI agents, Wed Nov 11 2026. No macro, syntax, notation, axiom, sorry.
-/
import Derived.Test.YtfngfphoefpndaaChecked
import GoSem.Claim
import GoSem.ClaimJoined
import GoSem.ClaimMapViews
import Derived.JoinedTies
import Derived.KernelRfl
namespace Go.Proofs.Ytfngfphoefpndaa
/- THE CELL 'sum', in the pinned program and in every row, IS THE sha256 OF THE DUMP (.gsa) THAT YtfngfphoefpndaaProg.lean LOADS. Nothing in Lean hashes anything: it is a label: what it is worth is what the hold of that sum in a sandbox is worth. -/
noncomputable def Try.pinned : Pinned := { name := "ytfngfphoefpndaa", sum := "23b767160ea27a8fcd9dc47dec99c1fa3ce925aed2c700ddeb0fbd5d10c1ab3c", checked := Try.checked }
namespace Rows
def none {H : Type} : Left H := { results := [], args := [] }

/-- 'shuntlaw07.LogPlays': WHATEVER THE INPUT: true; the input reads as it did. -/
def logPlaysSpec : ChangeSpec := { name := "logPlays", fn := fun _ => fun
  | [d] => { results := [.lit (.bool true)], args := [d] }
  | _ => none }
def logPlaysRow : OpenClaim := { program := "ytfngfphoefpndaa", sum := "23b767160ea27a8fcd9dc47dec99c1fa3ce925aed2c700ddeb0fbd5d10c1ab3c", func := "shunt/shuntlaw07.LogPlays", spec := "logPlays", unfollowed := true, recurses := true, apart := false }
def LogPlaysSaid : Prop := logPlaysRow.holds Try.pinned (OpenSpec.ofChange logPlaysSpec)

/-- ITS FALSE NEIGHBOUR: 'it returns false'. Refute it at one input. -/
def logPlaysWrong : ChangeSpec := { name := "logPlays", fn := fun _ => fun
  | [d] => { results := [.lit (.bool false)], args := [d] }
  | _ => none }
def LogPlaysWrongFalsely : Prop := logPlaysRow.holds Try.pinned (OpenSpec.ofChange logPlaysWrong)

/-- 'shuntlaw07.LogLong': WHATEVER THE INPUT: true; the input reads as it did. -/
def logLongSpec : ChangeSpec := { name := "logLong", fn := fun _ => fun
  | [d1, d2, d3] => { results := [.lit (.bool true)], args := [d1, d2, d3] }
  | _ => none }
def logLongRow : OpenClaim := { program := "ytfngfphoefpndaa", sum := "23b767160ea27a8fcd9dc47dec99c1fa3ce925aed2c700ddeb0fbd5d10c1ab3c", func := "shunt/shuntlaw07.LogLong", spec := "logLong", unfollowed := true, recurses := true, apart := false }
def LogLongSaid : Prop := logLongRow.holds Try.pinned (OpenSpec.ofChange logLongSpec)

/-- ITS FALSE NEIGHBOUR: 'it returns false'. Refute it at one input. -/
def logLongWrong : ChangeSpec := { name := "logLong", fn := fun _ => fun
  | [d1, d2, d3] => { results := [.lit (.bool false)], args := [d1, d2, d3] }
  | _ => none }
def LogLongWrongFalsely : Prop := logLongRow.holds Try.pinned (OpenSpec.ofChange logLongWrong)

/-- 'shuntlaw07.LogNames': WHATEVER THE INPUT: true; the input reads as it did. -/
def logNamesSpec : ChangeSpec := { name := "logNames", fn := fun _ => fun
  | [] => { results := [.lit (.bool true)], args := [] }
  | _ => none }
def logNamesRow : OpenClaim := { program := "ytfngfphoefpndaa", sum := "23b767160ea27a8fcd9dc47dec99c1fa3ce925aed2c700ddeb0fbd5d10c1ab3c", func := "shunt/shuntlaw07.LogNames", spec := "logNames", unfollowed := true, recurses := true, apart := false }
def LogNamesSaid : Prop := logNamesRow.holds Try.pinned (OpenSpec.ofChange logNamesSpec)

/-- ITS FALSE NEIGHBOUR: 'it returns false'. Refute it at one input. -/
def logNamesWrong : ChangeSpec := { name := "logNames", fn := fun _ => fun
  | [] => { results := [.lit (.bool false)], args := [] }
  | _ => none }
def LogNamesWrongFalsely : Prop := logNamesRow.holds Try.pinned (OpenSpec.ofChange logNamesWrong)

/-- 'shuntlaw07.LogFirst': WHATEVER THE INPUT: true; the input reads as it did. -/
def logFirstSpec : ChangeSpec := { name := "logFirst", fn := fun _ => fun
  | [d1, d2, d3] => { results := [.lit (.bool true)], args := [d1, d2, d3] }
  | _ => none }
def logFirstRow : OpenClaim := { program := "ytfngfphoefpndaa", sum := "23b767160ea27a8fcd9dc47dec99c1fa3ce925aed2c700ddeb0fbd5d10c1ab3c", func := "shunt/shuntlaw07.LogFirst", spec := "logFirst", unfollowed := true, recurses := true, apart := false }
def LogFirstSaid : Prop := logFirstRow.holds Try.pinned (OpenSpec.ofChange logFirstSpec)

/-- ITS FALSE NEIGHBOUR: 'it returns false'. Refute it at one input. -/
def logFirstWrong : ChangeSpec := { name := "logFirst", fn := fun _ => fun
  | [d1, d2, d3] => { results := [.lit (.bool false)], args := [d1, d2, d3] }
  | _ => none }
def LogFirstWrongFalsely : Prop := logFirstRow.holds Try.pinned (OpenSpec.ofChange logFirstWrong)

/-- 'shuntlaw07.LogBroken': WHATEVER THE INPUT: true; the input reads as it did. -/
def logBrokenSpec : ChangeSpec := { name := "logBroken", fn := fun _ => fun
  | [d1, d2, d3] => { results := [.lit (.bool true)], args := [d1, d2, d3] }
  | _ => none }
def logBrokenRow : OpenClaim := { program := "ytfngfphoefpndaa", sum := "23b767160ea27a8fcd9dc47dec99c1fa3ce925aed2c700ddeb0fbd5d10c1ab3c", func := "shunt/shuntlaw07.LogBroken", spec := "logBroken", unfollowed := true, recurses := true, apart := false }
def LogBrokenSaid : Prop := logBrokenRow.holds Try.pinned (OpenSpec.ofChange logBrokenSpec)

/-- ITS FALSE NEIGHBOUR: 'it returns false'. Refute it at one input. -/
def logBrokenWrong : ChangeSpec := { name := "logBroken", fn := fun _ => fun
  | [d1, d2, d3] => { results := [.lit (.bool false)], args := [d1, d2, d3] }
  | _ => none }
def LogBrokenWrongFalsely : Prop := logBrokenRow.holds Try.pinned (OpenSpec.ofChange logBrokenWrong)

/-- 'shuntlaw07.LogCleared': WHATEVER THE INPUT: true; the input reads as it did. -/
def logClearedSpec : ChangeSpec := { name := "logCleared", fn := fun _ => fun
  | [d1, d2] => { results := [.lit (.bool true)], args := [d1, d2] }
  | _ => none }
def logClearedRow : OpenClaim := { program := "ytfngfphoefpndaa", sum := "23b767160ea27a8fcd9dc47dec99c1fa3ce925aed2c700ddeb0fbd5d10c1ab3c", func := "shunt/shuntlaw07.LogCleared", spec := "logCleared", unfollowed := true, recurses := true, apart := false }
def LogClearedSaid : Prop := logClearedRow.holds Try.pinned (OpenSpec.ofChange logClearedSpec)

/-- ITS FALSE NEIGHBOUR: 'it returns false'. Refute it at one input. -/
def logClearedWrong : ChangeSpec := { name := "logCleared", fn := fun _ => fun
  | [d1, d2] => { results := [.lit (.bool false)], args := [d1, d2] }
  | _ => none }
def LogClearedWrongFalsely : Prop := logClearedRow.holds Try.pinned (OpenSpec.ofChange logClearedWrong)

/-- 'shuntlaw07.LogOrder': WHATEVER THE INPUT: true; the input reads as it did. -/
def logOrderSpec : ChangeSpec := { name := "logOrder", fn := fun _ => fun
  | [d1, d2] => { results := [.lit (.bool true)], args := [d1, d2] }
  | _ => none }
def logOrderRow : OpenClaim := { program := "ytfngfphoefpndaa", sum := "23b767160ea27a8fcd9dc47dec99c1fa3ce925aed2c700ddeb0fbd5d10c1ab3c", func := "shunt/shuntlaw07.LogOrder", spec := "logOrder", unfollowed := true, recurses := true, apart := false }
def LogOrderSaid : Prop := logOrderRow.holds Try.pinned (OpenSpec.ofChange logOrderSpec)

/-- ITS FALSE NEIGHBOUR: 'it returns false'. Refute it at one input. -/
def logOrderWrong : ChangeSpec := { name := "logOrder", fn := fun _ => fun
  | [d1, d2] => { results := [.lit (.bool false)], args := [d1, d2] }
  | _ => none }
def LogOrderWrongFalsely : Prop := logOrderRow.holds Try.pinned (OpenSpec.ofChange logOrderWrong)

/- THE SECOND FORM. 'bulk': how many values and letters a reading holds, each counted each time it is reached (what is shared counts as often as it is met; a slice's spare places count too). A statement '..UptoSaid' is the law's where the arguments, and the package variables that the reading takes, are together of bulk at most 1048576: NARROWER than '..Said'. Prove '..Said' where nothing that the law and all that it calls make is longer than what came in: it says more and counts as full. Else prove '..UptoSaid'. A law counts once. -/
mutual
def uptoBulk {H : Type} : DataW H → Nat
  | .lit (.string bytes) => bytes.length + 1
  | .lit _ => 1
  | .nil => 1
  | .ptr d => uptoBulk d + 1
  | .slice elems spare => uptoBulkAll elems + uptoBulkAll spare + 1
  | .agg parts => uptoBulkAll parts + 1
  | .iface _ d => uptoBulk d + 1
  | .map entries => uptoBulkEntries entries + 1
  | .held _ => 1
def uptoBulkAll {H : Type} : List (DataW H) → Nat
  | [] => 0
  | d :: r => uptoBulk d + uptoBulkAll r
def uptoBulkEntries {H : Type} : List (Lit × DataW H) → Nat
  | [] => 0
  | x :: r => uptoBulkEntry x + uptoBulkEntries r
def uptoBulkEntry {H : Type} : Lit × DataW H → Nat
  | (.string bytes, d) => bytes.length + uptoBulk d + 1
  | (_, d) => uptoBulk d + 1
 end
def uptoSmall : (H : Type) → List (DataW H) → Bool := fun _ ds => decide (uptoBulkAll ds ≤ 1048576)
def OpenSpec.upto (s : _root_.Go.ChangeSpec) : _root_.Go.OpenSpec := { _root_.Go.OpenSpec.ofChange s with cond := some uptoSmall }

/-- 'shuntlaw07.LogPlays', WHERE WHAT IT READS IS OF BULK AT MOST 1048576: true; the input reads as it did. -/
def logPlaysUptoRow : OpenClaim := { program := "ytfngfphoefpndaa", sum := "23b767160ea27a8fcd9dc47dec99c1fa3ce925aed2c700ddeb0fbd5d10c1ab3c", func := "shunt/shuntlaw07.LogPlays", spec := "logPlays", unfollowed := true, recurses := true, apart := false, narrowed := true }
def LogPlaysUptoSaid : Prop := logPlaysUptoRow.holds Try.pinned (OpenSpec.upto logPlaysSpec)

/-- 'shuntlaw07.LogLong', WHERE WHAT IT READS IS OF BULK AT MOST 1048576: true; the input reads as it did. -/
def logLongUptoRow : OpenClaim := { program := "ytfngfphoefpndaa", sum := "23b767160ea27a8fcd9dc47dec99c1fa3ce925aed2c700ddeb0fbd5d10c1ab3c", func := "shunt/shuntlaw07.LogLong", spec := "logLong", unfollowed := true, recurses := true, apart := false, narrowed := true }
def LogLongUptoSaid : Prop := logLongUptoRow.holds Try.pinned (OpenSpec.upto logLongSpec)

/-- 'shuntlaw07.LogNames', WHERE WHAT IT READS IS OF BULK AT MOST 1048576: true; the input reads as it did. -/
def logNamesUptoRow : OpenClaim := { program := "ytfngfphoefpndaa", sum := "23b767160ea27a8fcd9dc47dec99c1fa3ce925aed2c700ddeb0fbd5d10c1ab3c", func := "shunt/shuntlaw07.LogNames", spec := "logNames", unfollowed := true, recurses := true, apart := false, narrowed := true }
def LogNamesUptoSaid : Prop := logNamesUptoRow.holds Try.pinned (OpenSpec.upto logNamesSpec)

/-- 'shuntlaw07.LogFirst', WHERE WHAT IT READS IS OF BULK AT MOST 1048576: true; the input reads as it did. -/
def logFirstUptoRow : OpenClaim := { program := "ytfngfphoefpndaa", sum := "23b767160ea27a8fcd9dc47dec99c1fa3ce925aed2c700ddeb0fbd5d10c1ab3c", func := "shunt/shuntlaw07.LogFirst", spec := "logFirst", unfollowed := true, recurses := true, apart := false, narrowed := true }
def LogFirstUptoSaid : Prop := logFirstUptoRow.holds Try.pinned (OpenSpec.upto logFirstSpec)

/-- 'shuntlaw07.LogBroken', WHERE WHAT IT READS IS OF BULK AT MOST 1048576: true; the input reads as it did. -/
def logBrokenUptoRow : OpenClaim := { program := "ytfngfphoefpndaa", sum := "23b767160ea27a8fcd9dc47dec99c1fa3ce925aed2c700ddeb0fbd5d10c1ab3c", func := "shunt/shuntlaw07.LogBroken", spec := "logBroken", unfollowed := true, recurses := true, apart := false, narrowed := true }
def LogBrokenUptoSaid : Prop := logBrokenUptoRow.holds Try.pinned (OpenSpec.upto logBrokenSpec)

/-- 'shuntlaw07.LogCleared', WHERE WHAT IT READS IS OF BULK AT MOST 1048576: true; the input reads as it did. -/
def logClearedUptoRow : OpenClaim := { program := "ytfngfphoefpndaa", sum := "23b767160ea27a8fcd9dc47dec99c1fa3ce925aed2c700ddeb0fbd5d10c1ab3c", func := "shunt/shuntlaw07.LogCleared", spec := "logCleared", unfollowed := true, recurses := true, apart := false, narrowed := true }
def LogClearedUptoSaid : Prop := logClearedUptoRow.holds Try.pinned (OpenSpec.upto logClearedSpec)

/-- 'shuntlaw07.LogOrder', WHERE WHAT IT READS IS OF BULK AT MOST 1048576: true; the input reads as it did. -/
def logOrderUptoRow : OpenClaim := { program := "ytfngfphoefpndaa", sum := "23b767160ea27a8fcd9dc47dec99c1fa3ce925aed2c700ddeb0fbd5d10c1ab3c", func := "shunt/shuntlaw07.LogOrder", spec := "logOrder", unfollowed := true, recurses := true, apart := false, narrowed := true }
def LogOrderUptoSaid : Prop := logOrderUptoRow.holds Try.pinned (OpenSpec.upto logOrderSpec)

end Rows
end Go.Proofs.Ytfngfphoefpndaa
