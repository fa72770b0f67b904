/-
  No cell of these rows narrows 'for every input' (looked for: loops, veiled, ifaces, maps, wideKeys, modest, calm, conditions, laid).
  DERIVED. THE GIVEN ROWS OF THIS SEAT. 7 by the template 'for every input the law returns true; each argument reads behind the call as it read before'; 0 by the template 'total and deterministic' (their statements: YtgdfiggloifncaaTotals.lean).
  GIVEN WITH THE SEED: the statements are not yours to turn. If you find one false, say at which input.
  Laid BY PROGRAM, IN A SANDBOX (cutbox-rows.mjs): the forced cells as the released guide's own fill.sh prints them over the translation 76bbcd8d31080e6e… (all of the seat's roots in one cut). By AI agents, Wed Nov 11 2026. No macro, syntax, notation, axiom, sorry.
-/
import Derived.Test.YtgdfiggloifncaaChecked
import GoSem.Claim
import GoSem.ClaimJoined
import GoSem.ClaimMapViews
import Derived.JoinedTies
import Derived.KernelRfl
namespace Go.Proofs.Ytgdfiggloifncaa
/- THE CELL 'sum', in the pinned program and in every row, IS THE sha256 OF THE DUMP (.gsa) THAT YtgdfiggloifncaaProg.lean LOADS. Nothing in Lean hashes anything: it is a label: what it is worth is what the hold of that sum in a sandbox is worth. -/
noncomputable def Try.pinned : Pinned := { name := "ytgdfiggloifncaa", sum := "76bbcd8d31080e6e14351cef8bbb80f8576ba4f75e9d7202f3c75961b5d608b2", checked := Try.checked }
namespace Rows
def none {H : Type} : Left H := { results := [], args := [] }

/-- 'shuntlaw08.SoftPlays': WHATEVER THE INPUT: true; the input reads as it did. -/
def softPlaysSpec : ChangeSpec := { name := "softPlays", fn := fun _ => fun
  | [d] => { results := [.lit (.bool true)], args := [d] }
  | _ => none }
def softPlaysRow : OpenClaim := { program := "ytgdfiggloifncaa", sum := "76bbcd8d31080e6e14351cef8bbb80f8576ba4f75e9d7202f3c75961b5d608b2", func := "shunt/shuntlaw08.SoftPlays", spec := "softPlays", unfollowed := true, recurses := true, apart := false }
def SoftPlaysSaid : Prop := softPlaysRow.holds Try.pinned (OpenSpec.ofChange softPlaysSpec)

/-- ITS FALSE NEIGHBOUR: 'it returns false'. Refute it at one input. -/
def softPlaysWrong : ChangeSpec := { name := "softPlays", fn := fun _ => fun
  | [d] => { results := [.lit (.bool false)], args := [d] }
  | _ => none }
def SoftPlaysWrongFalsely : Prop := softPlaysRow.holds Try.pinned (OpenSpec.ofChange softPlaysWrong)

/-- 'shuntlaw08.SoftLong': WHATEVER THE INPUT: true; the input reads as it did. -/
def softLongSpec : ChangeSpec := { name := "softLong", fn := fun _ => fun
  | [d1, d2, d3] => { results := [.lit (.bool true)], args := [d1, d2, d3] }
  | _ => none }
def softLongRow : OpenClaim := { program := "ytgdfiggloifncaa", sum := "76bbcd8d31080e6e14351cef8bbb80f8576ba4f75e9d7202f3c75961b5d608b2", func := "shunt/shuntlaw08.SoftLong", spec := "softLong", unfollowed := true, recurses := true, apart := false }
def SoftLongSaid : Prop := softLongRow.holds Try.pinned (OpenSpec.ofChange softLongSpec)

/-- ITS FALSE NEIGHBOUR: 'it returns false'. Refute it at one input. -/
def softLongWrong : ChangeSpec := { name := "softLong", fn := fun _ => fun
  | [d1, d2, d3] => { results := [.lit (.bool false)], args := [d1, d2, d3] }
  | _ => none }
def SoftLongWrongFalsely : Prop := softLongRow.holds Try.pinned (OpenSpec.ofChange softLongWrong)

/-- 'shuntlaw08.SoftNames': WHATEVER THE INPUT: true; the input reads as it did. -/
def softNamesSpec : ChangeSpec := { name := "softNames", fn := fun _ => fun
  | [] => { results := [.lit (.bool true)], args := [] }
  | _ => none }
def softNamesRow : OpenClaim := { program := "ytgdfiggloifncaa", sum := "76bbcd8d31080e6e14351cef8bbb80f8576ba4f75e9d7202f3c75961b5d608b2", func := "shunt/shuntlaw08.SoftNames", spec := "softNames", unfollowed := true, recurses := true, apart := false }
def SoftNamesSaid : Prop := softNamesRow.holds Try.pinned (OpenSpec.ofChange softNamesSpec)

/-- ITS FALSE NEIGHBOUR: 'it returns false'. Refute it at one input. -/
def softNamesWrong : ChangeSpec := { name := "softNames", fn := fun _ => fun
  | [] => { results := [.lit (.bool false)], args := [] }
  | _ => none }
def SoftNamesWrongFalsely : Prop := softNamesRow.holds Try.pinned (OpenSpec.ofChange softNamesWrong)

/-- 'shuntlaw08.SoftPoints': WHATEVER THE INPUT: true; the input reads as it did. -/
def softPointsSpec : ChangeSpec := { name := "softPoints", fn := fun _ => fun
  | [d1, d2] => { results := [.lit (.bool true)], args := [d1, d2] }
  | _ => none }
def softPointsRow : OpenClaim := { program := "ytgdfiggloifncaa", sum := "76bbcd8d31080e6e14351cef8bbb80f8576ba4f75e9d7202f3c75961b5d608b2", func := "shunt/shuntlaw08.SoftPoints", spec := "softPoints", unfollowed := true, recurses := true, apart := false }
def SoftPointsSaid : Prop := softPointsRow.holds Try.pinned (OpenSpec.ofChange softPointsSpec)

/-- ITS FALSE NEIGHBOUR: 'it returns false'. Refute it at one input. -/
def softPointsWrong : ChangeSpec := { name := "softPoints", fn := fun _ => fun
  | [d1, d2] => { results := [.lit (.bool false)], args := [d1, d2] }
  | _ => none }
def SoftPointsWrongFalsely : Prop := softPointsRow.holds Try.pinned (OpenSpec.ofChange softPointsWrong)

/-- 'shuntlaw08.SoftAlone': WHATEVER THE INPUT: true; the input reads as it did. -/
def softAloneSpec : ChangeSpec := { name := "softAlone", fn := fun _ => fun
  | [d1, d2, d3] => { results := [.lit (.bool true)], args := [d1, d2, d3] }
  | _ => none }
def softAloneRow : OpenClaim := { program := "ytgdfiggloifncaa", sum := "76bbcd8d31080e6e14351cef8bbb80f8576ba4f75e9d7202f3c75961b5d608b2", func := "shunt/shuntlaw08.SoftAlone", spec := "softAlone", unfollowed := true, recurses := true, apart := false }
def SoftAloneSaid : Prop := softAloneRow.holds Try.pinned (OpenSpec.ofChange softAloneSpec)

/-- ITS FALSE NEIGHBOUR: 'it returns false'. Refute it at one input. -/
def softAloneWrong : ChangeSpec := { name := "softAlone", fn := fun _ => fun
  | [d1, d2, d3] => { results := [.lit (.bool false)], args := [d1, d2, d3] }
  | _ => none }
def SoftAloneWrongFalsely : Prop := softAloneRow.holds Try.pinned (OpenSpec.ofChange softAloneWrong)

/-- 'shuntlaw08.SoftClash': WHATEVER THE INPUT: true; the input reads as it did. -/
def softClashSpec : ChangeSpec := { name := "softClash", fn := fun _ => fun
  | [d1, d2] => { results := [.lit (.bool true)], args := [d1, d2] }
  | _ => none }
def softClashRow : OpenClaim := { program := "ytgdfiggloifncaa", sum := "76bbcd8d31080e6e14351cef8bbb80f8576ba4f75e9d7202f3c75961b5d608b2", func := "shunt/shuntlaw08.SoftClash", spec := "softClash", unfollowed := true, recurses := true, apart := false }
def SoftClashSaid : Prop := softClashRow.holds Try.pinned (OpenSpec.ofChange softClashSpec)

/-- ITS FALSE NEIGHBOUR: 'it returns false'. Refute it at one input. -/
def softClashWrong : ChangeSpec := { name := "softClash", fn := fun _ => fun
  | [d1, d2] => { results := [.lit (.bool false)], args := [d1, d2] }
  | _ => none }
def SoftClashWrongFalsely : Prop := softClashRow.holds Try.pinned (OpenSpec.ofChange softClashWrong)

/-- 'shuntlaw08.SoftRefused': WHATEVER THE INPUT: true; the input reads as it did. -/
def softRefusedSpec : ChangeSpec := { name := "softRefused", fn := fun _ => fun
  | [d1, d2, d3] => { results := [.lit (.bool true)], args := [d1, d2, d3] }
  | _ => none }
def softRefusedRow : OpenClaim := { program := "ytgdfiggloifncaa", sum := "76bbcd8d31080e6e14351cef8bbb80f8576ba4f75e9d7202f3c75961b5d608b2", func := "shunt/shuntlaw08.SoftRefused", spec := "softRefused", unfollowed := true, recurses := true, apart := false }
def SoftRefusedSaid : Prop := softRefusedRow.holds Try.pinned (OpenSpec.ofChange softRefusedSpec)

/-- ITS FALSE NEIGHBOUR: 'it returns false'. Refute it at one input. -/
def softRefusedWrong : ChangeSpec := { name := "softRefused", fn := fun _ => fun
  | [d1, d2, d3] => { results := [.lit (.bool false)], args := [d1, d2, d3] }
  | _ => none }
def SoftRefusedWrongFalsely : Prop := softRefusedRow.holds Try.pinned (OpenSpec.ofChange softRefusedWrong)

/- THE SECOND FORM. 'bulk': how many values and letters a reading holds, each counted each time it is reached (what is shared counts as often as it is met; a slice's spare places count too). A statement '..UptoSaid' is the law's where the arguments, and the package variables that the reading takes, are together of bulk at most 1048576: NARROWER than '..Said'. Prove '..Said' where nothing that the law and all that it calls make is longer than what came in: it says more and counts as full. Else prove '..UptoSaid'. A law counts once. -/
mutual
def uptoBulk {H : Type} : DataW H → Nat
  | .lit (.string bytes) => bytes.length + 1
  | .lit _ => 1
  | .nil => 1
  | .ptr d => uptoBulk d + 1
  | .slice elems spare => uptoBulkAll elems + uptoBulkAll spare + 1
  | .agg parts => uptoBulkAll parts + 1
  | .iface _ d => uptoBulk d + 1
  | .map entries => uptoBulkEntries entries + 1
  | .held _ => 1
def uptoBulkAll {H : Type} : List (DataW H) → Nat
  | [] => 0
  | d :: r => uptoBulk d + uptoBulkAll r
def uptoBulkEntries {H : Type} : List (Lit × DataW H) → Nat
  | [] => 0
  | x :: r => uptoBulkEntry x + uptoBulkEntries r
def uptoBulkEntry {H : Type} : Lit × DataW H → Nat
  | (.string bytes, d) => bytes.length + uptoBulk d + 1
  | (_, d) => uptoBulk d + 1
 end
def uptoSmall : (H : Type) → List (DataW H) → Bool := fun _ ds => decide (uptoBulkAll ds ≤ 1048576)
def OpenSpec.upto (s : _root_.Go.ChangeSpec) : _root_.Go.OpenSpec := { _root_.Go.OpenSpec.ofChange s with cond := some uptoSmall }

/-- 'shuntlaw08.SoftPlays', WHERE WHAT IT READS IS OF BULK AT MOST 1048576: true; the input reads as it did. -/
def softPlaysUptoRow : OpenClaim := { program := "ytgdfiggloifncaa", sum := "76bbcd8d31080e6e14351cef8bbb80f8576ba4f75e9d7202f3c75961b5d608b2", func := "shunt/shuntlaw08.SoftPlays", spec := "softPlays", unfollowed := true, recurses := true, apart := false, narrowed := true }
def SoftPlaysUptoSaid : Prop := softPlaysUptoRow.holds Try.pinned (OpenSpec.upto softPlaysSpec)

/-- 'shuntlaw08.SoftLong', WHERE WHAT IT READS IS OF BULK AT MOST 1048576: true; the input reads as it did. -/
def softLongUptoRow : OpenClaim := { program := "ytgdfiggloifncaa", sum := "76bbcd8d31080e6e14351cef8bbb80f8576ba4f75e9d7202f3c75961b5d608b2", func := "shunt/shuntlaw08.SoftLong", spec := "softLong", unfollowed := true, recurses := true, apart := false, narrowed := true }
def SoftLongUptoSaid : Prop := softLongUptoRow.holds Try.pinned (OpenSpec.upto softLongSpec)

/-- 'shuntlaw08.SoftNames', WHERE WHAT IT READS IS OF BULK AT MOST 1048576: true; the input reads as it did. -/
def softNamesUptoRow : OpenClaim := { program := "ytgdfiggloifncaa", sum := "76bbcd8d31080e6e14351cef8bbb80f8576ba4f75e9d7202f3c75961b5d608b2", func := "shunt/shuntlaw08.SoftNames", spec := "softNames", unfollowed := true, recurses := true, apart := false, narrowed := true }
def SoftNamesUptoSaid : Prop := softNamesUptoRow.holds Try.pinned (OpenSpec.upto softNamesSpec)

/-- 'shuntlaw08.SoftPoints', WHERE WHAT IT READS IS OF BULK AT MOST 1048576: true; the input reads as it did. -/
def softPointsUptoRow : OpenClaim := { program := "ytgdfiggloifncaa", sum := "76bbcd8d31080e6e14351cef8bbb80f8576ba4f75e9d7202f3c75961b5d608b2", func := "shunt/shuntlaw08.SoftPoints", spec := "softPoints", unfollowed := true, recurses := true, apart := false, narrowed := true }
def SoftPointsUptoSaid : Prop := softPointsUptoRow.holds Try.pinned (OpenSpec.upto softPointsSpec)

/-- 'shuntlaw08.SoftAlone', WHERE WHAT IT READS IS OF BULK AT MOST 1048576: true; the input reads as it did. -/
def softAloneUptoRow : OpenClaim := { program := "ytgdfiggloifncaa", sum := "76bbcd8d31080e6e14351cef8bbb80f8576ba4f75e9d7202f3c75961b5d608b2", func := "shunt/shuntlaw08.SoftAlone", spec := "softAlone", unfollowed := true, recurses := true, apart := false, narrowed := true }
def SoftAloneUptoSaid : Prop := softAloneUptoRow.holds Try.pinned (OpenSpec.upto softAloneSpec)

/-- 'shuntlaw08.SoftClash', WHERE WHAT IT READS IS OF BULK AT MOST 1048576: true; the input reads as it did. -/
def softClashUptoRow : OpenClaim := { program := "ytgdfiggloifncaa", sum := "76bbcd8d31080e6e14351cef8bbb80f8576ba4f75e9d7202f3c75961b5d608b2", func := "shunt/shuntlaw08.SoftClash", spec := "softClash", unfollowed := true, recurses := true, apart := false, narrowed := true }
def SoftClashUptoSaid : Prop := softClashUptoRow.holds Try.pinned (OpenSpec.upto softClashSpec)

/-- 'shuntlaw08.SoftRefused', WHERE WHAT IT READS IS OF BULK AT MOST 1048576: true; the input reads as it did. -/
def softRefusedUptoRow : OpenClaim := { program := "ytgdfiggloifncaa", sum := "76bbcd8d31080e6e14351cef8bbb80f8576ba4f75e9d7202f3c75961b5d608b2", func := "shunt/shuntlaw08.SoftRefused", spec := "softRefused", unfollowed := true, recurses := true, apart := false, narrowed := true }
def SoftRefusedUptoSaid : Prop := softRefusedUptoRow.holds Try.pinned (OpenSpec.upto softRefusedSpec)

end Rows
end Go.Proofs.Ytgdfiggloifncaa
