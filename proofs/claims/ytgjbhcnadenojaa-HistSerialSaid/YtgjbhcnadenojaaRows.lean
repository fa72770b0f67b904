/-
  No cell of these rows narrows 'for every input' (looked for: loops, veiled, ifaces, maps, wideKeys, modest, calm, conditions, laid).
  DERIVED. THE GIVEN ROWS OF THIS SEAT. 5 by the template 'for every input the law returns true; each argument reads behind the call as it read before'; 0 by the template 'total and deterministic' (their statements: YtgjbhcnadenojaaTotals.lean).
  GIVEN WITH THE SEED: the statements are not yours to turn. If you find one false, say at which input.
  Laid BY PROGRAM, IN A SANDBOX (cutbox-rows.mjs): the forced cells as the released guide's own fill.sh prints them over the translation 444ee71e653927c5… (all of the seat's roots in one cut). By AI agents, Wed Nov 11 2026. No macro, syntax, notation, axiom, sorry.
-/
import Derived.Test.YtgjbhcnadenojaaChecked
import GoSem.Claim
import GoSem.ClaimJoined
import GoSem.ClaimMapViews
import Derived.JoinedTies
import Derived.KernelRfl
namespace Go.Proofs.Ytgjbhcnadenojaa
/- THE CELL 'sum', in the pinned program and in every row, IS THE sha256 OF THE DUMP (.gsa) THAT YtgjbhcnadenojaaProg.lean LOADS. Nothing in Lean hashes anything: it is a label: what it is worth is what the hold of that sum in a sandbox is worth. -/
noncomputable def Try.pinned : Pinned := { name := "ytgjbhcnadenojaa", sum := "444ee71e653927c5f387bef432760e58907c111dd112da2a776d7c2d4b4a26f3", checked := Try.checked }
namespace Rows
def none {H : Type} : Left H := { results := [], args := [] }

/-- 'shuntlaw12.HistTells': WHATEVER THE INPUT: true; the input reads as it did. -/
def histTellsSpec : ChangeSpec := { name := "histTells", fn := fun _ => fun
  | [d1, d2] => { results := [.lit (.bool true)], args := [d1, d2] }
  | _ => none }
def histTellsRow : OpenClaim := { program := "ytgjbhcnadenojaa", sum := "444ee71e653927c5f387bef432760e58907c111dd112da2a776d7c2d4b4a26f3", func := "shunt/shuntlaw12.HistTells", spec := "histTells", unfollowed := true, recurses := true, apart := false }
def HistTellsSaid : Prop := histTellsRow.holds Try.pinned (OpenSpec.ofChange histTellsSpec)

/-- ITS FALSE NEIGHBOUR: 'it returns false'. Refute it at one input. -/
def histTellsWrong : ChangeSpec := { name := "histTells", fn := fun _ => fun
  | [d1, d2] => { results := [.lit (.bool false)], args := [d1, d2] }
  | _ => none }
def HistTellsWrongFalsely : Prop := histTellsRow.holds Try.pinned (OpenSpec.ofChange histTellsWrong)

/-- 'shuntlaw12.HistJudges': WHATEVER THE INPUT: true; the input reads as it did. -/
def histJudgesSpec : ChangeSpec := { name := "histJudges", fn := fun _ => fun
  | [d1, d2, d3] => { results := [.lit (.bool true)], args := [d1, d2, d3] }
  | _ => none }
def histJudgesRow : OpenClaim := { program := "ytgjbhcnadenojaa", sum := "444ee71e653927c5f387bef432760e58907c111dd112da2a776d7c2d4b4a26f3", func := "shunt/shuntlaw12.HistJudges", spec := "histJudges", unfollowed := true, recurses := true, apart := false }
def HistJudgesSaid : Prop := histJudgesRow.holds Try.pinned (OpenSpec.ofChange histJudgesSpec)

/-- ITS FALSE NEIGHBOUR: 'it returns false'. Refute it at one input. -/
def histJudgesWrong : ChangeSpec := { name := "histJudges", fn := fun _ => fun
  | [d1, d2, d3] => { results := [.lit (.bool false)], args := [d1, d2, d3] }
  | _ => none }
def HistJudgesWrongFalsely : Prop := histJudgesRow.holds Try.pinned (OpenSpec.ofChange histJudgesWrong)

/-- 'shuntlaw12.HistNames': WHATEVER THE INPUT: true; the input reads as it did. -/
def histNamesSpec : ChangeSpec := { name := "histNames", fn := fun _ => fun
  | [] => { results := [.lit (.bool true)], args := [] }
  | _ => none }
def histNamesRow : OpenClaim := { program := "ytgjbhcnadenojaa", sum := "444ee71e653927c5f387bef432760e58907c111dd112da2a776d7c2d4b4a26f3", func := "shunt/shuntlaw12.HistNames", spec := "histNames", unfollowed := true, recurses := true, apart := false }
def HistNamesSaid : Prop := histNamesRow.holds Try.pinned (OpenSpec.ofChange histNamesSpec)

/-- ITS FALSE NEIGHBOUR: 'it returns false'. Refute it at one input. -/
def histNamesWrong : ChangeSpec := { name := "histNames", fn := fun _ => fun
  | [] => { results := [.lit (.bool false)], args := [] }
  | _ => none }
def HistNamesWrongFalsely : Prop := histNamesRow.holds Try.pinned (OpenSpec.ofChange histNamesWrong)

/-- 'shuntlaw12.HistSerial': WHATEVER THE INPUT: true; the input reads as it did. -/
def histSerialSpec : ChangeSpec := { name := "histSerial", fn := fun _ => fun
  | [d1, d2, d3] => { results := [.lit (.bool true)], args := [d1, d2, d3] }
  | _ => none }
def histSerialRow : OpenClaim := { program := "ytgjbhcnadenojaa", sum := "444ee71e653927c5f387bef432760e58907c111dd112da2a776d7c2d4b4a26f3", func := "shunt/shuntlaw12.HistSerial", spec := "histSerial", unfollowed := true, recurses := true, apart := false }
def HistSerialSaid : Prop := histSerialRow.holds Try.pinned (OpenSpec.ofChange histSerialSpec)

/-- ITS FALSE NEIGHBOUR: 'it returns false'. Refute it at one input. -/
def histSerialWrong : ChangeSpec := { name := "histSerial", fn := fun _ => fun
  | [d1, d2, d3] => { results := [.lit (.bool false)], args := [d1, d2, d3] }
  | _ => none }
def HistSerialWrongFalsely : Prop := histSerialRow.holds Try.pinned (OpenSpec.ofChange histSerialWrong)

/-- 'shuntlaw12.HistParts': WHATEVER THE INPUT: true; the input reads as it did. -/
def histPartsSpec : ChangeSpec := { name := "histParts", fn := fun _ => fun
  | [d1, d2, d3] => { results := [.lit (.bool true)], args := [d1, d2, d3] }
  | _ => none }
def histPartsRow : OpenClaim := { program := "ytgjbhcnadenojaa", sum := "444ee71e653927c5f387bef432760e58907c111dd112da2a776d7c2d4b4a26f3", func := "shunt/shuntlaw12.HistParts", spec := "histParts", unfollowed := true, recurses := true, apart := false }
def HistPartsSaid : Prop := histPartsRow.holds Try.pinned (OpenSpec.ofChange histPartsSpec)

/-- ITS FALSE NEIGHBOUR: 'it returns false'. Refute it at one input. -/
def histPartsWrong : ChangeSpec := { name := "histParts", fn := fun _ => fun
  | [d1, d2, d3] => { results := [.lit (.bool false)], args := [d1, d2, d3] }
  | _ => none }
def HistPartsWrongFalsely : Prop := histPartsRow.holds Try.pinned (OpenSpec.ofChange histPartsWrong)

/- THE SECOND FORM. 'bulk': how many values and letters a reading holds, each counted each time it is reached (what is shared counts as often as it is met; a slice's spare places count too). A statement '..UptoSaid' is the law's where the arguments, and the package variables that the reading takes, are together of bulk at most 1048576: NARROWER than '..Said'. Prove '..Said' where nothing that the law and all that it calls make is longer than what came in: it says more and counts as full. Else prove '..UptoSaid'. A law counts once. -/
mutual
def uptoBulk {H : Type} : DataW H → Nat
  | .lit (.string bytes) => bytes.length + 1
  | .lit _ => 1
  | .nil => 1
  | .ptr d => uptoBulk d + 1
  | .slice elems spare => uptoBulkAll elems + uptoBulkAll spare + 1
  | .agg parts => uptoBulkAll parts + 1
  | .iface _ d => uptoBulk d + 1
  | .map entries => uptoBulkEntries entries + 1
  | .held _ => 1
def uptoBulkAll {H : Type} : List (DataW H) → Nat
  | [] => 0
  | d :: r => uptoBulk d + uptoBulkAll r
def uptoBulkEntries {H : Type} : List (Lit × DataW H) → Nat
  | [] => 0
  | x :: r => uptoBulkEntry x + uptoBulkEntries r
def uptoBulkEntry {H : Type} : Lit × DataW H → Nat
  | (.string bytes, d) => bytes.length + uptoBulk d + 1
  | (_, d) => uptoBulk d + 1
 end
def uptoSmall : (H : Type) → List (DataW H) → Bool := fun _ ds => decide (uptoBulkAll ds ≤ 1048576)
def OpenSpec.upto (s : _root_.Go.ChangeSpec) : _root_.Go.OpenSpec := { _root_.Go.OpenSpec.ofChange s with cond := some uptoSmall }

/-- 'shuntlaw12.HistTells', WHERE WHAT IT READS IS OF BULK AT MOST 1048576: true; the input reads as it did. -/
def histTellsUptoRow : OpenClaim := { program := "ytgjbhcnadenojaa", sum := "444ee71e653927c5f387bef432760e58907c111dd112da2a776d7c2d4b4a26f3", func := "shunt/shuntlaw12.HistTells", spec := "histTells", unfollowed := true, recurses := true, apart := false, narrowed := true }
def HistTellsUptoSaid : Prop := histTellsUptoRow.holds Try.pinned (OpenSpec.upto histTellsSpec)

/-- 'shuntlaw12.HistJudges', WHERE WHAT IT READS IS OF BULK AT MOST 1048576: true; the input reads as it did. -/
def histJudgesUptoRow : OpenClaim := { program := "ytgjbhcnadenojaa", sum := "444ee71e653927c5f387bef432760e58907c111dd112da2a776d7c2d4b4a26f3", func := "shunt/shuntlaw12.HistJudges", spec := "histJudges", unfollowed := true, recurses := true, apart := false, narrowed := true }
def HistJudgesUptoSaid : Prop := histJudgesUptoRow.holds Try.pinned (OpenSpec.upto histJudgesSpec)

/-- 'shuntlaw12.HistNames', WHERE WHAT IT READS IS OF BULK AT MOST 1048576: true; the input reads as it did. -/
def histNamesUptoRow : OpenClaim := { program := "ytgjbhcnadenojaa", sum := "444ee71e653927c5f387bef432760e58907c111dd112da2a776d7c2d4b4a26f3", func := "shunt/shuntlaw12.HistNames", spec := "histNames", unfollowed := true, recurses := true, apart := false, narrowed := true }
def HistNamesUptoSaid : Prop := histNamesUptoRow.holds Try.pinned (OpenSpec.upto histNamesSpec)

/-- 'shuntlaw12.HistSerial', WHERE WHAT IT READS IS OF BULK AT MOST 1048576: true; the input reads as it did. -/
def histSerialUptoRow : OpenClaim := { program := "ytgjbhcnadenojaa", sum := "444ee71e653927c5f387bef432760e58907c111dd112da2a776d7c2d4b4a26f3", func := "shunt/shuntlaw12.HistSerial", spec := "histSerial", unfollowed := true, recurses := true, apart := false, narrowed := true }
def HistSerialUptoSaid : Prop := histSerialUptoRow.holds Try.pinned (OpenSpec.upto histSerialSpec)

/-- 'shuntlaw12.HistParts', WHERE WHAT IT READS IS OF BULK AT MOST 1048576: true; the input reads as it did. -/
def histPartsUptoRow : OpenClaim := { program := "ytgjbhcnadenojaa", sum := "444ee71e653927c5f387bef432760e58907c111dd112da2a776d7c2d4b4a26f3", func := "shunt/shuntlaw12.HistParts", spec := "histParts", unfollowed := true, recurses := true, apart := false, narrowed := true }
def HistPartsUptoSaid : Prop := histPartsUptoRow.holds Try.pinned (OpenSpec.upto histPartsSpec)

end Rows
end Go.Proofs.Ytgjbhcnadenojaa
