/-
  No cell of these rows narrows 'for every input' (looked for: loops, veiled, ifaces, maps, wideKeys, modest, calm, conditions, laid).
  DERIVED. THE GIVEN ROWS OF THIS SEAT. 6 by the template 'for every input the law returns true; each argument reads behind the call as it read before'; 0 by the template 'total and deterministic' (their statements: YtncepiaacadcpaaTotals.lean).
  GIVEN WITH THE SEED: the statements are not yours to turn. If you find one false, say at which input.
  Laid BY PROGRAM, IN A SANDBOX (cutbox-rows.mjs): the forced cells as the released guide's own fill.sh prints them over the translation 794439df05ad328a… (all of the seat's roots in one cut). By AI agents, Wed Nov 11 2026. No macro, syntax, notation, axiom, sorry.
-/
import Derived.Test.YtncepiaacadcpaaChecked
import GoSem.Claim
import GoSem.ClaimJoined
import GoSem.ClaimMapViews
import Derived.JoinedTies
import Derived.KernelRfl
namespace Go.Proofs.Ytncepiaacadcpaa
/- THE CELL 'sum', in the pinned program and in every row, IS THE sha256 OF THE DUMP (.gsa) THAT YtncepiaacadcpaaProg.lean LOADS. Nothing in Lean hashes anything: it is a label: what it is worth is what the hold of that sum in a sandbox is worth. -/
noncomputable def Try.pinned : Pinned := { name := "ytncepiaacadcpaa", sum := "794439df05ad328a0ed42c1cfabc288c5cdfa9d9043cf16a33cf2e16cb0f3f4e", checked := Try.checked }
namespace Rows
def none {H : Type} : Left H := { results := [], args := [] }

/-- 'shuntlaw09.LanesPlays': WHATEVER THE INPUT: true; the input reads as it did. -/
def lanesPlaysSpec : ChangeSpec := { name := "lanesPlays", fn := fun _ => fun
  | [d1, d2] => { results := [.lit (.bool true)], args := [d1, d2] }
  | _ => none }
def lanesPlaysRow : OpenClaim := { program := "ytncepiaacadcpaa", sum := "794439df05ad328a0ed42c1cfabc288c5cdfa9d9043cf16a33cf2e16cb0f3f4e", func := "shunt/shuntlaw09.LanesPlays", spec := "lanesPlays", unfollowed := true, recurses := true, apart := false }
def LanesPlaysSaid : Prop := lanesPlaysRow.holds Try.pinned (OpenSpec.ofChange lanesPlaysSpec)

/-- ITS FALSE NEIGHBOUR: 'it returns false'. Refute it at one input. -/
def lanesPlaysWrong : ChangeSpec := { name := "lanesPlays", fn := fun _ => fun
  | [d1, d2] => { results := [.lit (.bool false)], args := [d1, d2] }
  | _ => none }
def LanesPlaysWrongFalsely : Prop := lanesPlaysRow.holds Try.pinned (OpenSpec.ofChange lanesPlaysWrong)

/-- 'shuntlaw09.LanesNames': WHATEVER THE INPUT: true; the input reads as it did. -/
def lanesNamesSpec : ChangeSpec := { name := "lanesNames", fn := fun _ => fun
  | [] => { results := [.lit (.bool true)], args := [] }
  | _ => none }
def lanesNamesRow : OpenClaim := { program := "ytncepiaacadcpaa", sum := "794439df05ad328a0ed42c1cfabc288c5cdfa9d9043cf16a33cf2e16cb0f3f4e", func := "shunt/shuntlaw09.LanesNames", spec := "lanesNames", unfollowed := true, recurses := true, apart := false }
def LanesNamesSaid : Prop := lanesNamesRow.holds Try.pinned (OpenSpec.ofChange lanesNamesSpec)

/-- ITS FALSE NEIGHBOUR: 'it returns false'. Refute it at one input. -/
def lanesNamesWrong : ChangeSpec := { name := "lanesNames", fn := fun _ => fun
  | [] => { results := [.lit (.bool false)], args := [] }
  | _ => none }
def LanesNamesWrongFalsely : Prop := lanesNamesRow.holds Try.pinned (OpenSpec.ofChange lanesNamesWrong)

/-- 'shuntlaw09.LanesEnds': WHATEVER THE INPUT: true; the input reads as it did. -/
def lanesEndsSpec : ChangeSpec := { name := "lanesEnds", fn := fun _ => fun
  | [d1, d2] => { results := [.lit (.bool true)], args := [d1, d2] }
  | _ => none }
def lanesEndsRow : OpenClaim := { program := "ytncepiaacadcpaa", sum := "794439df05ad328a0ed42c1cfabc288c5cdfa9d9043cf16a33cf2e16cb0f3f4e", func := "shunt/shuntlaw09.LanesEnds", spec := "lanesEnds", unfollowed := true, recurses := true, apart := false }
def LanesEndsSaid : Prop := lanesEndsRow.holds Try.pinned (OpenSpec.ofChange lanesEndsSpec)

/-- ITS FALSE NEIGHBOUR: 'it returns false'. Refute it at one input. -/
def lanesEndsWrong : ChangeSpec := { name := "lanesEnds", fn := fun _ => fun
  | [d1, d2] => { results := [.lit (.bool false)], args := [d1, d2] }
  | _ => none }
def LanesEndsWrongFalsely : Prop := lanesEndsRow.holds Try.pinned (OpenSpec.ofChange lanesEndsWrong)

/-- 'shuntlaw09.LanesWide': WHATEVER THE INPUT: true; the input reads as it did. -/
def lanesWideSpec : ChangeSpec := { name := "lanesWide", fn := fun _ => fun
  | [d1, d2] => { results := [.lit (.bool true)], args := [d1, d2] }
  | _ => none }
def lanesWideRow : OpenClaim := { program := "ytncepiaacadcpaa", sum := "794439df05ad328a0ed42c1cfabc288c5cdfa9d9043cf16a33cf2e16cb0f3f4e", func := "shunt/shuntlaw09.LanesWide", spec := "lanesWide", unfollowed := true, recurses := true, apart := false }
def LanesWideSaid : Prop := lanesWideRow.holds Try.pinned (OpenSpec.ofChange lanesWideSpec)

/-- ITS FALSE NEIGHBOUR: 'it returns false'. Refute it at one input. -/
def lanesWideWrong : ChangeSpec := { name := "lanesWide", fn := fun _ => fun
  | [d1, d2] => { results := [.lit (.bool false)], args := [d1, d2] }
  | _ => none }
def LanesWideWrongFalsely : Prop := lanesWideRow.holds Try.pinned (OpenSpec.ofChange lanesWideWrong)

/-- 'shuntlaw09.LanesAnew': WHATEVER THE INPUT: true; the input reads as it did. -/
def lanesAnewSpec : ChangeSpec := { name := "lanesAnew", fn := fun _ => fun
  | [d1, d2, d3] => { results := [.lit (.bool true)], args := [d1, d2, d3] }
  | _ => none }
def lanesAnewRow : OpenClaim := { program := "ytncepiaacadcpaa", sum := "794439df05ad328a0ed42c1cfabc288c5cdfa9d9043cf16a33cf2e16cb0f3f4e", func := "shunt/shuntlaw09.LanesAnew", spec := "lanesAnew", unfollowed := true, recurses := true, apart := false }
def LanesAnewSaid : Prop := lanesAnewRow.holds Try.pinned (OpenSpec.ofChange lanesAnewSpec)

/-- ITS FALSE NEIGHBOUR: 'it returns false'. Refute it at one input. -/
def lanesAnewWrong : ChangeSpec := { name := "lanesAnew", fn := fun _ => fun
  | [d1, d2, d3] => { results := [.lit (.bool false)], args := [d1, d2, d3] }
  | _ => none }
def LanesAnewWrongFalsely : Prop := lanesAnewRow.holds Try.pinned (OpenSpec.ofChange lanesAnewWrong)

/-- 'shuntlaw09.LanesMost': WHATEVER THE INPUT: true; the input reads as it did. -/
def lanesMostSpec : ChangeSpec := { name := "lanesMost", fn := fun _ => fun
  | [d] => { results := [.lit (.bool true)], args := [d] }
  | _ => none }
def lanesMostRow : OpenClaim := { program := "ytncepiaacadcpaa", sum := "794439df05ad328a0ed42c1cfabc288c5cdfa9d9043cf16a33cf2e16cb0f3f4e", func := "shunt/shuntlaw09.LanesMost", spec := "lanesMost", unfollowed := true, recurses := true, apart := false }
def LanesMostSaid : Prop := lanesMostRow.holds Try.pinned (OpenSpec.ofChange lanesMostSpec)

/-- ITS FALSE NEIGHBOUR: 'it returns false'. Refute it at one input. -/
def lanesMostWrong : ChangeSpec := { name := "lanesMost", fn := fun _ => fun
  | [d] => { results := [.lit (.bool false)], args := [d] }
  | _ => none }
def LanesMostWrongFalsely : Prop := lanesMostRow.holds Try.pinned (OpenSpec.ofChange lanesMostWrong)

/- THE SECOND FORM. 'bulk': how many values and letters a reading holds, each counted each time it is reached (what is shared counts as often as it is met; a slice's spare places count too). A statement '..UptoSaid' is the law's where the arguments, and the package variables that the reading takes, are together of bulk at most 1048576: NARROWER than '..Said'. Prove '..Said' where nothing that the law and all that it calls make is longer than what came in: it says more and counts as full. Else prove '..UptoSaid'. A law counts once. -/
mutual
def uptoBulk {H : Type} : DataW H → Nat
  | .lit (.string bytes) => bytes.length + 1
  | .lit _ => 1
  | .nil => 1
  | .ptr d => uptoBulk d + 1
  | .slice elems spare => uptoBulkAll elems + uptoBulkAll spare + 1
  | .agg parts => uptoBulkAll parts + 1
  | .iface _ d => uptoBulk d + 1
  | .map entries => uptoBulkEntries entries + 1
  | .held _ => 1
def uptoBulkAll {H : Type} : List (DataW H) → Nat
  | [] => 0
  | d :: r => uptoBulk d + uptoBulkAll r
def uptoBulkEntries {H : Type} : List (Lit × DataW H) → Nat
  | [] => 0
  | x :: r => uptoBulkEntry x + uptoBulkEntries r
def uptoBulkEntry {H : Type} : Lit × DataW H → Nat
  | (.string bytes, d) => bytes.length + uptoBulk d + 1
  | (_, d) => uptoBulk d + 1
 end
def uptoSmall : (H : Type) → List (DataW H) → Bool := fun _ ds => decide (uptoBulkAll ds ≤ 1048576)
def OpenSpec.upto (s : _root_.Go.ChangeSpec) : _root_.Go.OpenSpec := { _root_.Go.OpenSpec.ofChange s with cond := some uptoSmall }

/-- 'shuntlaw09.LanesPlays', WHERE WHAT IT READS IS OF BULK AT MOST 1048576: true; the input reads as it did. -/
def lanesPlaysUptoRow : OpenClaim := { program := "ytncepiaacadcpaa", sum := "794439df05ad328a0ed42c1cfabc288c5cdfa9d9043cf16a33cf2e16cb0f3f4e", func := "shunt/shuntlaw09.LanesPlays", spec := "lanesPlays", unfollowed := true, recurses := true, apart := false, narrowed := true }
def LanesPlaysUptoSaid : Prop := lanesPlaysUptoRow.holds Try.pinned (OpenSpec.upto lanesPlaysSpec)

/-- 'shuntlaw09.LanesNames', WHERE WHAT IT READS IS OF BULK AT MOST 1048576: true; the input reads as it did. -/
def lanesNamesUptoRow : OpenClaim := { program := "ytncepiaacadcpaa", sum := "794439df05ad328a0ed42c1cfabc288c5cdfa9d9043cf16a33cf2e16cb0f3f4e", func := "shunt/shuntlaw09.LanesNames", spec := "lanesNames", unfollowed := true, recurses := true, apart := false, narrowed := true }
def LanesNamesUptoSaid : Prop := lanesNamesUptoRow.holds Try.pinned (OpenSpec.upto lanesNamesSpec)

/-- 'shuntlaw09.LanesEnds', WHERE WHAT IT READS IS OF BULK AT MOST 1048576: true; the input reads as it did. -/
def lanesEndsUptoRow : OpenClaim := { program := "ytncepiaacadcpaa", sum := "794439df05ad328a0ed42c1cfabc288c5cdfa9d9043cf16a33cf2e16cb0f3f4e", func := "shunt/shuntlaw09.LanesEnds", spec := "lanesEnds", unfollowed := true, recurses := true, apart := false, narrowed := true }
def LanesEndsUptoSaid : Prop := lanesEndsUptoRow.holds Try.pinned (OpenSpec.upto lanesEndsSpec)

/-- 'shuntlaw09.LanesWide', WHERE WHAT IT READS IS OF BULK AT MOST 1048576: true; the input reads as it did. -/
def lanesWideUptoRow : OpenClaim := { program := "ytncepiaacadcpaa", sum := "794439df05ad328a0ed42c1cfabc288c5cdfa9d9043cf16a33cf2e16cb0f3f4e", func := "shunt/shuntlaw09.LanesWide", spec := "lanesWide", unfollowed := true, recurses := true, apart := false, narrowed := true }
def LanesWideUptoSaid : Prop := lanesWideUptoRow.holds Try.pinned (OpenSpec.upto lanesWideSpec)

/-- 'shuntlaw09.LanesAnew', WHERE WHAT IT READS IS OF BULK AT MOST 1048576: true; the input reads as it did. -/
def lanesAnewUptoRow : OpenClaim := { program := "ytncepiaacadcpaa", sum := "794439df05ad328a0ed42c1cfabc288c5cdfa9d9043cf16a33cf2e16cb0f3f4e", func := "shunt/shuntlaw09.LanesAnew", spec := "lanesAnew", unfollowed := true, recurses := true, apart := false, narrowed := true }
def LanesAnewUptoSaid : Prop := lanesAnewUptoRow.holds Try.pinned (OpenSpec.upto lanesAnewSpec)

/-- 'shuntlaw09.LanesMost', WHERE WHAT IT READS IS OF BULK AT MOST 1048576: true; the input reads as it did. -/
def lanesMostUptoRow : OpenClaim := { program := "ytncepiaacadcpaa", sum := "794439df05ad328a0ed42c1cfabc288c5cdfa9d9043cf16a33cf2e16cb0f3f4e", func := "shunt/shuntlaw09.LanesMost", spec := "lanesMost", unfollowed := true, recurses := true, apart := false, narrowed := true }
def LanesMostUptoSaid : Prop := lanesMostUptoRow.holds Try.pinned (OpenSpec.upto lanesMostSpec)

end Rows
end Go.Proofs.Ytncepiaacadcpaa
