/-
  No cell of these rows narrows 'for every input' (looked for: loops, veiled, ifaces, maps, wideKeys, modest, calm, conditions, laid).
  DERIVED. THE GIVEN ROWS OF THIS SEAT. 6 by the template 'for every input the law returns true; each argument reads behind the call as it read before'; 0 by the template 'total and deterministic' (their statements: YthjbcpgncnchoaaTotals.lean).
  GIVEN WITH THE SEED: the statements are not yours to turn. If you find one false, say at which input.
  Laid BY PROGRAM, IN A SANDBOX (cutbox-rows.mjs): the forced cells as the released guide's own fill.sh prints them over the translation 228dcf1fb26475f0… (all of the seat's roots in one cut). By AI agents, Wed Nov 11 2026. No macro, syntax, notation, axiom, sorry.
-/
import Derived.Test.YthjbcpgncnchoaaChecked
import GoSem.Claim
import GoSem.ClaimJoined
import GoSem.ClaimMapViews
import Derived.JoinedTies
import Derived.KernelRfl
namespace Go.Proofs.Ythjbcpgncnchoaa
/- THE CELL 'sum', in the pinned program and in every row, IS THE sha256 OF THE DUMP (.gsa) THAT YthjbcpgncnchoaaProg.lean LOADS. Nothing in Lean hashes anything: it is a label: what it is worth is what the hold of that sum in a sandbox is worth. -/
noncomputable def Try.pinned : Pinned := { name := "ythjbcpgncnchoaa", sum := "228dcf1fb26475f0ec8942ed18d9ebf3930f851cb4fb798646ec1f99781afd7b", checked := Try.checked }
namespace Rows
def none {H : Type} : Left H := { results := [], args := [] }

/-- 'shuntlaw13.LibsSizes': WHATEVER THE INPUT: true; the input reads as it did. -/
def libsSizesSpec : ChangeSpec := { name := "libsSizes", fn := fun _ => fun
  | [d1, d2] => { results := [.lit (.bool true)], args := [d1, d2] }
  | _ => none }
def libsSizesRow : OpenClaim := { program := "ythjbcpgncnchoaa", sum := "228dcf1fb26475f0ec8942ed18d9ebf3930f851cb4fb798646ec1f99781afd7b", func := "shunt/shuntlaw13.LibsSizes", spec := "libsSizes", unfollowed := true, recurses := true, apart := false }
def LibsSizesSaid : Prop := libsSizesRow.holds Try.pinned (OpenSpec.ofChange libsSizesSpec)

/-- ITS FALSE NEIGHBOUR: 'it returns false'. Refute it at one input. -/
def libsSizesWrong : ChangeSpec := { name := "libsSizes", fn := fun _ => fun
  | [d1, d2] => { results := [.lit (.bool false)], args := [d1, d2] }
  | _ => none }
def LibsSizesWrongFalsely : Prop := libsSizesRow.holds Try.pinned (OpenSpec.ofChange libsSizesWrong)

/-- 'shuntlaw13.LibsJoins': WHATEVER THE INPUT: true; the input reads as it did. -/
def libsJoinsSpec : ChangeSpec := { name := "libsJoins", fn := fun _ => fun
  | [d] => { results := [.lit (.bool true)], args := [d] }
  | _ => none }
def libsJoinsRow : OpenClaim := { program := "ythjbcpgncnchoaa", sum := "228dcf1fb26475f0ec8942ed18d9ebf3930f851cb4fb798646ec1f99781afd7b", func := "shunt/shuntlaw13.LibsJoins", spec := "libsJoins", apart := false }
def LibsJoinsSaid : Prop := libsJoinsRow.holds Try.pinned (OpenSpec.ofChange libsJoinsSpec)

/-- ITS FALSE NEIGHBOUR: 'it returns false'. Refute it at one input. -/
def libsJoinsWrong : ChangeSpec := { name := "libsJoins", fn := fun _ => fun
  | [d] => { results := [.lit (.bool false)], args := [d] }
  | _ => none }
def LibsJoinsWrongFalsely : Prop := libsJoinsRow.holds Try.pinned (OpenSpec.ofChange libsJoinsWrong)

/-- 'shuntlaw13.LibsNames': WHATEVER THE INPUT: true; the input reads as it did. -/
def libsNamesSpec : ChangeSpec := { name := "libsNames", fn := fun _ => fun
  | [] => { results := [.lit (.bool true)], args := [] }
  | _ => none }
def libsNamesRow : OpenClaim := { program := "ythjbcpgncnchoaa", sum := "228dcf1fb26475f0ec8942ed18d9ebf3930f851cb4fb798646ec1f99781afd7b", func := "shunt/shuntlaw13.LibsNames", spec := "libsNames", unfollowed := true, recurses := true, apart := false }
def LibsNamesSaid : Prop := libsNamesRow.holds Try.pinned (OpenSpec.ofChange libsNamesSpec)

/-- ITS FALSE NEIGHBOUR: 'it returns false'. Refute it at one input. -/
def libsNamesWrong : ChangeSpec := { name := "libsNames", fn := fun _ => fun
  | [] => { results := [.lit (.bool false)], args := [] }
  | _ => none }
def LibsNamesWrongFalsely : Prop := libsNamesRow.holds Try.pinned (OpenSpec.ofChange libsNamesWrong)

/-- 'shuntlaw13.LibsApart': WHATEVER THE INPUT: true; the input reads as it did. -/
def libsApartSpec : ChangeSpec := { name := "libsApart", fn := fun _ => fun
  | [d1, d2] => { results := [.lit (.bool true)], args := [d1, d2] }
  | _ => none }
def libsApartRow : OpenClaim := { program := "ythjbcpgncnchoaa", sum := "228dcf1fb26475f0ec8942ed18d9ebf3930f851cb4fb798646ec1f99781afd7b", func := "shunt/shuntlaw13.LibsApart", spec := "libsApart", unfollowed := true, recurses := true, apart := false }
def LibsApartSaid : Prop := libsApartRow.holds Try.pinned (OpenSpec.ofChange libsApartSpec)

/-- ITS FALSE NEIGHBOUR: 'it returns false'. Refute it at one input. -/
def libsApartWrong : ChangeSpec := { name := "libsApart", fn := fun _ => fun
  | [d1, d2] => { results := [.lit (.bool false)], args := [d1, d2] }
  | _ => none }
def LibsApartWrongFalsely : Prop := libsApartRow.holds Try.pinned (OpenSpec.ofChange libsApartWrong)

/-- 'shuntlaw13.LibsJoined': WHATEVER THE INPUT: true; the input reads as it did. -/
def libsJoinedSpec : ChangeSpec := { name := "libsJoined", fn := fun _ => fun
  | [d1, d2] => { results := [.lit (.bool true)], args := [d1, d2] }
  | _ => none }
def libsJoinedRow : OpenClaim := { program := "ythjbcpgncnchoaa", sum := "228dcf1fb26475f0ec8942ed18d9ebf3930f851cb4fb798646ec1f99781afd7b", func := "shunt/shuntlaw13.LibsJoined", spec := "libsJoined", unfollowed := true, recurses := true, apart := false }
def LibsJoinedSaid : Prop := libsJoinedRow.holds Try.pinned (OpenSpec.ofChange libsJoinedSpec)

/-- ITS FALSE NEIGHBOUR: 'it returns false'. Refute it at one input. -/
def libsJoinedWrong : ChangeSpec := { name := "libsJoined", fn := fun _ => fun
  | [d1, d2] => { results := [.lit (.bool false)], args := [d1, d2] }
  | _ => none }
def LibsJoinedWrongFalsely : Prop := libsJoinedRow.holds Try.pinned (OpenSpec.ofChange libsJoinedWrong)

/-- 'shuntlaw13.LibsSame': WHATEVER THE INPUT: true; the input reads as it did. -/
def libsSameSpec : ChangeSpec := { name := "libsSame", fn := fun _ => fun
  | [d1, d2] => { results := [.lit (.bool true)], args := [d1, d2] }
  | _ => none }
def libsSameRow : OpenClaim := { program := "ythjbcpgncnchoaa", sum := "228dcf1fb26475f0ec8942ed18d9ebf3930f851cb4fb798646ec1f99781afd7b", func := "shunt/shuntlaw13.LibsSame", spec := "libsSame", unfollowed := true, recurses := true, apart := false }
def LibsSameSaid : Prop := libsSameRow.holds Try.pinned (OpenSpec.ofChange libsSameSpec)

/-- ITS FALSE NEIGHBOUR: 'it returns false'. Refute it at one input. -/
def libsSameWrong : ChangeSpec := { name := "libsSame", fn := fun _ => fun
  | [d1, d2] => { results := [.lit (.bool false)], args := [d1, d2] }
  | _ => none }
def LibsSameWrongFalsely : Prop := libsSameRow.holds Try.pinned (OpenSpec.ofChange libsSameWrong)

/- THE SECOND FORM. 'bulk': how many values and letters a reading holds, each counted each time it is reached (what is shared counts as often as it is met; a slice's spare places count too). A statement '..UptoSaid' is the law's where the arguments, and the package variables that the reading takes, are together of bulk at most 1048576: NARROWER than '..Said'. Prove '..Said' where nothing that the law and all that it calls make is longer than what came in: it says more and counts as full. Else prove '..UptoSaid'. A law counts once. -/
mutual
def uptoBulk {H : Type} : DataW H → Nat
  | .lit (.string bytes) => bytes.length + 1
  | .lit _ => 1
  | .nil => 1
  | .ptr d => uptoBulk d + 1
  | .slice elems spare => uptoBulkAll elems + uptoBulkAll spare + 1
  | .agg parts => uptoBulkAll parts + 1
  | .iface _ d => uptoBulk d + 1
  | .map entries => uptoBulkEntries entries + 1
  | .held _ => 1
def uptoBulkAll {H : Type} : List (DataW H) → Nat
  | [] => 0
  | d :: r => uptoBulk d + uptoBulkAll r
def uptoBulkEntries {H : Type} : List (Lit × DataW H) → Nat
  | [] => 0
  | x :: r => uptoBulkEntry x + uptoBulkEntries r
def uptoBulkEntry {H : Type} : Lit × DataW H → Nat
  | (.string bytes, d) => bytes.length + uptoBulk d + 1
  | (_, d) => uptoBulk d + 1
 end
def uptoSmall : (H : Type) → List (DataW H) → Bool := fun _ ds => decide (uptoBulkAll ds ≤ 1048576)
def OpenSpec.upto (s : _root_.Go.ChangeSpec) : _root_.Go.OpenSpec := { _root_.Go.OpenSpec.ofChange s with cond := some uptoSmall }

/-- 'shuntlaw13.LibsSizes', WHERE WHAT IT READS IS OF BULK AT MOST 1048576: true; the input reads as it did. -/
def libsSizesUptoRow : OpenClaim := { program := "ythjbcpgncnchoaa", sum := "228dcf1fb26475f0ec8942ed18d9ebf3930f851cb4fb798646ec1f99781afd7b", func := "shunt/shuntlaw13.LibsSizes", spec := "libsSizes", unfollowed := true, recurses := true, apart := false, narrowed := true }
def LibsSizesUptoSaid : Prop := libsSizesUptoRow.holds Try.pinned (OpenSpec.upto libsSizesSpec)

/-- 'shuntlaw13.LibsJoins', WHERE WHAT IT READS IS OF BULK AT MOST 1048576: true; the input reads as it did. -/
def libsJoinsUptoRow : OpenClaim := { program := "ythjbcpgncnchoaa", sum := "228dcf1fb26475f0ec8942ed18d9ebf3930f851cb4fb798646ec1f99781afd7b", func := "shunt/shuntlaw13.LibsJoins", spec := "libsJoins", apart := false, narrowed := true }
def LibsJoinsUptoSaid : Prop := libsJoinsUptoRow.holds Try.pinned (OpenSpec.upto libsJoinsSpec)

/-- 'shuntlaw13.LibsNames', WHERE WHAT IT READS IS OF BULK AT MOST 1048576: true; the input reads as it did. -/
def libsNamesUptoRow : OpenClaim := { program := "ythjbcpgncnchoaa", sum := "228dcf1fb26475f0ec8942ed18d9ebf3930f851cb4fb798646ec1f99781afd7b", func := "shunt/shuntlaw13.LibsNames", spec := "libsNames", unfollowed := true, recurses := true, apart := false, narrowed := true }
def LibsNamesUptoSaid : Prop := libsNamesUptoRow.holds Try.pinned (OpenSpec.upto libsNamesSpec)

/-- 'shuntlaw13.LibsApart', WHERE WHAT IT READS IS OF BULK AT MOST 1048576: true; the input reads as it did. -/
def libsApartUptoRow : OpenClaim := { program := "ythjbcpgncnchoaa", sum := "228dcf1fb26475f0ec8942ed18d9ebf3930f851cb4fb798646ec1f99781afd7b", func := "shunt/shuntlaw13.LibsApart", spec := "libsApart", unfollowed := true, recurses := true, apart := false, narrowed := true }
def LibsApartUptoSaid : Prop := libsApartUptoRow.holds Try.pinned (OpenSpec.upto libsApartSpec)

/-- 'shuntlaw13.LibsJoined', WHERE WHAT IT READS IS OF BULK AT MOST 1048576: true; the input reads as it did. -/
def libsJoinedUptoRow : OpenClaim := { program := "ythjbcpgncnchoaa", sum := "228dcf1fb26475f0ec8942ed18d9ebf3930f851cb4fb798646ec1f99781afd7b", func := "shunt/shuntlaw13.LibsJoined", spec := "libsJoined", unfollowed := true, recurses := true, apart := false, narrowed := true }
def LibsJoinedUptoSaid : Prop := libsJoinedUptoRow.holds Try.pinned (OpenSpec.upto libsJoinedSpec)

/-- 'shuntlaw13.LibsSame', WHERE WHAT IT READS IS OF BULK AT MOST 1048576: true; the input reads as it did. -/
def libsSameUptoRow : OpenClaim := { program := "ythjbcpgncnchoaa", sum := "228dcf1fb26475f0ec8942ed18d9ebf3930f851cb4fb798646ec1f99781afd7b", func := "shunt/shuntlaw13.LibsSame", spec := "libsSame", unfollowed := true, recurses := true, apart := false, narrowed := true }
def LibsSameUptoSaid : Prop := libsSameUptoRow.holds Try.pinned (OpenSpec.upto libsSameSpec)

end Rows
end Go.Proofs.Ythjbcpgncnchoaa
