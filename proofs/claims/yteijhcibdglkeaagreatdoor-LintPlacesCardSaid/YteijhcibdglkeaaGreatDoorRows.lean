/-
  NARROWER THAN 'FOR EVERY INPUT', by the rows' own cells (each row's printed sentence says how): LintNames: laid · LintSound: laid · LintSame: laid · LintPart: laid · LintPlaces: laid.
  DERIVED. THE GIVEN ROWS OF THIS SEAT. 5 by the template 'for every input the law returns true; each argument reads behind the call as it read before'; 0 by the template 'total and deterministic' (their statements: YteijhcibdglkeaaGreatDoorTotals.lean).
  GIVEN WITH THE SEED: the statements are not yours to turn. If you find one false, say at which input.
  Laid BY PROGRAM, IN A SANDBOX (cutbox-rows.mjs): the forced cells as the released guide's own fill.sh prints them over the translation 5a705c83c4cb2ae5… (all of the seat's roots in one cut). By AI agents, Wed Nov 11 2026. No macro, syntax, notation, axiom, sorry.
-/
import Derived.Test.YteijhcibdglkeaaGreatDoorChecked
import GoSem.PinnedTables
import GoSem.Claim
import GoSem.ClaimJoined
import GoSem.ClaimMapViews
import Derived.JoinedTies
import Derived.KernelRfl
namespace Go.Proofs.YteijhcibdglkeaaGreatDoor
/- THE CELL 'sum', in the pinned program and in every row, IS THE sha256 OF THE DUMP (.gsa) THAT YteijhcibdglkeaaGreatDoorProg.lean LOADS. Nothing in Lean hashes anything: it is a label: what it is worth is what the hold of that sum in a sandbox is worth. -/
noncomputable def Tryz.pinned : Pinned := { name := "yteijhcibdglkeaagreatdoor", sum := "5a705c83c4cb2ae57b1bcf73f6c06a278072904c47418579ac49f1f4ea0a80d8", checked := Tryz.checked }
namespace Rows
def none {H : Type} : Left H := { results := [], args := [] }

/- WHAT THE LISTED PACKAGE-LEVEL VARIABLES READ AS WHEN THE CALL BEGINS. Each datum BY PROGRAM (the guide's laid-datum.mjs) off the statement by which the dump's own 'gosem.cut.vars' lays the variable. In a bare row this is a premise. The card (YteijhcibdglkeaaGreatDoorCards.lean) ties it to the program's text. -/
def laid_math_bits_deBruijn32tab {H : Type} : DataW H := .agg [.lit (.int .u8 0), .lit (.int .u8 1), .lit (.int .u8 28), .lit (.int .u8 2), .lit (.int .u8 29), .lit (.int .u8 14), .lit (.int .u8 24), .lit (.int .u8 3), .lit (.int .u8 30), .lit (.int .u8 22), .lit (.int .u8 20), .lit (.int .u8 15), .lit (.int .u8 25), .lit (.int .u8 17), .lit (.int .u8 4), .lit (.int .u8 8), .lit (.int .u8 31), .lit (.int .u8 27), .lit (.int .u8 13), .lit (.int .u8 23), .lit (.int .u8 21), .lit (.int .u8 19), .lit (.int .u8 16), .lit (.int .u8 7), .lit (.int .u8 26), .lit (.int .u8 12), .lit (.int .u8 18), .lit (.int .u8 6), .lit (.int .u8 11), .lit (.int .u8 5), .lit (.int .u8 10), .lit (.int .u8 9)]
def laid_math_bits_deBruijn64tab {H : Type} : DataW H := .agg [.lit (.int .u8 0), .lit (.int .u8 1), .lit (.int .u8 56), .lit (.int .u8 2), .lit (.int .u8 57), .lit (.int .u8 49), .lit (.int .u8 28), .lit (.int .u8 3), .lit (.int .u8 61), .lit (.int .u8 58), .lit (.int .u8 42), .lit (.int .u8 50), .lit (.int .u8 38), .lit (.int .u8 29), .lit (.int .u8 17), .lit (.int .u8 4), .lit (.int .u8 62), .lit (.int .u8 47), .lit (.int .u8 59), .lit (.int .u8 36), .lit (.int .u8 45), .lit (.int .u8 43), .lit (.int .u8 51), .lit (.int .u8 22), .lit (.int .u8 53), .lit (.int .u8 39), .lit (.int .u8 33), .lit (.int .u8 30), .lit (.int .u8 24), .lit (.int .u8 18), .lit (.int .u8 12), .lit (.int .u8 5), .lit (.int .u8 63), .lit (.int .u8 55), .lit (.int .u8 48), .lit (.int .u8 27), .lit (.int .u8 60), .lit (.int .u8 41), .lit (.int .u8 37), .lit (.int .u8 16), .lit (.int .u8 46), .lit (.int .u8 35), .lit (.int .u8 44), .lit (.int .u8 21), .lit (.int .u8 52), .lit (.int .u8 32), .lit (.int .u8 23), .lit (.int .u8 11), .lit (.int .u8 54), .lit (.int .u8 26), .lit (.int .u8 40), .lit (.int .u8 15), .lit (.int .u8 34), .lit (.int .u8 20), .lit (.int .u8 31), .lit (.int .u8 10), .lit (.int .u8 25), .lit (.int .u8 14), .lit (.int .u8 19), .lit (.int .u8 9), .lit (.int .u8 13), .lit (.int .u8 8), .lit (.int .u8 7), .lit (.int .u8 6)]
def laid_internal_strconv_uint64pow10 {H : Type} : DataW H := .agg [.lit (.int .u64 1), .lit (.int .u64 10), .lit (.int .u64 100), .lit (.int .u64 1000), .lit (.int .u64 10000), .lit (.int .u64 100000), .lit (.int .u64 1000000), .lit (.int .u64 10000000), .lit (.int .u64 100000000), .lit (.int .u64 1000000000), .lit (.int .u64 10000000000), .lit (.int .u64 100000000000), .lit (.int .u64 1000000000000), .lit (.int .u64 10000000000000), .lit (.int .u64 100000000000000), .lit (.int .u64 1000000000000000), .lit (.int .u64 10000000000000000), .lit (.int .u64 100000000000000000), .lit (.int .u64 1000000000000000000), .lit (.int .u64 10000000000000000000)]
def laid_unicode_utf8_acceptRanges {H : Type} : DataW H := .agg [.agg [.lit (.int .u8 128), .lit (.int .u8 191)], .agg [.lit (.int .u8 160), .lit (.int .u8 191)], .agg [.lit (.int .u8 128), .lit (.int .u8 159)], .agg [.lit (.int .u8 144), .lit (.int .u8 191)], .agg [.lit (.int .u8 128), .lit (.int .u8 143)], .agg [.lit (.int .u8 0), .lit (.int .u8 0)], .agg [.lit (.int .u8 0), .lit (.int .u8 0)], .agg [.lit (.int .u8 0), .lit (.int .u8 0)], .agg [.lit (.int .u8 0), .lit (.int .u8 0)], .agg [.lit (.int .u8 0), .lit (.int .u8 0)], .agg [.lit (.int .u8 0), .lit (.int .u8 0)], .agg [.lit (.int .u8 0), .lit (.int .u8 0)], .agg [.lit (.int .u8 0), .lit (.int .u8 0)], .agg [.lit (.int .u8 0), .lit (.int .u8 0)], .agg [.lit (.int .u8 0), .lit (.int .u8 0)], .agg [.lit (.int .u8 0), .lit (.int .u8 0)]]
def laid_strconv_ErrRange {H : Type} : DataW H := .iface "*errors.errorString" (.ptr (.agg [.lit (.string [118, 97, 108, 117, 101, 32, 111, 117, 116, 32, 111, 102, 32, 114, 97, 110, 103, 101])]))
def laid_strconv_ErrSyntax {H : Type} : DataW H := .iface "*errors.errorString" (.ptr (.agg [.lit (.string [105, 110, 118, 97, 108, 105, 100, 32, 115, 121, 110, 116, 97, 120])]))
def laid_shunt_isa_forms {H : Type} : DataW H := .agg [.agg [.lit (.string [114, 97, 119]), .lit (.int .i64 31)], .agg [.lit (.string [104, 97, 108, 116]), .lit (.int .i64 0)], .agg [.lit (.string [115, 101, 116]), .lit (.int .i64 18)], .agg [.lit (.string [109, 111, 118]), .lit (.int .i64 6)], .agg [.lit (.string [97, 100, 100]), .lit (.int .i64 14)], .agg [.lit (.string [115, 117, 98]), .lit (.int .i64 14)], .agg [.lit (.string [109, 117, 108]), .lit (.int .i64 14)], .agg [.lit (.string [97, 110, 100]), .lit (.int .i64 14)], .agg [.lit (.string [120, 111, 114]), .lit (.int .i64 14)], .agg [.lit (.string [115, 104, 108]), .lit (.int .i64 14)], .agg [.lit (.string [115, 104, 114]), .lit (.int .i64 14)], .agg [.lit (.string [108, 111, 97, 100]), .lit (.int .i64 22)], .agg [.lit (.string [115, 116, 111, 114, 101]), .lit (.int .i64 22)], .agg [.lit (.string [106, 117, 109, 112]), .lit (.int .i64 16)], .agg [.lit (.string [101, 113]), .lit (.int .i64 22)], .agg [.lit (.string [110, 101]), .lit (.int .i64 22)], .agg [.lit (.string [108, 116]), .lit (.int .i64 22)], .agg [.lit (.string [98, 101, 103, 105, 110]), .lit (.int .i64 0)], .agg [.lit (.string [101, 110, 100]), .lit (.int .i64 0)]]
def laid_shunt_lint_names {H : Type} : DataW H := .agg [.lit (.string [110, 111, 110, 101]), .lit (.string [105, 108, 108, 101, 103, 97, 108]), .lit (.string [101, 110, 100]), .lit (.string [98, 101, 103, 105, 110]), .lit (.string [104, 97, 108, 116]), .lit (.string [111, 117, 116]), .lit (.string [103, 111, 101, 115]), .lit (.string [117, 110, 115, 101, 116]), .lit (.string [110, 101, 118, 101, 114])]
/-- One of Go's own tables, pinned by name: the form's constant. -/
def laid_unicode_utf8_first : DataW Unit := Go.Pinned.utf8First

/-- 'shuntlaw17.LintNames': WHATEVER THE INPUT: true; the input reads as it did. -/
def lintNamesSpec : ChangeSpec := { name := "lintNames", fn := fun _ => fun
  | [] => { results := [.lit (.bool true)], args := [] }
  | _ => none }
def lintNamesRow : OpenClaim := { program := "yteijhcibdglkeaagreatdoor", sum := "5a705c83c4cb2ae57b1bcf73f6c06a278072904c47418579ac49f1f4ea0a80d8", func := "shunt/shuntlaw17.LintNames", spec := "lintNames", inPlace := ["internal/bytealg.IndexByteString", "internal/bytealg.IndexString"], unfollowed := true, recurses := true, named := ["shunt/isa.forms", "internal/strconv.uint64pow10", "math/bits.deBruijn32tab", "math/bits.deBruijn64tab", "internal/bytealg.MaxLen", "unicode/utf8.first", "unicode/utf8.acceptRanges", "strconv.ErrSyntax", "strconv.ErrRange", "shunt/lint.names"], plainKeys := false, apart := false, laid := [("math/bits.deBruijn32tab", laid_math_bits_deBruijn32tab), ("math/bits.deBruijn64tab", laid_math_bits_deBruijn64tab), ("internal/strconv.uint64pow10", laid_internal_strconv_uint64pow10), ("unicode/utf8.acceptRanges", laid_unicode_utf8_acceptRanges), ("strconv.ErrRange", laid_strconv_ErrRange), ("strconv.ErrSyntax", laid_strconv_ErrSyntax), ("shunt/isa.forms", laid_shunt_isa_forms), ("shunt/lint.names", laid_shunt_lint_names), ("unicode/utf8.first", laid_unicode_utf8_first)] }
def LintNamesSaid : Prop := lintNamesRow.holds Tryz.pinned (OpenSpec.ofChange lintNamesSpec)

/-- ITS FALSE NEIGHBOUR: 'it returns false'. Refute it at one input. -/
def lintNamesWrong : ChangeSpec := { name := "lintNames", fn := fun _ => fun
  | [] => { results := [.lit (.bool false)], args := [] }
  | _ => none }
def LintNamesWrongFalsely : Prop := lintNamesRow.holds Tryz.pinned (OpenSpec.ofChange lintNamesWrong)

/-- 'shuntlaw17.LintSound': WHATEVER THE INPUT: true; the input reads as it did. -/
def lintSoundSpec : ChangeSpec := { name := "lintSound", fn := fun _ => fun
  | [d1, d2, d3] => { results := [.lit (.bool true)], args := [d1, d2, d3] }
  | _ => none }
def lintSoundRow : OpenClaim := { program := "yteijhcibdglkeaagreatdoor", sum := "5a705c83c4cb2ae57b1bcf73f6c06a278072904c47418579ac49f1f4ea0a80d8", func := "shunt/shuntlaw17.LintSound", spec := "lintSound", inPlace := ["internal/bytealg.IndexByteString", "internal/bytealg.IndexString"], unfollowed := true, recurses := true, named := ["shunt/isa.forms", "internal/strconv.uint64pow10", "math/bits.deBruijn32tab", "math/bits.deBruijn64tab", "internal/bytealg.MaxLen", "unicode/utf8.first", "unicode/utf8.acceptRanges", "strconv.ErrSyntax", "strconv.ErrRange", "shunt/lint.names"], plainKeys := false, apart := false, laid := [("math/bits.deBruijn32tab", laid_math_bits_deBruijn32tab), ("math/bits.deBruijn64tab", laid_math_bits_deBruijn64tab), ("internal/strconv.uint64pow10", laid_internal_strconv_uint64pow10), ("unicode/utf8.acceptRanges", laid_unicode_utf8_acceptRanges), ("strconv.ErrRange", laid_strconv_ErrRange), ("strconv.ErrSyntax", laid_strconv_ErrSyntax), ("shunt/isa.forms", laid_shunt_isa_forms), ("shunt/lint.names", laid_shunt_lint_names), ("unicode/utf8.first", laid_unicode_utf8_first)] }
def LintSoundSaid : Prop := lintSoundRow.holds Tryz.pinned (OpenSpec.ofChange lintSoundSpec)

/-- ITS FALSE NEIGHBOUR: 'it returns false'. Refute it at one input. -/
def lintSoundWrong : ChangeSpec := { name := "lintSound", fn := fun _ => fun
  | [d1, d2, d3] => { results := [.lit (.bool false)], args := [d1, d2, d3] }
  | _ => none }
def LintSoundWrongFalsely : Prop := lintSoundRow.holds Tryz.pinned (OpenSpec.ofChange lintSoundWrong)

/-- 'shuntlaw17.LintSame': WHATEVER THE INPUT: true; the input reads as it did. -/
def lintSameSpec : ChangeSpec := { name := "lintSame", fn := fun _ => fun
  | [d1, d2, d3] => { results := [.lit (.bool true)], args := [d1, d2, d3] }
  | _ => none }
def lintSameRow : OpenClaim := { program := "yteijhcibdglkeaagreatdoor", sum := "5a705c83c4cb2ae57b1bcf73f6c06a278072904c47418579ac49f1f4ea0a80d8", func := "shunt/shuntlaw17.LintSame", spec := "lintSame", inPlace := ["internal/bytealg.IndexByteString", "internal/bytealg.IndexString"], unfollowed := true, recurses := true, named := ["shunt/isa.forms", "internal/strconv.uint64pow10", "math/bits.deBruijn32tab", "math/bits.deBruijn64tab", "internal/bytealg.MaxLen", "unicode/utf8.first", "unicode/utf8.acceptRanges", "strconv.ErrSyntax", "strconv.ErrRange", "shunt/lint.names"], plainKeys := false, apart := false, laid := [("math/bits.deBruijn32tab", laid_math_bits_deBruijn32tab), ("math/bits.deBruijn64tab", laid_math_bits_deBruijn64tab), ("internal/strconv.uint64pow10", laid_internal_strconv_uint64pow10), ("unicode/utf8.acceptRanges", laid_unicode_utf8_acceptRanges), ("strconv.ErrRange", laid_strconv_ErrRange), ("strconv.ErrSyntax", laid_strconv_ErrSyntax), ("shunt/isa.forms", laid_shunt_isa_forms), ("shunt/lint.names", laid_shunt_lint_names), ("unicode/utf8.first", laid_unicode_utf8_first)] }
def LintSameSaid : Prop := lintSameRow.holds Tryz.pinned (OpenSpec.ofChange lintSameSpec)

/-- ITS FALSE NEIGHBOUR: 'it returns false'. Refute it at one input. -/
def lintSameWrong : ChangeSpec := { name := "lintSame", fn := fun _ => fun
  | [d1, d2, d3] => { results := [.lit (.bool false)], args := [d1, d2, d3] }
  | _ => none }
def LintSameWrongFalsely : Prop := lintSameRow.holds Tryz.pinned (OpenSpec.ofChange lintSameWrong)

/-- 'shuntlaw17.LintPart': WHATEVER THE INPUT: true; the input reads as it did. -/
def lintPartSpec : ChangeSpec := { name := "lintPart", fn := fun _ => fun
  | [d1, d2] => { results := [.lit (.bool true)], args := [d1, d2] }
  | _ => none }
def lintPartRow : OpenClaim := { program := "yteijhcibdglkeaagreatdoor", sum := "5a705c83c4cb2ae57b1bcf73f6c06a278072904c47418579ac49f1f4ea0a80d8", func := "shunt/shuntlaw17.LintPart", spec := "lintPart", inPlace := ["internal/bytealg.IndexByteString", "internal/bytealg.IndexString"], unfollowed := true, recurses := true, named := ["shunt/isa.forms", "internal/strconv.uint64pow10", "math/bits.deBruijn32tab", "math/bits.deBruijn64tab", "internal/bytealg.MaxLen", "unicode/utf8.first", "unicode/utf8.acceptRanges", "strconv.ErrSyntax", "strconv.ErrRange", "shunt/lint.names"], plainKeys := false, apart := false, laid := [("math/bits.deBruijn32tab", laid_math_bits_deBruijn32tab), ("math/bits.deBruijn64tab", laid_math_bits_deBruijn64tab), ("internal/strconv.uint64pow10", laid_internal_strconv_uint64pow10), ("unicode/utf8.acceptRanges", laid_unicode_utf8_acceptRanges), ("strconv.ErrRange", laid_strconv_ErrRange), ("strconv.ErrSyntax", laid_strconv_ErrSyntax), ("shunt/isa.forms", laid_shunt_isa_forms), ("shunt/lint.names", laid_shunt_lint_names), ("unicode/utf8.first", laid_unicode_utf8_first)] }
def LintPartSaid : Prop := lintPartRow.holds Tryz.pinned (OpenSpec.ofChange lintPartSpec)

/-- ITS FALSE NEIGHBOUR: 'it returns false'. Refute it at one input. -/
def lintPartWrong : ChangeSpec := { name := "lintPart", fn := fun _ => fun
  | [d1, d2] => { results := [.lit (.bool false)], args := [d1, d2] }
  | _ => none }
def LintPartWrongFalsely : Prop := lintPartRow.holds Tryz.pinned (OpenSpec.ofChange lintPartWrong)

/-- 'shuntlaw17.LintPlaces': WHATEVER THE INPUT: true; the input reads as it did. -/
def lintPlacesSpec : ChangeSpec := { name := "lintPlaces", fn := fun _ => fun
  | [d] => { results := [.lit (.bool true)], args := [d] }
  | _ => none }
def lintPlacesRow : OpenClaim := { program := "yteijhcibdglkeaagreatdoor", sum := "5a705c83c4cb2ae57b1bcf73f6c06a278072904c47418579ac49f1f4ea0a80d8", func := "shunt/shuntlaw17.LintPlaces", spec := "lintPlaces", inPlace := ["internal/bytealg.IndexByteString", "internal/bytealg.IndexString"], unfollowed := true, recurses := true, named := ["shunt/isa.forms", "internal/strconv.uint64pow10", "math/bits.deBruijn32tab", "math/bits.deBruijn64tab", "internal/bytealg.MaxLen", "unicode/utf8.first", "unicode/utf8.acceptRanges", "strconv.ErrSyntax", "strconv.ErrRange", "shunt/lint.names"], plainKeys := false, apart := false, laid := [("math/bits.deBruijn32tab", laid_math_bits_deBruijn32tab), ("math/bits.deBruijn64tab", laid_math_bits_deBruijn64tab), ("internal/strconv.uint64pow10", laid_internal_strconv_uint64pow10), ("unicode/utf8.acceptRanges", laid_unicode_utf8_acceptRanges), ("strconv.ErrRange", laid_strconv_ErrRange), ("strconv.ErrSyntax", laid_strconv_ErrSyntax), ("shunt/isa.forms", laid_shunt_isa_forms), ("shunt/lint.names", laid_shunt_lint_names), ("unicode/utf8.first", laid_unicode_utf8_first)] }
def LintPlacesSaid : Prop := lintPlacesRow.holds Tryz.pinned (OpenSpec.ofChange lintPlacesSpec)

/-- ITS FALSE NEIGHBOUR: 'it returns false'. Refute it at one input. -/
def lintPlacesWrong : ChangeSpec := { name := "lintPlaces", fn := fun _ => fun
  | [d] => { results := [.lit (.bool false)], args := [d] }
  | _ => none }
def LintPlacesWrongFalsely : Prop := lintPlacesRow.holds Tryz.pinned (OpenSpec.ofChange lintPlacesWrong)

/- THE SECOND FORM. 'bulk': how many values and letters a reading holds, each counted each time it is reached (what is shared counts as often as it is met; a slice's spare places count too). A statement '..UptoSaid' is the law's where the arguments, and the package variables that the reading takes, are together of bulk at most 1048576: NARROWER than '..Said'. Prove '..Said' where nothing that the law and all that it calls make is longer than what came in: it says more and counts as full. Else prove '..UptoSaid'. A law counts once. -/
mutual
def uptoBulk {H : Type} : DataW H → Nat
  | .lit (.string bytes) => bytes.length + 1
  | .lit _ => 1
  | .nil => 1
  | .ptr d => uptoBulk d + 1
  | .slice elems spare => uptoBulkAll elems + uptoBulkAll spare + 1
  | .agg parts => uptoBulkAll parts + 1
  | .iface _ d => uptoBulk d + 1
  | .map entries => uptoBulkEntries entries + 1
  | .held _ => 1
def uptoBulkAll {H : Type} : List (DataW H) → Nat
  | [] => 0
  | d :: r => uptoBulk d + uptoBulkAll r
def uptoBulkEntries {H : Type} : List (Lit × DataW H) → Nat
  | [] => 0
  | x :: r => uptoBulkEntry x + uptoBulkEntries r
def uptoBulkEntry {H : Type} : Lit × DataW H → Nat
  | (.string bytes, d) => bytes.length + uptoBulk d + 1
  | (_, d) => uptoBulk d + 1
 end
def uptoSmall : (H : Type) → List (DataW H) → Bool := fun _ ds => decide (uptoBulkAll ds ≤ 1048576)
def OpenSpec.upto (s : _root_.Go.ChangeSpec) : _root_.Go.OpenSpec := { _root_.Go.OpenSpec.ofChange s with cond := some uptoSmall }

/-- 'shuntlaw17.LintNames', WHERE WHAT IT READS IS OF BULK AT MOST 1048576: true; the input reads as it did. -/
def lintNamesUptoRow : OpenClaim := { program := "yteijhcibdglkeaagreatdoor", sum := "5a705c83c4cb2ae57b1bcf73f6c06a278072904c47418579ac49f1f4ea0a80d8", func := "shunt/shuntlaw17.LintNames", spec := "lintNames", inPlace := ["internal/bytealg.IndexByteString", "internal/bytealg.IndexString"], unfollowed := true, recurses := true, named := ["shunt/isa.forms", "internal/strconv.uint64pow10", "math/bits.deBruijn32tab", "math/bits.deBruijn64tab", "internal/bytealg.MaxLen", "unicode/utf8.first", "unicode/utf8.acceptRanges", "strconv.ErrSyntax", "strconv.ErrRange", "shunt/lint.names"], plainKeys := false, apart := false, laid := [("math/bits.deBruijn32tab", laid_math_bits_deBruijn32tab), ("math/bits.deBruijn64tab", laid_math_bits_deBruijn64tab), ("internal/strconv.uint64pow10", laid_internal_strconv_uint64pow10), ("unicode/utf8.acceptRanges", laid_unicode_utf8_acceptRanges), ("strconv.ErrRange", laid_strconv_ErrRange), ("strconv.ErrSyntax", laid_strconv_ErrSyntax), ("shunt/isa.forms", laid_shunt_isa_forms), ("shunt/lint.names", laid_shunt_lint_names), ("unicode/utf8.first", laid_unicode_utf8_first)], narrowed := true }
def LintNamesUptoSaid : Prop := lintNamesUptoRow.holds Tryz.pinned (OpenSpec.upto lintNamesSpec)

/-- 'shuntlaw17.LintSound', WHERE WHAT IT READS IS OF BULK AT MOST 1048576: true; the input reads as it did. -/
def lintSoundUptoRow : OpenClaim := { program := "yteijhcibdglkeaagreatdoor", sum := "5a705c83c4cb2ae57b1bcf73f6c06a278072904c47418579ac49f1f4ea0a80d8", func := "shunt/shuntlaw17.LintSound", spec := "lintSound", inPlace := ["internal/bytealg.IndexByteString", "internal/bytealg.IndexString"], unfollowed := true, recurses := true, named := ["shunt/isa.forms", "internal/strconv.uint64pow10", "math/bits.deBruijn32tab", "math/bits.deBruijn64tab", "internal/bytealg.MaxLen", "unicode/utf8.first", "unicode/utf8.acceptRanges", "strconv.ErrSyntax", "strconv.ErrRange", "shunt/lint.names"], plainKeys := false, apart := false, laid := [("math/bits.deBruijn32tab", laid_math_bits_deBruijn32tab), ("math/bits.deBruijn64tab", laid_math_bits_deBruijn64tab), ("internal/strconv.uint64pow10", laid_internal_strconv_uint64pow10), ("unicode/utf8.acceptRanges", laid_unicode_utf8_acceptRanges), ("strconv.ErrRange", laid_strconv_ErrRange), ("strconv.ErrSyntax", laid_strconv_ErrSyntax), ("shunt/isa.forms", laid_shunt_isa_forms), ("shunt/lint.names", laid_shunt_lint_names), ("unicode/utf8.first", laid_unicode_utf8_first)], narrowed := true }
def LintSoundUptoSaid : Prop := lintSoundUptoRow.holds Tryz.pinned (OpenSpec.upto lintSoundSpec)

/-- 'shuntlaw17.LintSame', WHERE WHAT IT READS IS OF BULK AT MOST 1048576: true; the input reads as it did. -/
def lintSameUptoRow : OpenClaim := { program := "yteijhcibdglkeaagreatdoor", sum := "5a705c83c4cb2ae57b1bcf73f6c06a278072904c47418579ac49f1f4ea0a80d8", func := "shunt/shuntlaw17.LintSame", spec := "lintSame", inPlace := ["internal/bytealg.IndexByteString", "internal/bytealg.IndexString"], unfollowed := true, recurses := true, named := ["shunt/isa.forms", "internal/strconv.uint64pow10", "math/bits.deBruijn32tab", "math/bits.deBruijn64tab", "internal/bytealg.MaxLen", "unicode/utf8.first", "unicode/utf8.acceptRanges", "strconv.ErrSyntax", "strconv.ErrRange", "shunt/lint.names"], plainKeys := false, apart := false, laid := [("math/bits.deBruijn32tab", laid_math_bits_deBruijn32tab), ("math/bits.deBruijn64tab", laid_math_bits_deBruijn64tab), ("internal/strconv.uint64pow10", laid_internal_strconv_uint64pow10), ("unicode/utf8.acceptRanges", laid_unicode_utf8_acceptRanges), ("strconv.ErrRange", laid_strconv_ErrRange), ("strconv.ErrSyntax", laid_strconv_ErrSyntax), ("shunt/isa.forms", laid_shunt_isa_forms), ("shunt/lint.names", laid_shunt_lint_names), ("unicode/utf8.first", laid_unicode_utf8_first)], narrowed := true }
def LintSameUptoSaid : Prop := lintSameUptoRow.holds Tryz.pinned (OpenSpec.upto lintSameSpec)

/-- 'shuntlaw17.LintPart', WHERE WHAT IT READS IS OF BULK AT MOST 1048576: true; the input reads as it did. -/
def lintPartUptoRow : OpenClaim := { program := "yteijhcibdglkeaagreatdoor", sum := "5a705c83c4cb2ae57b1bcf73f6c06a278072904c47418579ac49f1f4ea0a80d8", func := "shunt/shuntlaw17.LintPart", spec := "lintPart", inPlace := ["internal/bytealg.IndexByteString", "internal/bytealg.IndexString"], unfollowed := true, recurses := true, named := ["shunt/isa.forms", "internal/strconv.uint64pow10", "math/bits.deBruijn32tab", "math/bits.deBruijn64tab", "internal/bytealg.MaxLen", "unicode/utf8.first", "unicode/utf8.acceptRanges", "strconv.ErrSyntax", "strconv.ErrRange", "shunt/lint.names"], plainKeys := false, apart := false, laid := [("math/bits.deBruijn32tab", laid_math_bits_deBruijn32tab), ("math/bits.deBruijn64tab", laid_math_bits_deBruijn64tab), ("internal/strconv.uint64pow10", laid_internal_strconv_uint64pow10), ("unicode/utf8.acceptRanges", laid_unicode_utf8_acceptRanges), ("strconv.ErrRange", laid_strconv_ErrRange), ("strconv.ErrSyntax", laid_strconv_ErrSyntax), ("shunt/isa.forms", laid_shunt_isa_forms), ("shunt/lint.names", laid_shunt_lint_names), ("unicode/utf8.first", laid_unicode_utf8_first)], narrowed := true }
def LintPartUptoSaid : Prop := lintPartUptoRow.holds Tryz.pinned (OpenSpec.upto lintPartSpec)

/-- 'shuntlaw17.LintPlaces', WHERE WHAT IT READS IS OF BULK AT MOST 1048576: true; the input reads as it did. -/
def lintPlacesUptoRow : OpenClaim := { program := "yteijhcibdglkeaagreatdoor", sum := "5a705c83c4cb2ae57b1bcf73f6c06a278072904c47418579ac49f1f4ea0a80d8", func := "shunt/shuntlaw17.LintPlaces", spec := "lintPlaces", inPlace := ["internal/bytealg.IndexByteString", "internal/bytealg.IndexString"], unfollowed := true, recurses := true, named := ["shunt/isa.forms", "internal/strconv.uint64pow10", "math/bits.deBruijn32tab", "math/bits.deBruijn64tab", "internal/bytealg.MaxLen", "unicode/utf8.first", "unicode/utf8.acceptRanges", "strconv.ErrSyntax", "strconv.ErrRange", "shunt/lint.names"], plainKeys := false, apart := false, laid := [("math/bits.deBruijn32tab", laid_math_bits_deBruijn32tab), ("math/bits.deBruijn64tab", laid_math_bits_deBruijn64tab), ("internal/strconv.uint64pow10", laid_internal_strconv_uint64pow10), ("unicode/utf8.acceptRanges", laid_unicode_utf8_acceptRanges), ("strconv.ErrRange", laid_strconv_ErrRange), ("strconv.ErrSyntax", laid_strconv_ErrSyntax), ("shunt/isa.forms", laid_shunt_isa_forms), ("shunt/lint.names", laid_shunt_lint_names), ("unicode/utf8.first", laid_unicode_utf8_first)], narrowed := true }
def LintPlacesUptoSaid : Prop := lintPlacesUptoRow.holds Tryz.pinned (OpenSpec.upto lintPlacesSpec)

end Rows
end Go.Proofs.YteijhcibdglkeaaGreatDoor
