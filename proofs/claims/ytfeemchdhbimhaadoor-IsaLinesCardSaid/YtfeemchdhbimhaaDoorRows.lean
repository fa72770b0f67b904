/-
  NARROWER THAN 'FOR EVERY INPUT', by the rows' own cells (each row's printed sentence says how): IsaDoes: laid · IsaLines: laid · IsaNames: laid · IsaBack: laid · IsaSaid: laid · IsaApart: laid · IsaReckons: laid.
  DERIVED. THE GIVEN ROWS OF THIS SEAT. 7 by the template 'for every input the law returns true; each argument reads behind the call as it read before'; 0 by the template 'total and deterministic' (their statements: YtfeemchdhbimhaaDoorTotals.lean).
  GIVEN WITH THE SEED: the statements are not yours to turn. If you find one false, say at which input.
  Laid BY PROGRAM, IN A SANDBOX (cutbox-rows.mjs): the forced cells as the released guide's own fill.sh prints them over the translation df6519994433b1b7… (all of the seat's roots in one cut). By AI agents, Wed Nov 11 2026. No macro, syntax, notation, axiom, sorry.
-/
import Derived.Test.YtfeemchdhbimhaaDoorChecked
import GoSem.Claim
import GoSem.ClaimJoined
import GoSem.ClaimMapViews
import Derived.JoinedTies
import Derived.KernelRfl
namespace Go.Proofs.YtfeemchdhbimhaaDoor
/- THE CELL 'sum', in the pinned program and in every row, IS THE sha256 OF THE DUMP (.gsa) THAT YtfeemchdhbimhaaDoorProg.lean LOADS. Nothing in Lean hashes anything: it is a label: what it is worth is what the hold of that sum in a sandbox is worth. -/
noncomputable def Tryd.pinned : Pinned := { name := "ytfeemchdhbimhaadoor", sum := "df6519994433b1b743e1e7a9e609c3a163ce674db62f3990596627ae71952150", checked := Tryd.checked }
namespace Rows
def none {H : Type} : Left H := { results := [], args := [] }

/- WHAT THE LISTED PACKAGE-LEVEL VARIABLES READ AS WHEN THE CALL BEGINS. Each datum BY PROGRAM (the guide's laid-datum.mjs) off the statement by which the dump's own 'gosem.cut.vars' lays the variable. In a bare row this is a premise. The card (YtfeemchdhbimhaaDoorCards.lean) ties it to the program's text. -/
def laid_shunt_isa_forms {H : Type} : DataW H := .agg [.agg [.lit (.string [114, 97, 119]), .lit (.int .i64 31)], .agg [.lit (.string [104, 97, 108, 116]), .lit (.int .i64 0)], .agg [.lit (.string [115, 101, 116]), .lit (.int .i64 18)], .agg [.lit (.string [109, 111, 118]), .lit (.int .i64 6)], .agg [.lit (.string [97, 100, 100]), .lit (.int .i64 14)], .agg [.lit (.string [115, 117, 98]), .lit (.int .i64 14)], .agg [.lit (.string [109, 117, 108]), .lit (.int .i64 14)], .agg [.lit (.string [97, 110, 100]), .lit (.int .i64 14)], .agg [.lit (.string [120, 111, 114]), .lit (.int .i64 14)], .agg [.lit (.string [115, 104, 108]), .lit (.int .i64 14)], .agg [.lit (.string [115, 104, 114]), .lit (.int .i64 14)], .agg [.lit (.string [108, 111, 97, 100]), .lit (.int .i64 22)], .agg [.lit (.string [115, 116, 111, 114, 101]), .lit (.int .i64 22)], .agg [.lit (.string [106, 117, 109, 112]), .lit (.int .i64 16)], .agg [.lit (.string [101, 113]), .lit (.int .i64 22)], .agg [.lit (.string [110, 101]), .lit (.int .i64 22)], .agg [.lit (.string [108, 116]), .lit (.int .i64 22)], .agg [.lit (.string [98, 101, 103, 105, 110]), .lit (.int .i64 0)], .agg [.lit (.string [101, 110, 100]), .lit (.int .i64 0)]]
def laid_math_bits_deBruijn32tab {H : Type} : DataW H := .agg [.lit (.int .u8 0), .lit (.int .u8 1), .lit (.int .u8 28), .lit (.int .u8 2), .lit (.int .u8 29), .lit (.int .u8 14), .lit (.int .u8 24), .lit (.int .u8 3), .lit (.int .u8 30), .lit (.int .u8 22), .lit (.int .u8 20), .lit (.int .u8 15), .lit (.int .u8 25), .lit (.int .u8 17), .lit (.int .u8 4), .lit (.int .u8 8), .lit (.int .u8 31), .lit (.int .u8 27), .lit (.int .u8 13), .lit (.int .u8 23), .lit (.int .u8 21), .lit (.int .u8 19), .lit (.int .u8 16), .lit (.int .u8 7), .lit (.int .u8 26), .lit (.int .u8 12), .lit (.int .u8 18), .lit (.int .u8 6), .lit (.int .u8 11), .lit (.int .u8 5), .lit (.int .u8 10), .lit (.int .u8 9)]
def laid_math_bits_deBruijn64tab {H : Type} : DataW H := .agg [.lit (.int .u8 0), .lit (.int .u8 1), .lit (.int .u8 56), .lit (.int .u8 2), .lit (.int .u8 57), .lit (.int .u8 49), .lit (.int .u8 28), .lit (.int .u8 3), .lit (.int .u8 61), .lit (.int .u8 58), .lit (.int .u8 42), .lit (.int .u8 50), .lit (.int .u8 38), .lit (.int .u8 29), .lit (.int .u8 17), .lit (.int .u8 4), .lit (.int .u8 62), .lit (.int .u8 47), .lit (.int .u8 59), .lit (.int .u8 36), .lit (.int .u8 45), .lit (.int .u8 43), .lit (.int .u8 51), .lit (.int .u8 22), .lit (.int .u8 53), .lit (.int .u8 39), .lit (.int .u8 33), .lit (.int .u8 30), .lit (.int .u8 24), .lit (.int .u8 18), .lit (.int .u8 12), .lit (.int .u8 5), .lit (.int .u8 63), .lit (.int .u8 55), .lit (.int .u8 48), .lit (.int .u8 27), .lit (.int .u8 60), .lit (.int .u8 41), .lit (.int .u8 37), .lit (.int .u8 16), .lit (.int .u8 46), .lit (.int .u8 35), .lit (.int .u8 44), .lit (.int .u8 21), .lit (.int .u8 52), .lit (.int .u8 32), .lit (.int .u8 23), .lit (.int .u8 11), .lit (.int .u8 54), .lit (.int .u8 26), .lit (.int .u8 40), .lit (.int .u8 15), .lit (.int .u8 34), .lit (.int .u8 20), .lit (.int .u8 31), .lit (.int .u8 10), .lit (.int .u8 25), .lit (.int .u8 14), .lit (.int .u8 19), .lit (.int .u8 9), .lit (.int .u8 13), .lit (.int .u8 8), .lit (.int .u8 7), .lit (.int .u8 6)]
def laid_internal_strconv_uint64pow10 {H : Type} : DataW H := .agg [.lit (.int .u64 1), .lit (.int .u64 10), .lit (.int .u64 100), .lit (.int .u64 1000), .lit (.int .u64 10000), .lit (.int .u64 100000), .lit (.int .u64 1000000), .lit (.int .u64 10000000), .lit (.int .u64 100000000), .lit (.int .u64 1000000000), .lit (.int .u64 10000000000), .lit (.int .u64 100000000000), .lit (.int .u64 1000000000000), .lit (.int .u64 10000000000000), .lit (.int .u64 100000000000000), .lit (.int .u64 1000000000000000), .lit (.int .u64 10000000000000000), .lit (.int .u64 100000000000000000), .lit (.int .u64 1000000000000000000), .lit (.int .u64 10000000000000000000)]
def laid_strconv_ErrRange {H : Type} : DataW H := .iface "*errors.errorString" (.ptr (.agg [.lit (.string [118, 97, 108, 117, 101, 32, 111, 117, 116, 32, 111, 102, 32, 114, 97, 110, 103, 101])]))
def laid_strconv_ErrSyntax {H : Type} : DataW H := .iface "*errors.errorString" (.ptr (.agg [.lit (.string [105, 110, 118, 97, 108, 105, 100, 32, 115, 121, 110, 116, 97, 120])]))

/-- 'shuntlaw10.IsaDoes': WHATEVER THE INPUT: true; the input reads as it did. -/
def isaDoesSpec : ChangeSpec := { name := "isaDoes", fn := fun _ => fun
  | [d1, d2, d3] => { results := [.lit (.bool true)], args := [d1, d2, d3] }
  | _ => none }
def isaDoesRow : OpenClaim := { program := "ytfeemchdhbimhaadoor", sum := "df6519994433b1b743e1e7a9e609c3a163ce674db62f3990596627ae71952150", func := "shunt/shuntlaw10.IsaDoes", spec := "isaDoes", unfollowed := true, recurses := true, named := ["shunt/isa.forms"], apart := false, laid := [("shunt/isa.forms", laid_shunt_isa_forms)] }
def IsaDoesSaid : Prop := isaDoesRow.holds Tryd.pinned (OpenSpec.ofChange isaDoesSpec)

/-- ITS FALSE NEIGHBOUR: 'it returns false'. Refute it at one input. -/
def isaDoesWrong : ChangeSpec := { name := "isaDoes", fn := fun _ => fun
  | [d1, d2, d3] => { results := [.lit (.bool false)], args := [d1, d2, d3] }
  | _ => none }
def IsaDoesWrongFalsely : Prop := isaDoesRow.holds Tryd.pinned (OpenSpec.ofChange isaDoesWrong)

/-- 'shuntlaw10.IsaLines': WHATEVER THE INPUT: true; the input reads as it did. -/
def isaLinesSpec : ChangeSpec := { name := "isaLines", fn := fun _ => fun
  | [d1, d2] => { results := [.lit (.bool true)], args := [d1, d2] }
  | _ => none }
def isaLinesRow : OpenClaim := { program := "ytfeemchdhbimhaadoor", sum := "df6519994433b1b743e1e7a9e609c3a163ce674db62f3990596627ae71952150", func := "shunt/shuntlaw10.IsaLines", spec := "isaLines", inPlace := ["internal/bytealg.IndexByteString"], unfollowed := true, recurses := true, named := ["shunt/isa.forms", "strconv.ErrSyntax", "strconv.ErrRange", "internal/strconv.uint64pow10", "math/bits.deBruijn32tab", "math/bits.deBruijn64tab"], apart := false, laid := [("math/bits.deBruijn32tab", laid_math_bits_deBruijn32tab), ("math/bits.deBruijn64tab", laid_math_bits_deBruijn64tab), ("internal/strconv.uint64pow10", laid_internal_strconv_uint64pow10), ("strconv.ErrRange", laid_strconv_ErrRange), ("strconv.ErrSyntax", laid_strconv_ErrSyntax), ("shunt/isa.forms", laid_shunt_isa_forms)] }
def IsaLinesSaid : Prop := isaLinesRow.holds Tryd.pinned (OpenSpec.ofChange isaLinesSpec)

/-- ITS FALSE NEIGHBOUR: 'it returns false'. Refute it at one input. -/
def isaLinesWrong : ChangeSpec := { name := "isaLines", fn := fun _ => fun
  | [d1, d2] => { results := [.lit (.bool false)], args := [d1, d2] }
  | _ => none }
def IsaLinesWrongFalsely : Prop := isaLinesRow.holds Tryd.pinned (OpenSpec.ofChange isaLinesWrong)

/-- 'shuntlaw10.IsaNames': WHATEVER THE INPUT: true; the input reads as it did. -/
def isaNamesSpec : ChangeSpec := { name := "isaNames", fn := fun _ => fun
  | [] => { results := [.lit (.bool true)], args := [] }
  | _ => none }
def isaNamesRow : OpenClaim := { program := "ytfeemchdhbimhaadoor", sum := "df6519994433b1b743e1e7a9e609c3a163ce674db62f3990596627ae71952150", func := "shunt/shuntlaw10.IsaNames", spec := "isaNames", inPlace := ["internal/bytealg.IndexByteString"], unfollowed := true, recurses := true, named := ["shunt/isa.forms", "internal/strconv.uint64pow10", "math/bits.deBruijn32tab", "math/bits.deBruijn64tab", "strconv.ErrSyntax", "strconv.ErrRange"], apart := false, laid := [("math/bits.deBruijn32tab", laid_math_bits_deBruijn32tab), ("math/bits.deBruijn64tab", laid_math_bits_deBruijn64tab), ("internal/strconv.uint64pow10", laid_internal_strconv_uint64pow10), ("strconv.ErrRange", laid_strconv_ErrRange), ("strconv.ErrSyntax", laid_strconv_ErrSyntax), ("shunt/isa.forms", laid_shunt_isa_forms)] }
def IsaNamesSaid : Prop := isaNamesRow.holds Tryd.pinned (OpenSpec.ofChange isaNamesSpec)

/-- ITS FALSE NEIGHBOUR: 'it returns false'. Refute it at one input. -/
def isaNamesWrong : ChangeSpec := { name := "isaNames", fn := fun _ => fun
  | [] => { results := [.lit (.bool false)], args := [] }
  | _ => none }
def IsaNamesWrongFalsely : Prop := isaNamesRow.holds Tryd.pinned (OpenSpec.ofChange isaNamesWrong)

/-- 'shuntlaw10.IsaBack': WHATEVER THE INPUT: true; the input reads as it did. -/
def isaBackSpec : ChangeSpec := { name := "isaBack", fn := fun _ => fun
  | [d1, d2] => { results := [.lit (.bool true)], args := [d1, d2] }
  | _ => none }
def isaBackRow : OpenClaim := { program := "ytfeemchdhbimhaadoor", sum := "df6519994433b1b743e1e7a9e609c3a163ce674db62f3990596627ae71952150", func := "shunt/shuntlaw10.IsaBack", spec := "isaBack", inPlace := ["internal/bytealg.IndexByteString"], unfollowed := true, recurses := true, named := ["shunt/isa.forms", "strconv.ErrSyntax", "strconv.ErrRange", "internal/strconv.uint64pow10", "math/bits.deBruijn32tab", "math/bits.deBruijn64tab"], apart := false, laid := [("math/bits.deBruijn32tab", laid_math_bits_deBruijn32tab), ("math/bits.deBruijn64tab", laid_math_bits_deBruijn64tab), ("internal/strconv.uint64pow10", laid_internal_strconv_uint64pow10), ("strconv.ErrRange", laid_strconv_ErrRange), ("strconv.ErrSyntax", laid_strconv_ErrSyntax), ("shunt/isa.forms", laid_shunt_isa_forms)] }
def IsaBackSaid : Prop := isaBackRow.holds Tryd.pinned (OpenSpec.ofChange isaBackSpec)

/-- ITS FALSE NEIGHBOUR: 'it returns false'. Refute it at one input. -/
def isaBackWrong : ChangeSpec := { name := "isaBack", fn := fun _ => fun
  | [d1, d2] => { results := [.lit (.bool false)], args := [d1, d2] }
  | _ => none }
def IsaBackWrongFalsely : Prop := isaBackRow.holds Tryd.pinned (OpenSpec.ofChange isaBackWrong)

/-- 'shuntlaw10.IsaSaid': WHATEVER THE INPUT: true; the input reads as it did. -/
def isaSaidSpec : ChangeSpec := { name := "isaSaid", fn := fun _ => fun
  | [d1, d2] => { results := [.lit (.bool true)], args := [d1, d2] }
  | _ => none }
def isaSaidRow : OpenClaim := { program := "ytfeemchdhbimhaadoor", sum := "df6519994433b1b743e1e7a9e609c3a163ce674db62f3990596627ae71952150", func := "shunt/shuntlaw10.IsaSaid", spec := "isaSaid", inPlace := ["internal/bytealg.IndexByteString"], unfollowed := true, recurses := true, named := ["shunt/isa.forms", "strconv.ErrSyntax", "strconv.ErrRange", "internal/strconv.uint64pow10", "math/bits.deBruijn32tab", "math/bits.deBruijn64tab"], apart := false, laid := [("math/bits.deBruijn32tab", laid_math_bits_deBruijn32tab), ("math/bits.deBruijn64tab", laid_math_bits_deBruijn64tab), ("internal/strconv.uint64pow10", laid_internal_strconv_uint64pow10), ("strconv.ErrRange", laid_strconv_ErrRange), ("strconv.ErrSyntax", laid_strconv_ErrSyntax), ("shunt/isa.forms", laid_shunt_isa_forms)] }
def IsaSaidSaid : Prop := isaSaidRow.holds Tryd.pinned (OpenSpec.ofChange isaSaidSpec)

/-- ITS FALSE NEIGHBOUR: 'it returns false'. Refute it at one input. -/
def isaSaidWrong : ChangeSpec := { name := "isaSaid", fn := fun _ => fun
  | [d1, d2] => { results := [.lit (.bool false)], args := [d1, d2] }
  | _ => none }
def IsaSaidWrongFalsely : Prop := isaSaidRow.holds Tryd.pinned (OpenSpec.ofChange isaSaidWrong)

/-- 'shuntlaw10.IsaApart': WHATEVER THE INPUT: true; the input reads as it did. -/
def isaApartSpec : ChangeSpec := { name := "isaApart", fn := fun _ => fun
  | [d1, d2, d3] => { results := [.lit (.bool true)], args := [d1, d2, d3] }
  | _ => none }
def isaApartRow : OpenClaim := { program := "ytfeemchdhbimhaadoor", sum := "df6519994433b1b743e1e7a9e609c3a163ce674db62f3990596627ae71952150", func := "shunt/shuntlaw10.IsaApart", spec := "isaApart", inPlace := ["internal/bytealg.IndexByteString"], unfollowed := true, recurses := true, named := ["shunt/isa.forms", "strconv.ErrSyntax", "strconv.ErrRange", "internal/strconv.uint64pow10", "math/bits.deBruijn32tab", "math/bits.deBruijn64tab"], apart := false, laid := [("math/bits.deBruijn32tab", laid_math_bits_deBruijn32tab), ("math/bits.deBruijn64tab", laid_math_bits_deBruijn64tab), ("internal/strconv.uint64pow10", laid_internal_strconv_uint64pow10), ("strconv.ErrRange", laid_strconv_ErrRange), ("strconv.ErrSyntax", laid_strconv_ErrSyntax), ("shunt/isa.forms", laid_shunt_isa_forms)] }
def IsaApartSaid : Prop := isaApartRow.holds Tryd.pinned (OpenSpec.ofChange isaApartSpec)

/-- ITS FALSE NEIGHBOUR: 'it returns false'. Refute it at one input. -/
def isaApartWrong : ChangeSpec := { name := "isaApart", fn := fun _ => fun
  | [d1, d2, d3] => { results := [.lit (.bool false)], args := [d1, d2, d3] }
  | _ => none }
def IsaApartWrongFalsely : Prop := isaApartRow.holds Tryd.pinned (OpenSpec.ofChange isaApartWrong)

/-- 'shuntlaw10.IsaReckons': WHATEVER THE INPUT: true; the input reads as it did. -/
def isaReckonsSpec : ChangeSpec := { name := "isaReckons", fn := fun _ => fun
  | [d1, d2, d3] => { results := [.lit (.bool true)], args := [d1, d2, d3] }
  | _ => none }
def isaReckonsRow : OpenClaim := { program := "ytfeemchdhbimhaadoor", sum := "df6519994433b1b743e1e7a9e609c3a163ce674db62f3990596627ae71952150", func := "shunt/shuntlaw10.IsaReckons", spec := "isaReckons", inPlace := ["internal/bytealg.IndexByteString"], unfollowed := true, recurses := true, named := ["shunt/isa.forms", "strconv.ErrSyntax", "strconv.ErrRange", "internal/strconv.uint64pow10", "math/bits.deBruijn32tab", "math/bits.deBruijn64tab"], apart := false, laid := [("math/bits.deBruijn32tab", laid_math_bits_deBruijn32tab), ("math/bits.deBruijn64tab", laid_math_bits_deBruijn64tab), ("internal/strconv.uint64pow10", laid_internal_strconv_uint64pow10), ("strconv.ErrRange", laid_strconv_ErrRange), ("strconv.ErrSyntax", laid_strconv_ErrSyntax), ("shunt/isa.forms", laid_shunt_isa_forms)] }
def IsaReckonsSaid : Prop := isaReckonsRow.holds Tryd.pinned (OpenSpec.ofChange isaReckonsSpec)

/-- ITS FALSE NEIGHBOUR: 'it returns false'. Refute it at one input. -/
def isaReckonsWrong : ChangeSpec := { name := "isaReckons", fn := fun _ => fun
  | [d1, d2, d3] => { results := [.lit (.bool false)], args := [d1, d2, d3] }
  | _ => none }
def IsaReckonsWrongFalsely : Prop := isaReckonsRow.holds Tryd.pinned (OpenSpec.ofChange isaReckonsWrong)

/- THE SECOND FORM. 'bulk': how many values and letters a reading holds, each counted each time it is reached (what is shared counts as often as it is met; a slice's spare places count too). A statement '..UptoSaid' is the law's where the arguments, and the package variables that the reading takes, are together of bulk at most 1048576: NARROWER than '..Said'. Prove '..Said' where nothing that the law and all that it calls make is longer than what came in: it says more and counts as full. Else prove '..UptoSaid'. A law counts once. -/
mutual
def uptoBulk {H : Type} : DataW H → Nat
  | .lit (.string bytes) => bytes.length + 1
  | .lit _ => 1
  | .nil => 1
  | .ptr d => uptoBulk d + 1
  | .slice elems spare => uptoBulkAll elems + uptoBulkAll spare + 1
  | .agg parts => uptoBulkAll parts + 1
  | .iface _ d => uptoBulk d + 1
  | .map entries => uptoBulkEntries entries + 1
  | .held _ => 1
def uptoBulkAll {H : Type} : List (DataW H) → Nat
  | [] => 0
  | d :: r => uptoBulk d + uptoBulkAll r
def uptoBulkEntries {H : Type} : List (Lit × DataW H) → Nat
  | [] => 0
  | x :: r => uptoBulkEntry x + uptoBulkEntries r
def uptoBulkEntry {H : Type} : Lit × DataW H → Nat
  | (.string bytes, d) => bytes.length + uptoBulk d + 1
  | (_, d) => uptoBulk d + 1
 end
def uptoSmall : (H : Type) → List (DataW H) → Bool := fun _ ds => decide (uptoBulkAll ds ≤ 1048576)
def OpenSpec.upto (s : _root_.Go.ChangeSpec) : _root_.Go.OpenSpec := { _root_.Go.OpenSpec.ofChange s with cond := some uptoSmall }

/-- 'shuntlaw10.IsaDoes', WHERE WHAT IT READS IS OF BULK AT MOST 1048576: true; the input reads as it did. -/
def isaDoesUptoRow : OpenClaim := { program := "ytfeemchdhbimhaadoor", sum := "df6519994433b1b743e1e7a9e609c3a163ce674db62f3990596627ae71952150", func := "shunt/shuntlaw10.IsaDoes", spec := "isaDoes", unfollowed := true, recurses := true, named := ["shunt/isa.forms"], apart := false, laid := [("shunt/isa.forms", laid_shunt_isa_forms)], narrowed := true }
def IsaDoesUptoSaid : Prop := isaDoesUptoRow.holds Tryd.pinned (OpenSpec.upto isaDoesSpec)

/-- 'shuntlaw10.IsaLines', WHERE WHAT IT READS IS OF BULK AT MOST 1048576: true; the input reads as it did. -/
def isaLinesUptoRow : OpenClaim := { program := "ytfeemchdhbimhaadoor", sum := "df6519994433b1b743e1e7a9e609c3a163ce674db62f3990596627ae71952150", func := "shunt/shuntlaw10.IsaLines", spec := "isaLines", inPlace := ["internal/bytealg.IndexByteString"], unfollowed := true, recurses := true, named := ["shunt/isa.forms", "strconv.ErrSyntax", "strconv.ErrRange", "internal/strconv.uint64pow10", "math/bits.deBruijn32tab", "math/bits.deBruijn64tab"], apart := false, laid := [("math/bits.deBruijn32tab", laid_math_bits_deBruijn32tab), ("math/bits.deBruijn64tab", laid_math_bits_deBruijn64tab), ("internal/strconv.uint64pow10", laid_internal_strconv_uint64pow10), ("strconv.ErrRange", laid_strconv_ErrRange), ("strconv.ErrSyntax", laid_strconv_ErrSyntax), ("shunt/isa.forms", laid_shunt_isa_forms)], narrowed := true }
def IsaLinesUptoSaid : Prop := isaLinesUptoRow.holds Tryd.pinned (OpenSpec.upto isaLinesSpec)

/-- 'shuntlaw10.IsaNames', WHERE WHAT IT READS IS OF BULK AT MOST 1048576: true; the input reads as it did. -/
def isaNamesUptoRow : OpenClaim := { program := "ytfeemchdhbimhaadoor", sum := "df6519994433b1b743e1e7a9e609c3a163ce674db62f3990596627ae71952150", func := "shunt/shuntlaw10.IsaNames", spec := "isaNames", inPlace := ["internal/bytealg.IndexByteString"], unfollowed := true, recurses := true, named := ["shunt/isa.forms", "internal/strconv.uint64pow10", "math/bits.deBruijn32tab", "math/bits.deBruijn64tab", "strconv.ErrSyntax", "strconv.ErrRange"], apart := false, laid := [("math/bits.deBruijn32tab", laid_math_bits_deBruijn32tab), ("math/bits.deBruijn64tab", laid_math_bits_deBruijn64tab), ("internal/strconv.uint64pow10", laid_internal_strconv_uint64pow10), ("strconv.ErrRange", laid_strconv_ErrRange), ("strconv.ErrSyntax", laid_strconv_ErrSyntax), ("shunt/isa.forms", laid_shunt_isa_forms)], narrowed := true }
def IsaNamesUptoSaid : Prop := isaNamesUptoRow.holds Tryd.pinned (OpenSpec.upto isaNamesSpec)

/-- 'shuntlaw10.IsaBack', WHERE WHAT IT READS IS OF BULK AT MOST 1048576: true; the input reads as it did. -/
def isaBackUptoRow : OpenClaim := { program := "ytfeemchdhbimhaadoor", sum := "df6519994433b1b743e1e7a9e609c3a163ce674db62f3990596627ae71952150", func := "shunt/shuntlaw10.IsaBack", spec := "isaBack", inPlace := ["internal/bytealg.IndexByteString"], unfollowed := true, recurses := true, named := ["shunt/isa.forms", "strconv.ErrSyntax", "strconv.ErrRange", "internal/strconv.uint64pow10", "math/bits.deBruijn32tab", "math/bits.deBruijn64tab"], apart := false, laid := [("math/bits.deBruijn32tab", laid_math_bits_deBruijn32tab), ("math/bits.deBruijn64tab", laid_math_bits_deBruijn64tab), ("internal/strconv.uint64pow10", laid_internal_strconv_uint64pow10), ("strconv.ErrRange", laid_strconv_ErrRange), ("strconv.ErrSyntax", laid_strconv_ErrSyntax), ("shunt/isa.forms", laid_shunt_isa_forms)], narrowed := true }
def IsaBackUptoSaid : Prop := isaBackUptoRow.holds Tryd.pinned (OpenSpec.upto isaBackSpec)

/-- 'shuntlaw10.IsaSaid', WHERE WHAT IT READS IS OF BULK AT MOST 1048576: true; the input reads as it did. -/
def isaSaidUptoRow : OpenClaim := { program := "ytfeemchdhbimhaadoor", sum := "df6519994433b1b743e1e7a9e609c3a163ce674db62f3990596627ae71952150", func := "shunt/shuntlaw10.IsaSaid", spec := "isaSaid", inPlace := ["internal/bytealg.IndexByteString"], unfollowed := true, recurses := true, named := ["shunt/isa.forms", "strconv.ErrSyntax", "strconv.ErrRange", "internal/strconv.uint64pow10", "math/bits.deBruijn32tab", "math/bits.deBruijn64tab"], apart := false, laid := [("math/bits.deBruijn32tab", laid_math_bits_deBruijn32tab), ("math/bits.deBruijn64tab", laid_math_bits_deBruijn64tab), ("internal/strconv.uint64pow10", laid_internal_strconv_uint64pow10), ("strconv.ErrRange", laid_strconv_ErrRange), ("strconv.ErrSyntax", laid_strconv_ErrSyntax), ("shunt/isa.forms", laid_shunt_isa_forms)], narrowed := true }
def IsaSaidUptoSaid : Prop := isaSaidUptoRow.holds Tryd.pinned (OpenSpec.upto isaSaidSpec)

/-- 'shuntlaw10.IsaApart', WHERE WHAT IT READS IS OF BULK AT MOST 1048576: true; the input reads as it did. -/
def isaApartUptoRow : OpenClaim := { program := "ytfeemchdhbimhaadoor", sum := "df6519994433b1b743e1e7a9e609c3a163ce674db62f3990596627ae71952150", func := "shunt/shuntlaw10.IsaApart", spec := "isaApart", inPlace := ["internal/bytealg.IndexByteString"], unfollowed := true, recurses := true, named := ["shunt/isa.forms", "strconv.ErrSyntax", "strconv.ErrRange", "internal/strconv.uint64pow10", "math/bits.deBruijn32tab", "math/bits.deBruijn64tab"], apart := false, laid := [("math/bits.deBruijn32tab", laid_math_bits_deBruijn32tab), ("math/bits.deBruijn64tab", laid_math_bits_deBruijn64tab), ("internal/strconv.uint64pow10", laid_internal_strconv_uint64pow10), ("strconv.ErrRange", laid_strconv_ErrRange), ("strconv.ErrSyntax", laid_strconv_ErrSyntax), ("shunt/isa.forms", laid_shunt_isa_forms)], narrowed := true }
def IsaApartUptoSaid : Prop := isaApartUptoRow.holds Tryd.pinned (OpenSpec.upto isaApartSpec)

/-- 'shuntlaw10.IsaReckons', WHERE WHAT IT READS IS OF BULK AT MOST 1048576: true; the input reads as it did. -/
def isaReckonsUptoRow : OpenClaim := { program := "ytfeemchdhbimhaadoor", sum := "df6519994433b1b743e1e7a9e609c3a163ce674db62f3990596627ae71952150", func := "shunt/shuntlaw10.IsaReckons", spec := "isaReckons", inPlace := ["internal/bytealg.IndexByteString"], unfollowed := true, recurses := true, named := ["shunt/isa.forms", "strconv.ErrSyntax", "strconv.ErrRange", "internal/strconv.uint64pow10", "math/bits.deBruijn32tab", "math/bits.deBruijn64tab"], apart := false, laid := [("math/bits.deBruijn32tab", laid_math_bits_deBruijn32tab), ("math/bits.deBruijn64tab", laid_math_bits_deBruijn64tab), ("internal/strconv.uint64pow10", laid_internal_strconv_uint64pow10), ("strconv.ErrRange", laid_strconv_ErrRange), ("strconv.ErrSyntax", laid_strconv_ErrSyntax), ("shunt/isa.forms", laid_shunt_isa_forms)], narrowed := true }
def IsaReckonsUptoSaid : Prop := isaReckonsUptoRow.holds Tryd.pinned (OpenSpec.upto isaReckonsSpec)

end Rows
end Go.Proofs.YtfeemchdhbimhaaDoor
