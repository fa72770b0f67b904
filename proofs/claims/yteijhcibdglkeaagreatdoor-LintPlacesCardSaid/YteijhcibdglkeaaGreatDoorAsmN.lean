/- What the eight listed variables hold. Conditions: the lists are met. -/
import Derived.Test.YteijhcibdglkeaaGreatDoorAsmB
import Derived.Stop.LaidErr
import Derived.Lib.LaidTab
import Derived.Stop.ErrReads
import Derived.Test.YteijhcibdglkeaaGreatDoorCards
import Derived.Test.YteijhcibdglkeaaGreatDoorTie
import Derived.ProofKit
import Derived.OpenShut
import Derived.LaidMore
import Derived.Lay
import Derived.SevenTiedAt
import Derived.Stop.Joined
namespace Go.Proofs.YteijhcibdglkeaaGreatDoor
open Go.ChangeShapes Go.WideShapes Go.ChangeAt Go.RowKit

theorem laid_tail {P : Program} {x : String × DataW Unit} {r : List (String × DataW Unit)} {W : World} (h : laidMet P (x :: r) W) : laidMet P r W := by
  obtain ⟨ps, ⟨g, t, cs, fuel, p, q, _, _, _, _, hr, e⟩, hn, hc⟩ := h
  subst e
  exact ⟨q, hr, (List.nodup_append.1 hn).2.1, fun b off hm => hc b off (List.mem_append_right _ hm)⟩
theorem laid_head {P : Program} {n : String} {d : DataW Unit} {r : List (String × DataW Unit)} {W : World} (h : laidMet P ((n, d) :: r) W) :
    ∃ g t cs fuel p, P.globalNamed n = some g ∧ (P.globals[g]?).map (·.type) = some t ∧ W.var? P n = some cs ∧ DataW.trod (fun _ => ()) P W 0 (fun _ => true) false fuel t cs.toList = some (d, p) := by
  obtain ⟨ps, ⟨g, t, cs, fuel, p, q, h1, h2, h3, h4, _, _⟩, _, _⟩ := h
  exact ⟨g, t, cs, fuel, p, h1, h2, h3, h4⟩

def formLits : List (DataW Unit) := (List.range 19).map fun r => .agg [.lit (.string (word r)), .lit (.int .i64 (mask r))]
theorem formLits_is : (Rows.laid_shunt_isa_forms : DataW Unit) = .agg formLits := by kernel_rfl

theorem forms_laid {W : World} {r : List (String × DataW Unit)} (h : laidMet Tryz.prog (("shunt/isa.forms", Rows.laid_shunt_isa_forms) :: r) W) : FormsAt W := by
  obtain ⟨g, t, cs, fuel, p, hg, ht, hv, hd⟩ := laid_head h
  obtain rfl := Option.some.inj ((show Tryz.prog.globalNamed "shunt/isa.forms" = some 0 by kernel_rfl).symm.trans hg)
  obtain rfl := Option.some.inj ((show (Tryz.prog.globals[(0 : Nat)]?).map (·.type) = some 72 by kernel_rfl).symm.trans ht)
  obtain ⟨xs, m, _, ex, _, hl, hel⟩ := DataW.trod_array Tryz.underlying72 hd
  have c69 : Tryz.prog.cellsOf 71 = 2 := by kernel_rfl
  have c9 : Tryz.prog.cellsOf 9 = 1 := by kernel_rfl
  have c67 : Tryz.prog.cellsOf 69 = 1 := by kernel_rfl
  have e3 : xs.map (·.1) = formLits := by
    have := (Prod.mk.inj ex).1
    rw [formLits_is] at this
    exact (DataW.agg.inj this).symm
  intro r hr
  have hE := hel r hr
  rw [c69, List.getElem?_eq_getElem (by omega)] at hE
  obtain ⟨y0, y1, n, e1, _, h0, h1⟩ := trod_struct2 Tryz.underlying71 hE
  have e4 : (xs.map (·.1))[r]? = formLits[r]? := by rw [e3]
  rw [List.getElem?_map, List.getElem?_eq_getElem (by omega : r < xs.length), e1] at e4
  have e5 : formLits[r]? = some (.agg [.lit (.string (word r)), .lit (.int .i64 (mask r))]) := by
    unfold formLits
    rw [List.getElem?_map, List.getElem?_range hr]; rfl
  rw [e5] at e4
  simp only [Option.map_some, Option.some.injEq, DataW.agg.injEq, List.cons.injEq, and_true] at e4
  obtain ⟨s, hs, hy, _⟩ := DataW.trod_string Tryz.underlying9 h0
  obtain ⟨z, hz, hy1, _⟩ := DataW.trod_int Tryz.underlying69 h1
  have hs1 : s = wordS r := by
    have := e4.1
    rw [hy] at this
    simp only [DataW.lit.injEq, Lit.string.injEq] at this
    unfold wordS
    rw [← this]
  have hz1 : z = (mask r : Int) := by
    have := e4.2
    rw [hy1] at this
    simpa only [DataW.lit.injEq, Lit.int.injEq, true_and] using this
  rw [← hs1, ← hz1]
  simp only [c9, c67] at hs hz
  have ga : cs.toList[2 * r]? = some (.string s) := by
    have h2 : (((((cs.toList.drop (r * 2)).take 2).drop 0).take 1))[0]? = some (.string s) := by rw [hs]; rfl
    simp only [List.drop_zero, List.take_take, List.getElem?_take, List.getElem?_drop] at h2
    rw [Nat.mul_comm]
    simpa using h2
  have gb : cs.toList[2 * r + 1]? = some (.int .i64 z) := by
    have h2 : (((((cs.toList.drop (r * 2)).take 2).drop 1).take 1))[0]? = some (.int .i64 z) := by rw [hz]; rfl
    simp only [List.getElem?_take, List.getElem?_drop] at h2
    rw [Nat.mul_comm]
    simpa using h2
  exact ⟨by rw [World.var?_cell hg hv (2 * r)]; simpa using ga, by rw [World.var?_cell hg hv (2 * r + 1)]; simpa using gb⟩

abbrev laidEight : List (String × DataW Unit) := [("math/bits.deBruijn32tab", Rows.laid_math_bits_deBruijn32tab), ("math/bits.deBruijn64tab", Rows.laid_math_bits_deBruijn64tab), ("internal/strconv.uint64pow10", Rows.laid_internal_strconv_uint64pow10), ("unicode/utf8.acceptRanges", Rows.laid_unicode_utf8_acceptRanges), ("strconv.ErrRange", Rows.laid_strconv_ErrRange), ("strconv.ErrSyntax", Rows.laid_strconv_ErrSyntax), ("shunt/isa.forms", Rows.laid_shunt_isa_forms), ("unicode/utf8.first", Rows.laid_unicode_utf8_first)]

theorem pow_data : (Rows.laid_internal_strconv_uint64pow10 : DataW Unit) = Lib.tabData .u64 Lib.pow10Tab := by kernel_rfl
theorem err_row (u : TypeId) (h : Tryz.prog.typeName? 3 u = some "*errors.errorString") : u = 195 :=
  typeName_ptr_named (nm := "errors.errorString") (by rw [show "*" ++ "errors.errorString" = "*errors.errorString" from rfl]; kernel_rfl) (by kernel_rfl) (by decide) u (by rw [show "*" ++ "errors.errorString" = "*errors.errorString" from rfl]; exact h)
theorem var_below {P : Program} {w w' : World} {n : String} {cs : Array Value} (h : w.var? P n = some cs) (hb : Below w.heap.size w w') : w'.var? P n = some cs := by
  unfold World.var? at h ⊢
  cases hg : P.globalNamed n with
  | none => simp [hg] at h
  | some g =>
    simp only [hg, Option.bind_some] at h ⊢
    have hlt : g < w.heap.size := by
      rcases Nat.lt_or_ge g w.heap.size with h' | h'
      · exact h'
      · simp [Array.getElem?_eq_none h'] at h
    rw [hb.block g hlt]
    exact h

theorem std_laid {W : World} (h : laidMet Tryz.prog laidEight W) : Std W := by
  have h3 : laidMet Tryz.prog (("internal/strconv.uint64pow10", Lib.tabData .u64 Lib.pow10Tab) :: [("unicode/utf8.acceptRanges", Rows.laid_unicode_utf8_acceptRanges), ("strconv.ErrRange", Rows.laid_strconv_ErrRange), ("strconv.ErrSyntax", Rows.laid_strconv_ErrSyntax), ("shunt/isa.forms", Rows.laid_shunt_isa_forms), ("unicode/utf8.first", Rows.laid_unicode_utf8_first)]) W := by
    have := laid_tail (laid_tail h)
    rw [pow_data] at this
    exact this
  have ht := Lib.tabIs_of_head (show Tryz.prog.globalNamed "internal/strconv.uint64pow10" = some 2 by kernel_rfl) (show (Tryz.prog.globals[(2 : Nat)]?).map (·.type) = some 150 by kernel_rfl) Tryz.underlying150 Tryz.underlying33 (by kernel_rfl) (by kernel_rfl) h3
  have h4 := laid_tail (laid_tail h3)
  obtain ⟨a0, s0, hv0, -⟩ := laid_sentinel h4 (show Tryz.prog.globalNamed "strconv.ErrRange" = some 9 by kernel_rfl) (show (Tryz.prog.globals[(9 : Nat)]?).map (·.type) = some 169 by kernel_rfl) Tryz.underlying169 err_row Tryz.underlying195 Tryz.underlying197 rfl rfl Tryz.underlying9 (by kernel_rfl) (by kernel_rfl)
  obtain ⟨a1, s1, hv1, -⟩ := laid_sentinel (laid_tail h4) (show Tryz.prog.globalNamed "strconv.ErrSyntax" = some 8 by kernel_rfl) (show (Tryz.prog.globals[(8 : Nat)]?).map (·.type) = some 169 by kernel_rfl) Tryz.underlying169 err_row Tryz.underlying195 Tryz.underlying197 rfl rfl Tryz.underlying9 (by kernel_rfl) (by kernel_rfl)
  exact ⟨forms_laid (laid_tail (laid_tail h4)), fun w' hb => ⟨⟨_, _, var_below hv1 hb⟩, _, _, var_below hv0 hb⟩, Lib.tabBelow_of_tabIs ht⟩

end Go.Proofs.YteijhcibdglkeaaGreatDoor
