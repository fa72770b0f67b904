/- What the nine listed variables hold. Conditions: the list is met. -/
import Derived.Test.YteijhcibdglkeaaGreatDoorLntK
import Derived.Test.YteijhcibdglkeaaGreatDoorAsmN
namespace Go.Proofs.YteijhcibdglkeaaGreatDoor
open Go.ChangeShapes Go.WideShapes Go.ChangeAt Go.RowKit

def nameLits : List (DataW Unit) := (List.range 9).map fun r => .lit (.string (nmL r))
theorem nameLits_is : (Rows.laid_shunt_lint_names : DataW Unit) = .agg nameLits := by kernel_rfl
theorem names_laid {W : World} {r : List (String × DataW Unit)} (h : laidMet Tryz.prog (("shunt/lint.names", Rows.laid_shunt_lint_names) :: r) W) : NamesAt W := by
  obtain ⟨g, t, cs, fuel, p, hg, ht, hv, hd⟩ := laid_head h
  obtain rfl := Option.some.inj ((show Tryz.prog.globalNamed "shunt/lint.names" = some 1 by kernel_rfl).symm.trans hg)
  obtain rfl := Option.some.inj ((show (Tryz.prog.globals[(1 : Nat)]?).map (·.type) = some 82 by kernel_rfl).symm.trans ht)
  obtain ⟨xs, m, _, ex, _, hl, hel⟩ := DataW.trod_array Tryz.underlying82 hd
  have c9 : Tryz.prog.cellsOf 9 = 1 := by kernel_rfl
  have e3 : xs.map (·.1) = nameLits := by
    have := (Prod.mk.inj ex).1
    rw [nameLits_is] at this
    exact (DataW.agg.inj this).symm
  intro r hr
  have hE := hel r hr
  rw [c9, List.getElem?_eq_getElem (by omega)] at hE
  obtain ⟨s, hs, hy, _⟩ := DataW.trod_string Tryz.underlying9 hE
  have e4 : (xs.map (·.1))[r]? = nameLits[r]? := by rw [e3]
  rw [List.getElem?_map, List.getElem?_eq_getElem (by omega : r < xs.length)] at e4
  have e5 : nameLits[r]? = some (.lit (.string (nmL r))) := by
    unfold nameLits
    rw [List.getElem?_map, List.getElem?_range hr]; rfl
  rw [e5, Option.map_some, hy] at e4
  simp only [Option.some.injEq, DataW.lit.injEq, Lit.string.injEq] at e4
  have ga : cs.toList[r]? = some (.string s) := by
    have h2 : ((cs.toList.drop (r * 1)).take 1)[0]? = some (.string s) := by rw [hs]; rfl
    simp only [List.getElem?_take, List.getElem?_drop] at h2
    simpa using h2
  rw [World.var?_cell hg hv r, ← e4]; simpa using ga

abbrev laidNine : List (String × DataW Unit) := [("math/bits.deBruijn32tab", Rows.laid_math_bits_deBruijn32tab), ("math/bits.deBruijn64tab", Rows.laid_math_bits_deBruijn64tab), ("internal/strconv.uint64pow10", Rows.laid_internal_strconv_uint64pow10), ("unicode/utf8.acceptRanges", Rows.laid_unicode_utf8_acceptRanges), ("strconv.ErrRange", Rows.laid_strconv_ErrRange), ("strconv.ErrSyntax", Rows.laid_strconv_ErrSyntax), ("shunt/isa.forms", Rows.laid_shunt_isa_forms), ("shunt/lint.names", Rows.laid_shunt_lint_names), ("unicode/utf8.first", Rows.laid_unicode_utf8_first)]

theorem stdn_laid {W : World} (h : laidMet Tryz.prog laidNine W) : StdN W := by
  have h3 : laidMet Tryz.prog (("internal/strconv.uint64pow10", Lib.tabData .u64 Lib.pow10Tab) :: [("unicode/utf8.acceptRanges", Rows.laid_unicode_utf8_acceptRanges), ("strconv.ErrRange", Rows.laid_strconv_ErrRange), ("strconv.ErrSyntax", Rows.laid_strconv_ErrSyntax), ("shunt/isa.forms", Rows.laid_shunt_isa_forms), ("shunt/lint.names", Rows.laid_shunt_lint_names), ("unicode/utf8.first", Rows.laid_unicode_utf8_first)]) W := by
    have := laid_tail (laid_tail h)
    rw [pow_data] at this
    exact this
  have ht := Lib.tabIs_of_head (show Tryz.prog.globalNamed "internal/strconv.uint64pow10" = some 2 by kernel_rfl) (show (Tryz.prog.globals[(2 : Nat)]?).map (·.type) = some 150 by kernel_rfl) Tryz.underlying150 Tryz.underlying33 (by kernel_rfl) (by kernel_rfl) h3
  have h4 := laid_tail (laid_tail h3)
  obtain ⟨a0, s0, hv0, -⟩ := laid_sentinel h4 (show Tryz.prog.globalNamed "strconv.ErrRange" = some 9 by kernel_rfl) (show (Tryz.prog.globals[(9 : Nat)]?).map (·.type) = some 169 by kernel_rfl) Tryz.underlying169 err_row Tryz.underlying195 Tryz.underlying197 rfl rfl Tryz.underlying9 (by kernel_rfl) (by kernel_rfl)
  obtain ⟨a1, s1, hv1, -⟩ := laid_sentinel (laid_tail h4) (show Tryz.prog.globalNamed "strconv.ErrSyntax" = some 8 by kernel_rfl) (show (Tryz.prog.globals[(8 : Nat)]?).map (·.type) = some 169 by kernel_rfl) Tryz.underlying169 err_row Tryz.underlying195 Tryz.underlying197 rfl rfl Tryz.underlying9 (by kernel_rfl) (by kernel_rfl)
  have h5 := laid_tail (laid_tail h4)
  exact ⟨⟨forms_laid h5, fun w' hb => ⟨⟨_, _, var_below hv1 hb⟩, _, _, var_below hv0 hb⟩, Lib.tabBelow_of_tabIs ht⟩, names_laid (laid_tail h5)⟩
end Go.Proofs.YteijhcibdglkeaaGreatDoor
