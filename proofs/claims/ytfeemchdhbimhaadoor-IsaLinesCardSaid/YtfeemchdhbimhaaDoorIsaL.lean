/- What the six listed variables hold. Conditions: the lists are met. -/
import Derived.Test.YtfeemchdhbimhaaDoorAlx
import Derived.Test.YtfeemchdhbimhaaDoorIsaG
import Derived.Stop.LaidErr
import Derived.Lib.LaidTab
import Derived.Stop.ErrReads
namespace Go.Proofs.YtfeemchdhbimhaaDoor
open Go.ChangeShapes Go.WideShapes Go.ChangeAt Go.RowKit

abbrev laidSix : List (String × DataW Unit) := [("math/bits.deBruijn32tab", Rows.laid_math_bits_deBruijn32tab), ("math/bits.deBruijn64tab", Rows.laid_math_bits_deBruijn64tab), ("internal/strconv.uint64pow10", Rows.laid_internal_strconv_uint64pow10), ("strconv.ErrRange", Rows.laid_strconv_ErrRange), ("strconv.ErrSyntax", Rows.laid_strconv_ErrSyntax), ("shunt/isa.forms", Rows.laid_shunt_isa_forms)]

theorem pow_data : (Rows.laid_internal_strconv_uint64pow10 : DataW Unit) = Lib.tabData .u64 Lib.pow10Tab := by kernel_rfl
theorem err_row (u : TypeId) (h : Tryd.prog.typeName? 3 u = some "*errors.errorString") : u = 128 :=
  typeName_ptr_named (nm := "errors.errorString") (by rw [show "*" ++ "errors.errorString" = "*errors.errorString" from rfl]; kernel_rfl) (by kernel_rfl) (by decide) u (by rw [show "*" ++ "errors.errorString" = "*errors.errorString" from rfl]; exact h)
theorem var_below {P : Program} {w w' : World} {n : String} {cs : Array Value} (h : w.var? P n = some cs) (hb : Below w.heap.size w w') : w'.var? P n = some cs := by
  unfold World.var? at h ⊢
  cases hg : P.globalNamed n with
  | none => simp [hg] at h
  | some g =>
    simp only [hg, Option.bind_some] at h ⊢
    have hlt : g < w.heap.size := by
      rcases Nat.lt_or_ge g w.heap.size with h' | h'
      · exact h'
      · simp [Array.getElem?_eq_none h'] at h
    rw [hb.block g hlt]
    exact h

theorem std_laid {W : World} (h : laidMet Tryd.prog laidSix W) : Std W := by
  have h3 : laidMet Tryd.prog (("internal/strconv.uint64pow10", Lib.tabData .u64 Lib.pow10Tab) :: [("strconv.ErrRange", Rows.laid_strconv_ErrRange), ("strconv.ErrSyntax", Rows.laid_strconv_ErrSyntax), ("shunt/isa.forms", Rows.laid_shunt_isa_forms)]) W := by
    have := laid_tail (laid_tail h)
    rw [pow_data] at this
    exact this
  have ht := Lib.tabIs_of_head (show Tryd.prog.globalNamed "internal/strconv.uint64pow10" = some 4 by kernel_rfl) (show (Tryd.prog.globals[(4 : Nat)]?).map (·.type) = some 122 by kernel_rfl) Tryd.underlying122 Tryd.underlying24 (by kernel_rfl) (by kernel_rfl) h3
  have h4 := laid_tail h3
  obtain ⟨a0, s0, hv0, -⟩ := laid_sentinel h4 (show Tryd.prog.globalNamed "strconv.ErrRange" = some 3 by kernel_rfl) (show (Tryd.prog.globals[(3 : Nat)]?).map (·.type) = some 93 by kernel_rfl) Tryd.underlying93 err_row Tryd.underlying128 Tryd.underlying130 rfl rfl Tryd.underlying9 (by kernel_rfl) (by kernel_rfl)
  obtain ⟨a1, s1, hv1, -⟩ := laid_sentinel (laid_tail h4) (show Tryd.prog.globalNamed "strconv.ErrSyntax" = some 2 by kernel_rfl) (show (Tryd.prog.globals[(2 : Nat)]?).map (·.type) = some 93 by kernel_rfl) Tryd.underlying93 err_row Tryd.underlying128 Tryd.underlying130 rfl rfl Tryd.underlying9 (by kernel_rfl) (by kernel_rfl)
  exact ⟨forms_laid (laid_tail (laid_tail h4)), fun w' hb => ⟨⟨_, _, var_below hv1 hb⟩, _, _, var_below hv0 hb⟩, Lib.tabBelow_of_tabIs ht⟩

end Go.Proofs.YtfeemchdhbimhaaDoor
