/- What the four listed variables hold; ones that were found, come in. Conditions: the list is met. -/
import Derived.Test.YteijhcibdglkeaaDoorLntW
import Derived.Test.YteijhcibdglkeaaDoorCame
import Derived.Test.YteijhcibdglkeaaDoorDat
import Derived.Test.YteijhcibdglkeaaDoorCards
import Derived.Test.YteijhcibdglkeaaDoorTie
import Derived.ProofKit
import Derived.OpenShut
import Derived.LaidMore
import Derived.Lay
import Derived.SevenTiedAt
import Derived.Stop.Joined
namespace Go.Proofs.YteijhcibdglkeaaDoor
open Go.ChangeShapes Go.WideShapes Go.ChangeAt Go.RowKit

theorem laid_tail {P : Program} {x : String × DataW Unit} {r : List (String × DataW Unit)} {W : World} (h : laidMet P (x :: r) W) : laidMet P r W := by
  obtain ⟨ps, ⟨g, t, cs, fuel, p, q, _, _, _, _, hr, e⟩, hn, hc⟩ := h
  subst e
  exact ⟨q, hr, (List.nodup_append.1 hn).2.1, fun b off hm => hc b off (List.mem_append_right _ hm)⟩
theorem laid_head {P : Program} {n : String} {d : DataW Unit} {r : List (String × DataW Unit)} {W : World} (h : laidMet P ((n, d) :: r) W) :
    ∃ g t cs fuel p, P.globalNamed n = some g ∧ (P.globals[g]?).map (·.type) = some t ∧ W.var? P n = some cs ∧ DataW.trod (fun _ => ()) P W 0 (fun _ => true) false fuel t cs.toList = some (d, p) := by
  obtain ⟨ps, ⟨g, t, cs, fuel, p, q, h1, h2, h3, h4, _, _⟩, _, _⟩ := h
  exact ⟨g, t, cs, fuel, p, h1, h2, h3, h4⟩

def nameLits : List (DataW Unit) := (List.range 9).map fun r => .lit (.string (nmL r))
theorem nameLits_is : (Rows.laid_shunt_lint_names : DataW Unit) = .agg nameLits := by kernel_rfl
theorem names_laid {W : World} {r : List (String × DataW Unit)} (h : laidMet Tryd.prog (("shunt/lint.names", Rows.laid_shunt_lint_names) :: r) W) : NamesAt W := by
  obtain ⟨g, t, cs, fuel, p, hg, ht, hv, hd⟩ := laid_head h
  obtain rfl := Option.some.inj ((show Tryd.prog.globalNamed "shunt/lint.names" = some 0 by kernel_rfl).symm.trans hg)
  obtain rfl := Option.some.inj ((show (Tryd.prog.globals[(0 : Nat)]?).map (·.type) = some 76 by kernel_rfl).symm.trans ht)
  obtain ⟨xs, m, _, ex, _, hl, hel⟩ := DataW.trod_array Tryd.underlying76 hd
  have c9 : Tryd.prog.cellsOf 9 = 1 := by kernel_rfl
  have e3 : xs.map (·.1) = nameLits := by
    have := (Prod.mk.inj ex).1
    rw [nameLits_is] at this
    exact (DataW.agg.inj this).symm
  intro r hr
  have hE := hel r hr
  rw [c9, List.getElem?_eq_getElem (by omega)] at hE
  obtain ⟨s, hs, hy, _⟩ := DataW.trod_string Tryd.underlying9 hE
  have e4 : (xs.map (·.1))[r]? = nameLits[r]? := by rw [e3]
  rw [List.getElem?_map, List.getElem?_eq_getElem (by omega : r < xs.length)] at e4
  have e5 : nameLits[r]? = some (.lit (.string (nmL r))) := by
    unfold nameLits
    rw [List.getElem?_map, List.getElem?_range hr]; rfl
  rw [e5, Option.map_some, hy] at e4
  simp only [Option.some.injEq, DataW.lit.injEq, Lit.string.injEq] at e4
  have ga : cs.toList[r]? = some (.string s) := by
    have h2 : ((cs.toList.drop (r * 1)).take 1)[0]? = some (.string s) := by rw [hs]; rfl
    simp only [List.getElem?_take, List.getElem?_drop] at h2
    simpa using h2
  rw [World.var?_cell hg hv r, ← e4]; simpa using ga

theorem pow_data : (Rows.laid_internal_strconv_uint64pow10 : DataW Unit) = Lib.tabData .u64 Lib.pow10Tab := by kernel_rfl

abbrev laidFour : List (String × DataW Unit) := [("math/bits.deBruijn32tab", Rows.laid_math_bits_deBruijn32tab), ("math/bits.deBruijn64tab", Rows.laid_math_bits_deBruijn64tab), ("internal/strconv.uint64pow10", Rows.laid_internal_strconv_uint64pow10), ("shunt/lint.names", Rows.laid_shunt_lint_names)]
theorem stdl_laid {W : World} (h : laidMet Tryd.prog laidFour W) : StdL W := by
  have h3 : laidMet Tryd.prog (("internal/strconv.uint64pow10", Lib.tabData .u64 Lib.pow10Tab) :: [("shunt/lint.names", Rows.laid_shunt_lint_names)]) W := by
    have := laid_tail (laid_tail h)
    rw [pow_data] at this
    exact this
  have ht := Lib.tabIs_of_head (show Tryd.prog.globalNamed "internal/strconv.uint64pow10" = some 2 by kernel_rfl) (show (Tryd.prog.globals[(2 : Nat)]?).map (·.type) = some 103 by kernel_rfl) Tryd.underlying103 Tryd.underlying96 (by kernel_rfl) (by kernel_rfl) h3
  exact ⟨names_laid (laid_tail h3), Lib.tabBelow_of_tabIs ht⟩

def foundKinds : List CK := [⟨0, .i64⟩, ⟨0, .i64⟩]
theorem found_mk (vs : List Value) (h : Fit foundKinds vs) : ∃ x : Int × Int, fdC x = vs ∧ (I64 x.1 ∧ I64 x.2) := by
  have h1 := h.1
  have h2 := h.2
  match vs, h1 with
  | [c0, c1], _ =>
    obtain ⟨x0, rfl, w0⟩ := h2 0 _ _ rfl rfl
    obtain ⟨x1, rfl, w1⟩ := h2 1 _ _ rfl rfl
    have g : ∀ z, (Lit.int .i64 z).wf = true → I64 z := fun z h => by simp [Lit.wf, IntKind.min, IntKind.max, IntKind.signed, IntKind.bits] at h; unfold I64; omega
    exact ⟨(x0, x1), rfl, g _ w0, g _ w1⟩
end Go.Proofs.YteijhcibdglkeaaDoor
