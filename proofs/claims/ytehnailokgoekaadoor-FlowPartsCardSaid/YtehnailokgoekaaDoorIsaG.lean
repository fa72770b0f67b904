/- What the listed variables hold, of the rows' lists. Conditions: the lists are met. -/
import Derived.Test.YtehnailokgoekaaDoorIsaP
import Derived.Test.YtehnailokgoekaaDoorCards
import Derived.Test.YtehnailokgoekaaDoorTie
import Derived.ProofKit
import Derived.OpenShut
import Derived.LaidMore
import Derived.Lay
import Derived.SevenTiedAt
import Derived.Stop.Joined
namespace Go.Proofs.YtehnailokgoekaaDoor
open Go.ChangeShapes Go.WideShapes Go.ChangeAt Go.RowKit

theorem laid_tail {P : Program} {x : String × DataW Unit} {r : List (String × DataW Unit)} {W : World} (h : laidMet P (x :: r) W) : laidMet P r W := by
  obtain ⟨ps, ⟨g, t, cs, fuel, p, q, _, _, _, _, hr, e⟩, hn, hc⟩ := h
  subst e
  exact ⟨q, hr, (List.nodup_append.1 hn).2.1, fun b off hm => hc b off (List.mem_append_right _ hm)⟩
theorem laid_head {P : Program} {n : String} {d : DataW Unit} {r : List (String × DataW Unit)} {W : World} (h : laidMet P ((n, d) :: r) W) :
    ∃ g t cs fuel p, P.globalNamed n = some g ∧ (P.globals[g]?).map (·.type) = some t ∧ W.var? P n = some cs ∧ DataW.trod (fun _ => ()) P W 0 (fun _ => true) false fuel t cs.toList = some (d, p) := by
  obtain ⟨ps, ⟨g, t, cs, fuel, p, q, h1, h2, h3, h4, _, _⟩, _, _⟩ := h
  exact ⟨g, t, cs, fuel, p, h1, h2, h3, h4⟩

abbrev laidForms : List (String × DataW Unit) := [("shunt/isa.forms", Rows.laid_shunt_isa_forms)]
def formLits : List (DataW Unit) := (List.range 19).map fun r => .agg [.lit (.string (word r)), .lit (.int .i64 (mask r))]
theorem formLits_is : (Rows.laid_shunt_isa_forms : DataW Unit) = .agg formLits := by kernel_rfl

theorem forms_laid {W : World} (h : laidMet Tryd.prog laidForms W) : FormsAt W := by
  obtain ⟨g, t, cs, fuel, p, hg, ht, hv, hd⟩ := laid_head h
  obtain rfl := Option.some.inj ((show Tryd.prog.globalNamed "shunt/isa.forms" = some 0 by kernel_rfl).symm.trans hg)
  obtain rfl := Option.some.inj ((show (Tryd.prog.globals[(0 : Nat)]?).map (·.type) = some 95 by kernel_rfl).symm.trans ht)
  obtain ⟨xs, m, _, ex, _, hl, hel⟩ := DataW.trod_array Tryd.underlying95 hd
  have c69 : Tryd.prog.cellsOf 94 = 2 := by kernel_rfl
  have c9 : Tryd.prog.cellsOf 9 = 1 := by kernel_rfl
  have c67 : Tryd.prog.cellsOf 92 = 1 := by kernel_rfl
  have e3 : xs.map (·.1) = formLits := by
    have := (Prod.mk.inj ex).1
    rw [formLits_is] at this
    exact (DataW.agg.inj this).symm
  intro r hr
  have hE := hel r hr
  rw [c69, List.getElem?_eq_getElem (by omega)] at hE
  obtain ⟨y0, y1, n, e1, _, h0, h1⟩ := trod_struct2 Tryd.underlying94 hE
  have e4 : (xs.map (·.1))[r]? = formLits[r]? := by rw [e3]
  rw [List.getElem?_map, List.getElem?_eq_getElem (by omega : r < xs.length), e1] at e4
  have e5 : formLits[r]? = some (.agg [.lit (.string (word r)), .lit (.int .i64 (mask r))]) := by
    unfold formLits
    rw [List.getElem?_map, List.getElem?_range hr]; rfl
  rw [e5] at e4
  simp only [Option.map_some, Option.some.injEq, DataW.agg.injEq, List.cons.injEq, and_true] at e4
  obtain ⟨s, hs, hy, _⟩ := DataW.trod_string Tryd.underlying9 h0
  obtain ⟨z, hz, hy1, _⟩ := DataW.trod_int Tryd.underlying92 h1
  have hs1 : s = wordS r := by
    have := e4.1
    rw [hy] at this
    simp only [DataW.lit.injEq, Lit.string.injEq] at this
    unfold wordS
    rw [← this]
  have hz1 : z = (mask r : Int) := by
    have := e4.2
    rw [hy1] at this
    simpa only [DataW.lit.injEq, Lit.int.injEq, true_and] using this
  rw [← hs1, ← hz1]
  simp only [c9, c67] at hs hz
  have ga : cs.toList[2 * r]? = some (.string s) := by
    have h2 : (((((cs.toList.drop (r * 2)).take 2).drop 0).take 1))[0]? = some (.string s) := by rw [hs]; rfl
    simp only [List.drop_zero, List.take_take, List.getElem?_take, List.getElem?_drop] at h2
    rw [Nat.mul_comm]
    simpa using h2
  have gb : cs.toList[2 * r + 1]? = some (.int .i64 z) := by
    have h2 : (((((cs.toList.drop (r * 2)).take 2).drop 1).take 1))[0]? = some (.int .i64 z) := by rw [hz]; rfl
    simp only [List.getElem?_take, List.getElem?_drop] at h2
    rw [Nat.mul_comm]
    simpa using h2
  exact ⟨by rw [World.var?_cell hg hv (2 * r)]; simpa using ga, by rw [World.var?_cell hg hv (2 * r + 1)]; simpa using gb⟩

end Go.Proofs.YtehnailokgoekaaDoor
