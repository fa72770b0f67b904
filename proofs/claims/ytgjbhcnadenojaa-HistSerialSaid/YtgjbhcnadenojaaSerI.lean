/- Blocks that came in, as lists. Conditions: those stated in each theorem. -/
import Derived.Test.YtgjbhcnadenojaaSerH
import Derived.Test.YtgjbhcnadenojaaCame2
import Derived.Test.YtgjbhcnadenojaaHisIn
import Derived.ChangeArms
namespace Go.Proofs.Ytgjbhcnadenojaa
open Go.ChangeShapes Go.WideShapes Go.ChangeAt Go.RowKit Go.Deep

section
variable {H : Type} {enc : TypeId × Value → H} {W : World} {base : Nat} {spare : Nat → Bool} {held : Bool}
theorem op3_in {fuel : Nat} {cs : List Value} {r : DataW H × List MemPlace} (hf : DataW.trod enc Try.prog W base spare held fuel 105 cs = some r) (hl : cs.length = 3) : ∃ x : Op3, x.cells = cs ∧ (Lit.int .u64 x.va).wf = true := by
  match cs, hl with
  | [c0, c1, c2], _ =>
    obtain ⟨xs, n, _, _, _, hxs, hF⟩ := DataW.trod_struct Try.underlying105 hf
    have f0 := hF 0 _ rfl
    have f1 := hF 1 _ rfl
    have f2 := hF 2 _ rfl
    rw [List.getElem?_eq_getElem (by rw [hxs]; decide)] at f0 f1 f2
    have g0 : DataW.trod enc Try.prog W base spare held n 3 (([c0, c1, c2].drop 0).take (Try.prog.cellsOf 3)) = some _ := f0
    have g1 : DataW.trod enc Try.prog W base spare held n 4 (([c0, c1, c2].drop 1).take (Try.prog.cellsOf 4)) = some _ := f1
    have g2 : DataW.trod enc Try.prog W base spare held n 46 (([c0, c1, c2].drop 2).take (Try.prog.cellsOf 46)) = some _ := f2
    rw [show Try.prog.cellsOf 3 = 1 from by kernel_rfl] at g0
    rw [show Try.prog.cellsOf 4 = 1 from by kernel_rfl] at g1
    rw [show Try.prog.cellsOf 46 = 1 from by kernel_rfl] at g2
    simp only [List.drop_zero, List.drop_succ_cons, List.take_succ_cons, List.take_zero] at g0 g1 g2
    obtain ⟨a, e0, _, _⟩ := DataW.trod_int Try.underlying3 g0
    obtain ⟨s, e1, _⟩ := DataW.trod_bool Try.underlying4 g1
    obtain ⟨v, e2, _, wv⟩ := DataW.trod_int Try.underlying46 g2
    cases e0
    cases e1
    cases e2
    exact ⟨⟨a, s, v⟩, rfl, wv⟩
theorem op3s_in {fuel : Nat} {a : Option Addr} {len cap : Nat} {z : DataW H × List MemPlace} (h : DataW.trod enc Try.prog W base spare held fuel 101 [.slice a len cap] = some z) : ∃ xs : List Op3, xs.length = len ∧ RowsIn W a 3 Op3.cells xs ∧ ∀ x ∈ xs, (Lit.int .u64 x.va).wf = true := by
  obtain ⟨_, xs, h1, h2, h3⟩ := rows_deep (N := 3) (cells := Op3.cells) (Pp := fun x : Op3 => (Lit.int .u64 x.va).wf = true) Try.underlying101 (by kernel_rfl) (by omega) (fun n cs y hy hl => op3_in hy hl) h
  exact ⟨xs, h1, h2, h3⟩
def BkV.ok (w : World) (x : BkV) : Prop := RowsIn w x.a 3 Op3.cells x.b.ops ∧ x.b.Fit
theorem bk_in {fuel : Nat} {cs : List Value} {r : DataW H × List MemPlace} (hf : DataW.trod enc Try.prog W base spare held fuel 103 cs = some r) (hl : cs.length = 4) : ∃ x : BkV, x.cells = cs ∧ x.ok W := by
  match cs, hl with
  | [c0, c1, c2, c3], _ =>
    obtain ⟨xs, n, _, _, _, hxs, hF⟩ := DataW.trod_struct Try.underlying103 hf
    have f0 := hF 0 _ rfl
    have f1 := hF 1 _ rfl
    have f2 := hF 2 _ rfl
    have f3 := hF 3 _ rfl
    rw [List.getElem?_eq_getElem (by rw [hxs]; decide)] at f0 f1 f2 f3
    have g0 : DataW.trod enc Try.prog W base spare held n 3 (([c0, c1, c2, c3].drop 0).take (Try.prog.cellsOf 3)) = some _ := f0
    have g1 : DataW.trod enc Try.prog W base spare held n 3 (([c0, c1, c2, c3].drop 1).take (Try.prog.cellsOf 3)) = some _ := f1
    have g2 : DataW.trod enc Try.prog W base spare held n 101 (([c0, c1, c2, c3].drop 2).take (Try.prog.cellsOf 101)) = some _ := f2
    have g3 : DataW.trod enc Try.prog W base spare held n 4 (([c0, c1, c2, c3].drop 3).take (Try.prog.cellsOf 4)) = some _ := f3
    rw [show Try.prog.cellsOf 3 = 1 from by kernel_rfl] at g0 g1
    rw [show Try.prog.cellsOf 4 = 1 from by kernel_rfl] at g3
    rw [show Try.prog.cellsOf 101 = 1 from by kernel_rfl] at g2
    simp only [List.drop_zero, List.drop_succ_cons, List.take_succ_cons, List.take_zero] at g0 g1 g2 g3
    obtain ⟨co, e0, _, _⟩ := DataW.trod_int Try.underlying3 g0
    obtain ⟨la, e1, _, _⟩ := DataW.trod_int Try.underlying3 g1
    obtain ⟨ab, e3, _⟩ := DataW.trod_bool Try.underlying4 g3
    cases e0
    cases e1
    cases e3
    rcases open_slice Try.underlying101 g2 with ⟨h0, _⟩ | ⟨b, l, c, _, _, _, _, hcs, _⟩
    · cases h0
      exact ⟨⟨⟨co, la, [], ab⟩, none, 0⟩, rfl, .inl rfl, ⟨fun o ho => by cases ho⟩⟩
    · cases hcs
      obtain ⟨os, h1, h2, h3⟩ := op3s_in g2
      subst h1
      exact ⟨⟨⟨co, la, os, ab⟩, some b, c⟩, rfl, h2, ⟨h3⟩⟩
theorem bks_in {fuel : Nat} {a : Option Addr} {len cap : Nat} {z : DataW H × List MemPlace} (h : DataW.trod enc Try.prog W base spare held fuel 64 [.slice a len cap] = some z) : ∃ xs : List BkV, xs.length = len ∧ BksIn W a xs ∧ ∀ x ∈ xs, x.b.Fit := by
  obtain ⟨_, xs, h1, h2, h3⟩ := rows_deep (N := 4) (cells := BkV.cells) (Pp := BkV.ok W) Try.underlying64 (by kernel_rfl) (by omega) (fun n cs y hy hl => bk_in hy hl) h
  exact ⟨xs, h1, ⟨h2, fun x hx => (h3 x hx).1⟩, fun x hx => (h3 x hx).2⟩
end

end Go.Proofs.Ytgjbhcnadenojaa
