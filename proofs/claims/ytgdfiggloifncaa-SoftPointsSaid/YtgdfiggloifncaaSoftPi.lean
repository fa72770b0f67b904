/- Scripts that came in, as lists. Conditions: those stated in each theorem. -/
import Derived.Test.YtgdfiggloifncaaSoftPx
import Derived.Test.YtgdfiggloifncaaCame2
import Derived.ChangeArms
namespace Go.Proofs.Ytgdfiggloifncaa
open Go.ChangeShapes Go.WideShapes Go.ChangeAt Go.RowKit Go.Deep

theorem three_of {cs : Array Value} (h : cs.size = 3) : ∃ a b c, cs = #[a, b, c] := by
  obtain ⟨l⟩ := cs
  match l, h with
  | [a, b, c], _ => exact ⟨a, b, c, rfl⟩
theorem u8_range {n : Int} (h : (Lit.int .u8 n).wf = true) : 0 ≤ n ∧ n ≤ 255 := by
  simp only [Lit.wf, Bool.and_eq_true, decide_eq_true_eq] at h
  exact h
section
variable {H : Type} {enc : TypeId × Value → H} {W : World} {base : Nat} {spare : Nat → Bool} {held : Bool}
theorem pick_in {fuel : Nat} {cs : List Value} {r : DataW H × List MemPlace} (hf : DataW.trod enc Try.prog W base spare held fuel 5 cs = some r) : ∃ x : Int, pcell x = cs ∧ 0 ≤ x ∧ x ≤ 255 := by
  obtain ⟨a, e0, _, wa⟩ := DataW.trod_int Try.underlying5 hf
  exact ⟨a, e0.symm, u8_range wa⟩
theorem opq_in {fuel : Nat} {cs : List Value} {r : DataW H × List MemPlace} (hf : DataW.trod enc Try.prog W base spare held fuel 36 cs = some r) (hl : cs.length = 4) : ∃ x : OpQ, x.cells = cs ∧ x.good := by
  match cs, hl with
  | [c0, c1, c2, c3], _ =>
    obtain ⟨xs, n, _, _, _, hxs, hF⟩ := DataW.trod_struct Try.underlying36 hf
    have f0 := hF 0 _ rfl
    have f1 := hF 1 _ rfl
    have f2 := hF 2 _ rfl
    have f3 := hF 3 _ rfl
    rw [List.getElem?_eq_getElem (by rw [hxs]; decide)] at f0 f1 f2 f3
    have g0 : DataW.trod enc Try.prog W base spare held n 3 (([c0, c1, c2, c3].drop 0).take (Try.prog.cellsOf 3)) = some _ := f0
    have g1 : DataW.trod enc Try.prog W base spare held n 3 (([c0, c1, c2, c3].drop 1).take (Try.prog.cellsOf 3)) = some _ := f1
    have g2 : DataW.trod enc Try.prog W base spare held n 26 (([c0, c1, c2, c3].drop 2).take (Try.prog.cellsOf 26)) = some _ := f2
    have g3 : DataW.trod enc Try.prog W base spare held n 4 (([c0, c1, c2, c3].drop 3).take (Try.prog.cellsOf 4)) = some _ := f3
    rw [show Try.prog.cellsOf 3 = 1 from by kernel_rfl] at g0 g1
    rw [show Try.prog.cellsOf 4 = 1 from by kernel_rfl] at g3
    rw [show Try.prog.cellsOf 26 = 1 from by kernel_rfl] at g2
    simp only [List.drop_zero, List.drop_succ_cons, List.take_succ_cons, List.take_zero] at g0 g1 g2 g3
    obtain ⟨k, e0, _, wk⟩ := DataW.trod_int Try.underlying3 g0
    obtain ⟨a, e1, _, wa⟩ := DataW.trod_int Try.underlying3 g1
    obtain ⟨v, e2, _, wv⟩ := DataW.trod_int Try.underlying26 g2
    obtain ⟨s, e3, _⟩ := DataW.trod_bool Try.underlying4 g3
    cases e0
    cases e1
    cases e2
    cases e3
    exact ⟨⟨k, a, v, s⟩, rfl, wk, wa, wv⟩
def RowQ.ok (w : World) (r : RowQ) : Prop := RowsIn w r.a 4 OpQ.cells r.xs ∧ ∀ q ∈ r.xs, q.good
theorem rowq_in {fuel : Nat} {cs : List Value} {r : DataW H × List MemPlace} (hf : DataW.trod enc Try.prog W base spare held fuel 22 cs = some r) (hl : cs.length = 1) : ∃ x : RowQ, x.cells = cs ∧ x.ok W := by
  match cs, hl with
  | [c0], _ =>
    rcases open_slice Try.underlying22 hf with ⟨h0, _⟩ | ⟨b, l, c, _, _, _, _, hcs, _⟩
    · cases h0
      exact ⟨⟨none, 0, []⟩, rfl, .inl rfl, fun o ho => by cases ho⟩
    · cases hcs
      obtain ⟨_, os, h1, h2, h3⟩ := rows_deep (N := 4) (cells := OpQ.cells) (Pp := OpQ.good) Try.underlying22 (by kernel_rfl) (by omega) (fun n cs y hy hl => opq_in hy hl) hf
      subst h1
      exact ⟨⟨some b, c, os⟩, rfl, h2, h3⟩
theorem mix_in {fuel : Nat} {x y z : Value} {r : DataW H × List MemPlace} (hf : DataW.trod enc Try.prog W base spare held fuel 65 [x, y, z] = some r) :
    ∃ seq pa rows pc ka picks kc, x = .int .u64 seq ∧ y = .slice pa (List.length rows) pc ∧ z = .slice ka (List.length picks) kc ∧ W64 seq ∧ RowsIn W pa 1 RowQ.cells rows ∧ (∀ r ∈ rows, r.ok W) ∧ List.length rows ≤ maxLen ∧ RowsIn W ka 1 pcell picks ∧ ∀ k ∈ picks, 0 ≤ k ∧ k ≤ 255 := by
  obtain ⟨xs, n, _, _, _, hxs, hF⟩ := DataW.trod_struct Try.underlying65 hf
  have f0 := hF 0 _ rfl
  have f1 := hF 1 _ rfl
  have f2 := hF 2 _ rfl
  rw [List.getElem?_eq_getElem (by rw [hxs]; decide)] at f0 f1 f2
  have g0 : DataW.trod enc Try.prog W base spare held n 26 (([x, y, z].drop 0).take (Try.prog.cellsOf 26)) = some _ := f0
  have g1 : DataW.trod enc Try.prog W base spare held n 62 (([x, y, z].drop 1).take (Try.prog.cellsOf 62)) = some _ := f1
  have g2 : DataW.trod enc Try.prog W base spare held n 63 (([x, y, z].drop 2).take (Try.prog.cellsOf 63)) = some _ := f2
  rw [show Try.prog.cellsOf 26 = 1 from by kernel_rfl] at g0
  rw [show Try.prog.cellsOf 62 = 1 from by kernel_rfl] at g1
  rw [show Try.prog.cellsOf 63 = 1 from by kernel_rfl] at g2
  simp only [List.drop_zero, List.drop_succ_cons, List.take_succ_cons, List.take_zero] at g0 g1 g2
  obtain ⟨seq, e0, _, wv⟩ := DataW.trod_int Try.underlying26 g0
  cases e0
  have hrows : ∃ pa rows pc, y = .slice pa (List.length rows) pc ∧ RowsIn W pa 1 RowQ.cells rows ∧ (∀ r ∈ rows, r.ok W) ∧ List.length rows ≤ maxLen := by
    rcases open_slice Try.underlying62 g1 with ⟨h0, _⟩ | ⟨b, l, c, _, _, _, _, hcs, _⟩
    · cases h0
      exact ⟨none, [], 0, rfl, .inl rfl, (fun o ho => by cases ho), Nat.zero_le _⟩
    · cases hcs
      obtain ⟨h0, os, h1, h2, h3⟩ := rows_deep (N := 1) (cells := RowQ.cells) (Pp := RowQ.ok W) Try.underlying62 (by kernel_rfl) (by omega) (fun n cs y hy hl => rowq_in hy hl) g1
      subst h1
      exact ⟨some b, os, c, rfl, h2, h3, h0⟩
  have hpicks : ∃ ka picks kc, z = .slice ka (List.length picks) kc ∧ RowsIn W ka 1 pcell picks ∧ ∀ k ∈ picks, 0 ≤ k ∧ k ≤ 255 := by
    rcases open_slice Try.underlying63 g2 with ⟨h0, _⟩ | ⟨b, l, c, _, _, _, _, hcs, _⟩
    · cases h0
      exact ⟨none, [], 0, rfl, .inl rfl, fun o ho => by cases ho⟩
    · cases hcs
      obtain ⟨_, os, h1, h2, h3⟩ := rows_deep (N := 1) (cells := pcell) (Pp := fun k : Int => 0 ≤ k ∧ k ≤ 255) Try.underlying63 (by kernel_rfl) (by omega) (fun n cs y hy hl => pick_in hy) g2
      subst h1
      exact ⟨some b, os, c, rfl, h2, h3⟩
  obtain ⟨pa, rows, pc, ey, hr1, hr2, hr3⟩ := hrows
  obtain ⟨ka, picks, kc, ez, hk1, hk2⟩ := hpicks
  exact ⟨seq, pa, rows, pc, ka, picks, kc, rfl, ey, ez, wv, hr1, hr2, hr3, hk1, hk2⟩
end

end Go.Proofs.Ytgdfiggloifncaa
