/- hist: the story's add. Conditions: those stated in each theorem. -/
import Derived.Test.YtgjbhcnadenojaaHisI
namespace Go.Proofs.Ytgjbhcnadenojaa
open Go.RowKit Go.BigFrame Go.Maps

theorem Try.infoKnown : (Try.prog.info? 78).map (fun i => (i.zero, i.size, i.bytes)) = some (some (.agg #[.int .i64 0, .int .i64 0, .int .i64 0, .int .i64 0, .int .i64 0, .int .i64 0, .int .i64 0, .slice none 0 0, .slice none 0 0, .bool false, .int .i64 0, .map none, .map none, .bool false]), 14, 144) := by kernel_rfl
theorem plOf_nil : plOf [] = Mp.none := by funext a; rfl
/-- What add leaves. -/
def AddO (w0 : World) (c : SC) (ks : List Kn) (w' : World) : Prop := ∃ l' va', l'.map (·.k) = ks ∧ Ap w0 w' { c with l := l', va := va' }.pf

section
variable {w0 w : World} {c : SC} {i g : Nat} {x : KC}
theorem SC.va_any (h : Ap w0 w c.pf) : ∃ ad cap, c.va = .slice ad c.l.length cap ∧ ∀ k, c.va.ownBlock = some k → k ≠ c.p := by
  obtain ⟨T, ⟨h1, _⟩, _⟩ := h.get (i := Ix.att) rfl
  have hn : ∀ k, c.va.ownBlock = some k → k ≠ c.p := fun k e e2 => by
    subst e2
    obtain ⟨c2, hc2⟩ := owns_kind h1 e
    have := SC.sto h
    unfold Holds at this
    rw [hc2] at this
    cases this
  rcases owns_form h1 with ⟨h1, h2, _⟩ | ⟨g, cap, h1, _⟩
  · exact ⟨none, 0, by rw [h1, h2], hn⟩
  · exact ⟨_, _, h1, hn⟩
/-- A new attempt in its row, and the story's cell. -/
theorem SC.snoc (h : Ap w0 w c.pf) {w1 w2 : World} (h1 : Below w.heap.size w w1) {y : KC} (hk : y.k.ld = [] ∧ y.k.st = [] ∧ y.lv = .slice none 0 0 ∧ y.sv = .slice none 0 0) (m1 : MpAt w1 3 .i64 y.lb 0 Mp.none) (m2 : MpAt w1 3 .i64 y.sb 0 Mp.none) (hne : y.lb ≠ y.sb) (g1 : w.heap.size ≤ y.lb) (g2 : w.heap.size ≤ y.sb)
    {va' : Value} (hr : w2.ownsRow 0 78 14 va' (c.l.length + 1) (flatK c.l ++ y.cells)) {w1' : World} (hw1 : Below w1.heap.size w1 w1') (hg : w1'.grownBy w2 c.va.ownBlock) (hat : ∀ k, va'.ownBlock = some k → c.va.ownBlock = some k ∨ w1'.heap.size ≤ k) :
    Ap w0 (w2.setCell ⟨c.p, 1, none⟩ va') { c with l := c.l ++ [y], va := va' }.pf := by
  have hpn : c.l[c.l.length]? = none := List.getElem?_eq_none (Nat.le_refl _)
  have a1 : Ap w0 w1 _ := h.push2 (i := Ix.ldm c.l.length) (j := Ix.stm c.l.length) (P := mapP 3 .i64 y.lb 0 Mp.none) (P' := mapP 3 .i64 y.sb 0 Mp.none) (by simp only [SC.pf, hpn, Option.map_none]) (by simp only [SC.pf, hpn, Option.map_none]) (by simp) h1 hne ⟨g1, m1.lt⟩ ⟨g2, m2.lt⟩ ⟨m1, rfl⟩ ⟨m2, rfl⟩
  have a2 := a1.push (i := Ix.ldr c.l.length) (P := rowP (.slice none 0 0) 48 2 0 []) (by simp [SC.pf, upd, hpn]) (Below.refl _ _) ⟨World.ownsRow_nil _ _ _ _, fun g e => by cases e⟩
  have a3 := a2.push (i := Ix.str c.l.length) (P := rowP (.slice none 0 0) 48 2 0 []) (by simp [SC.pf, upd, hpn]) (Below.refl _ _) ⟨World.ownsRow_nil _ _ _ _, fun g e => by cases e⟩
  have a4 := a3.idle hw1
  obtain ⟨T, t1, -, t3⟩ := a4.turn (i := Ix.att) (P := rowP c.va 78 14 c.l.length (flatK c.l)) (by simp [SC.pf, upd])
  have a5 := t3 w2 _ (rowP.grew t1 hr hg hat)
  obtain ⟨T2, u1, -, u3⟩ := a5.turn (i := Ix.sto) (P := cellsP c.p 75 [c.ev, c.va, c.vp]) (by simp [SC.pf, upd])
  have a6 := u3 _ _ (cellsP.set u1 1 va')
  refine a6.cong (fun m => ?_)
  obtain ⟨k1, k2, k3, k4⟩ := hk
  cases m <;> simp only [SC.pf, upd, reduceCtorEq, if_false, if_true, List.length_append, List.length_singleton, flatK_snoc, Ix.ldr.injEq, Ix.ldm.injEq, Ix.str.injEq, Ix.stm.injEq, List.set_cons_succ, List.set_cons_zero]
  all_goals
    split
    · rename_i hm; subst hm; simp [ldrP, ldmP, strP, stmP, k1, k2, k3, k4, flatP, plOf_nil]
    · rename_i ix hm
      by_cases hlt : ix < c.l.length
      · rw [List.getElem?_append_left hlt]
      · rw [List.getElem?_eq_none (by simp; omega), List.getElem?_eq_none (by omega)]
end

end Go.Proofs.Ytgjbhcnadenojaa
