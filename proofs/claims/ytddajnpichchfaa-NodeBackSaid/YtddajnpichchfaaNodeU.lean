/- How much a node's numbers grow in a step: plain facts. Conditions: those stated in each theorem. -/
import Derived.Test.YtddajnpichchfaaNodeT
namespace Go.Proofs.Ytddajnpichchfaa

structure Grow (a : Int) (b : Nat) (n n' : Nd) : Prop where
  lines : n'.lines = n.lines
  core : n'.core = n.core
  u : n'.u ≤ n.u + a
  backs : n'.backs.length ≤ n.backs.length + b
theorem Grow.refl (n : Nd) : Grow 0 0 n n := ⟨rfl, rfl, by omega, by omega⟩
theorem Grow.trans {a a' : Int} {b b' : Nat} {n1 n2 n3 : Nd} (h : Grow a b n1 n2) (k : Grow a' b' n2 n3) : Grow (a + a') (b + b') n1 n3 :=
  ⟨k.lines.trans h.lines, k.core.trans h.core, by have := h.u; have := k.u; omega, by have := h.backs; have := k.backs; omega⟩
theorem Grow.mono {a a' : Int} {b b' : Nat} {n n' : Nd} (h : Grow a b n n') (ha : a ≤ a') (hb : b ≤ b') : Grow a' b' n n' := ⟨h.lines, h.core, by have := h.u; omega, by have := h.backs; omega⟩
theorem sortL_len (l : List Int) : (sortL l).length = l.length := by rw [← sortL_eq]; simp
theorem gr_ask (n : Nd) (k l : Int) : Grow 0 0 n (n.ask k l).1 := by unfold Nd.ask; split <;> exact ⟨rfl, rfl, by simp, by simp⟩
theorem gr_mark (n : Nd) (l : Int) (w : Bool) : Grow 0 0 n (n.mark l w) := by unfold Nd.mark; split <;> exact ⟨rfl, rfl, by simp, by simp⟩
theorem gr_abort (n : Nd) (c : Int) : Grow 0 0 n (n.abort c) := ⟨rfl, rfl, by simp [Nd.abort], by simp [Nd.abort]⟩
theorem gr_lose (n : Nd) (l : Int) : Grow 0 0 n (n.lose l) := by unfold Nd.lose; split <;> exact gr_abort _ _
theorem gr_dropL (n : Nd) (l : Int) : Grow 0 0 n (n.dropL l) := ⟨rfl, rfl, by simp [Nd.dropL], by simp [Nd.dropL]⟩
theorem gr_letGo (n : Nd) (e : Ent) : Grow 0 1 n (n.letGo e).1 := by
  unfold Nd.letGo; split
  · exact ⟨rfl, rfl, by simp, by simp [sortL_len]⟩
  · exact ⟨rfl, rfl, by simp, by simp⟩
theorem fillL_u (ss : Sets) (u k st : Int) (d : L8) : (fillL ss u k st d).2.1 ≤ u + 1 := by unfold fillL; (repeat' split) <;> simp <;> omega
theorem wordL_u1 (ss : Sets) (u k : Int) : (wordL ss u k).2.1 ≤ u + 1 := by unfold wordL; (repeat' split) <;> simp <;> omega
theorem putL_u1 (ss : Sets) (u k v : Int) : (putL ss u k v).2.1 ≤ u + 1 := by unfold putL; (repeat' split) <;> simp <;> omega
theorem gr_fillL (n : Nd) (l st : Int) (d : L8) : Grow 1 0 n (n.fillL l st d) := ⟨rfl, rfl, fillL_u _ _ _ _ _, by simp [Nd.fillL]⟩
theorem gr_fill (n : Nd) (l st : Int) (d : L8) : Grow 1 1 n (n.fill l st d).1 := by
  unfold Nd.fill; split
  · exact ((gr_abort n 3).trans ((gr_fillL _ l st d).trans (gr_letGo _ _))).mono (by omega) (by omega)
  · exact ((gr_fillL n l st d).trans (gr_letGo _ _)).mono (by omega) (by omega)
theorem gr_take (n : Nd) (m : MsgV) : Grow 1 1 n (n.take m).1 := by
  have hG : ∀ st, Grow 1 1 n (n.hearG m st).1 := fun st => by
    unfold Nd.hearG; dsimp only; split
    · exact ⟨rfl, rfl, by simp; omega, by simp⟩
    · have h := gr_fill { n with out := MsgV.zero } m.line st m.data
      exact ⟨h.lines, h.core, h.u, h.backs⟩
  unfold Nd.take
  split
  · unfold Nd.hearInv; split
    · dsimp only; split
      · exact ((gr_lose n m.line).trans (gr_dropL _ _)).mono (by omega) (by omega)
      · exact (gr_dropL _ _).mono (by omega) (by omega)
    · exact (Grow.refl n).mono (by omega) (by omega)
  split
  · unfold Nd.hearRS; split
    · dsimp only; split
      · have h := gr_lose n m.line; exact ⟨h.lines, h.core, by have := h.u; show (n.lose m.line).u ≤ _; omega, by have := h.backs; show (n.lose m.line).backs.length ≤ _; omega⟩
      · exact ⟨rfl, rfl, by simp; omega, by simp⟩
    · exact (Grow.refl n).mono (by omega) (by omega)
  split
  · unfold Nd.hearRM; split
    · dsimp only; split
      · exact ((gr_lose n m.line).trans (gr_dropL _ _)).mono (by omega) (by omega)
      · exact (gr_dropL _ _).mono (by omega) (by omega)
    · exact (Grow.refl n).mono (by omega) (by omega)
  split
  · exact hG _
  split
  · exact hG _
  · exact ⟨rfl, rfl, by simp [Nd.hearPA]; omega, by simp only [Nd.hearPA]; have := List.length_filter_le (fun b => !(b == m.line)) n.backs; omega⟩
theorem gr_step (n : Nd) (x : StepN) : Grow 2 1 n (n.step x).1 := by
  have h0 : Grow 2 1 n n := (Grow.refl n).mono (by omega) (by omega)
  unfold Nd.step
  split
  · dsimp only; unfold Nd.load; split
    · exact h0
    split
    · exact (gr_ask _ _ _).mono (by omega) (by omega)
    · have h := gr_mark n (x.n / 8) false
      exact ⟨h.lines, h.core, by have := wordL_u1 (n.mark (x.n / 8) false).ss n.u x.n; show (wordL (n.mark (x.n / 8) false).ss n.u x.n).2.1 ≤ _; omega, by have := h.backs; show (n.mark (x.n / 8) false).backs.length ≤ _; omega⟩
  split
  · dsimp only; unfold Nd.store; split
    · exact h0
    split
    · exact (gr_ask _ _ _).mono (by omega) (by omega)
    · have h := gr_mark n (x.n / 8) true
      exact ⟨h.lines, h.core, by have := putL_u1 (n.mark (x.n / 8) true).ss n.u x.n x.v; show (putL (n.mark (x.n / 8) true).ss n.u x.n x.v).2.1 ≤ _; omega, by have := h.backs; show (n.mark (x.n / 8) true).backs.length ≤ _; omega⟩
  split
  · dsimp only; unfold Nd.cas; split
    · exact h0
    split
    · exact h0
    split
    · exact (gr_ask _ _ _).mono (by omega) (by omega)
    split
    · exact ⟨rfl, rfl, by have := wordL_u1 n.ss n.u x.n; show (wordL n.ss n.u x.n).2.1 ≤ _; omega, by simp⟩
    · exact ⟨rfl, rfl, by have := wordL_u1 n.ss n.u x.n; have := putL_u1 (wordL n.ss n.u x.n).1 (wordL n.ss n.u x.n).2.1 x.n x.v; show (putL (wordL n.ss n.u x.n).1 (wordL n.ss n.u x.n).2.1 x.n x.v).2.1 ≤ _; omega, by simp⟩
  split
  · dsimp only; unfold Nd.begin; split
    · exact h0
    · exact ⟨rfl, rfl, by simp; omega, by simp⟩
  split
  · dsimp only; unfold Nd.commit; split
    · exact ⟨rfl, rfl, by simp; omega, by simp⟩
    · exact h0
  split
  · dsimp only; unfold Nd.abortC; split
    · split
      · exact h0
      · exact (gr_abort _ _).mono (by omega) (by omega)
    · exact h0
  split
  · dsimp only; unfold Nd.hear; split
    · exact h0
    · exact (gr_take _ _).mono (by omega) (by omega)
  split
  · dsimp only; unfold Nd.drop; split
    · exact h0
    split
    · exact h0
    · dsimp only; split
      · exact (((gr_abort n 4).trans (gr_dropL _ _)).trans (gr_letGo _ _)).mono (by omega) (by omega)
      · exact ((gr_dropL n _).trans (gr_letGo _ _)).mono (by omega) (by omega)
  · exact h0
theorem gr_play : ∀ (xs : List StepN) (n : Nd), Grow (2 * xs.length) xs.length n (n.play xs)
  | [], n => (Grow.refl n).mono (by simp) (by simp)
  | x :: xs, n => by
    have h := (gr_step n x).trans (gr_play xs (n.step x).1)
    exact h.mono (by simp; omega) (by simp; omega)
theorem ni_play {k ways : Nat} : ∀ (xs : List StepN) {n : Nd}, NI k ways n → NI k ways (n.play xs)
  | [], _, h => h
  | x :: xs, _, h => ni_play xs (h.step x)
theorem play_take (xs : List StepN) (n : Nd) {k : Nat} {x : StepN} (h : xs[k]? = some x) : n.play (xs.take (k + 1)) = ((n.play (xs.take k)).step x).1 := by
  simp [Nd.play, List.take_add_one, h]

/-! ### All -/
theorem mem_all {n : Nd} {e : Ent} (h : e ∈ n.all) : ∃ l : Int, 0 ≤ l ∧ findX n.ss l = (e, true) := by
  unfold Nd.all at h
  rw [List.mem_filterMap] at h
  obtain ⟨j, _, hj⟩ := h
  split at hj
  · rename_i hh
    simp only [Option.some.injEq] at hj
    exact ⟨j, by omega, by rw [← hj, ← hh]⟩
  · cases hj
theorem all_len (n : Nd) : n.all.length ≤ n.lines.toNat := by
  unfold Nd.all
  exact Nat.le_trans (List.length_filterMap_le _ _) (by simp)
theorem NI.all_find {k ways : Nat} {n : Nd} (h : NI k ways n) {e : Ent} (he : e ∈ n.all) : findX n.ss e.line = (e, true) := by
  obtain ⟨l, _, hl⟩ := mem_all he
  obtain ⟨i, j, hf, hg⟩ := findX_of hl
  obtain ⟨_, _, _, _, _, h6⟩ := h.inv.finds_some h.k1 hf
  rw [hg] at h6
  rw [h6, hl]
theorem NI.all_marks {k ways : Nat} {n : Nd} (h : NI k ways n) {e : Ent} (he : e ∈ n.all) : MarkQ n.live e := by
  obtain ⟨l, _, hl⟩ := mem_all he
  obtain ⟨i, j, _, hg⟩ := findX_of hl
  rw [← hg]
  exact h.marks i j

end Go.Proofs.Ytddajnpichchfaa
