/- The law's kept lists. Conditions: those stated in each theorem. -/
import Derived.Test.YtfngfphoefpndaaLogS
namespace Go.Proofs.Ytfngfphoefpndaa
open Go.RowKit Go.BigFrame Go.Maps

theorem Try.infoRow : (Try.prog.info? 26).map (fun i => (i.zero, i.size, i.bytes)) = some (some (.slice none 0 0), 1, 24) := by kernel_rfl

structure KpPt (w : World) (K : Nat → Prop) (t m n : Nat) (tv uv : Value) (T U : List Value) : Prop where
  head : Holds w t 32 [tv, uv]
  kh : K t
  rt : w.ownsRow 0 26 1 tv m T
  ru : w.ownsRow 0 26 1 uv n U
  kt : ∀ g, tv.ownBlock = some g → K g
  ku : ∀ g, uv.ownBlock = some g → K g
  ne : ∀ g, tv.ownBlock = some g → uv.ownBlock ≠ some g
  each : ∀ (i : Nat) (x y : Value), T[i]? = some x → U[i]? = some y → ∃ l : List Pr, l.length ≤ 200 ∧ RowL w 0 x l ∧ RowL w 0 y l ∧ (∀ g, x.ownBlock = some g → K g) ∧ (∀ g, y.ownBlock = some g → K g)
/-- The kept lists at t, n of them, in the blocks K. -/
def KpAt (w : World) (K : Nat → Prop) (t n : Nat) : Prop := ∃ tv uv T U, KpPt w K t n n tv uv T U

section
variable {w w2 : World} {K C : Nat → Prop} {t m n : Nat} {tv uv : Value} {T U : List Value}
theorem KpPt.frame (h : KpPt w K t m n tv uv T U) (ht : Tch C w w2) (hC : ∀ k, K k → ¬ C k) : KpPt w2 K t m n tv uv T U :=
  ⟨ht.holds (hC _ h.kh) h.head, h.kh, owns_same h.rt (fun g e => ht.block g (owns_lt h.rt e).2 (hC g (h.kt g e))), owns_same h.ru (fun g e => ht.block g (owns_lt h.ru e).2 (hC g (h.ku g e))), h.kt, h.ku, h.ne, fun i x y hx hy => by
    obtain ⟨l, h0, h1, h2, h3, h4⟩ := h.each i x y hx hy
    exact ⟨l, h0, h1.keep ht (fun g e => hC g (h3 g e)), h2.keep ht (fun g e => hC g (h4 g e)), h3, h4⟩⟩
theorem KpPt.more {K' : Nat → Prop} (h : KpPt w K t m n tv uv T U) (hK : ∀ k, K k → K' k) : KpPt w K' t m n tv uv T U :=
  ⟨h.head, hK _ h.kh, h.rt, h.ru, fun g e => hK g (h.kt g e), fun g e => hK g (h.ku g e), h.ne, fun i x y hx hy => by
    obtain ⟨l, h0, h1, h2, h3, h4⟩ := h.each i x y hx hy
    exact ⟨l, h0, h1, h2, fun g e => hK g (h3 g e), fun g e => hK g (h4 g e)⟩⟩
theorem KpPt.idle (h : KpPt w K t m n tv uv T U) (hb : Below w.heap.size w w2) : KpPt w2 K t m n tv uv T U := h.frame (C := fun _ => False) (Tch.of_idle hb) (fun _ _ h => h)
theorem KpAt.frame (h : KpAt w K t n) (ht : Tch C w w2) (hC : ∀ k, K k → ¬ C k) : KpAt w2 K t n := by
  obtain ⟨tv, uv, T, U, h⟩ := h
  exact ⟨tv, uv, T, U, h.frame ht hC⟩
theorem KpAt.idle (h : KpAt w K t n) (hb : Below w.heap.size w w2) : KpAt w2 K t n := h.frame (C := fun _ => False) (Tch.of_idle hb) (fun _ _ h => h)

/-- A row of rows is no row of pairs. -/
theorem RowL.apart {lo lo2 : Nat} {v : Value} {l : List Pr} (h : RowL w lo v l) {u : Value} {k : Nat} {L : List Value} (hu : w.ownsRow lo2 26 1 u k L) {g : Nat} (hg : u.ownBlock = some g) : v.ownBlock ≠ some g := fun e => by
  obtain ⟨c, hc⟩ := owns_kind h e
  obtain ⟨c2, hc2⟩ := owns_kind hu hg
  rw [hc] at hc2; cases hc2
theorem RowL.grown {lo lo2 : Nat} {v : Value} {l : List Pr} (h : RowL w lo v l) {u : Value} {k : Nat} {L : List Value} (hu : w.ownsRow lo2 26 1 u k L) (hg : w.grownBy w2 u.ownBlock) : RowL w2 lo v l :=
  h.same (fun g e => hg.block g (h.lt e).2 (fun e2 => h.apart hu e2.symm e))
theorem head_grown {L L2 : List Value} {u : Value} {k lo : Nat} (h : Holds w t 32 L2) (hu : w.ownsRow lo 26 1 u k L) (hg : w.grownBy w2 u.ownBlock) : Holds w2 t 32 L2 :=
  h.same (hg.block t h.lt (fun e => by
    obtain ⟨c, hc⟩ := owns_kind hu e.symm
    unfold Holds at h; rw [hc] at h; cases h))
theorem owns_head {L L2 : List Value} {u : Value} {k lo : Nat} (h : Holds w t 32 L2) (hu : w.ownsRow lo 26 1 u k L) (j : Nat) (x : Value) : (w.setCell ⟨t, j, none⟩ x).ownsRow lo 26 1 u k L :=
  owns_same hu (fun g e => Below.heap_setCell w ⟨t, j, none⟩ x g (fun e2 => by
    obtain ⟨c, hc⟩ := owns_kind hu e
    simp only at e2
    subst e2
    unfold Holds at h; rw [hc] at h; cases h))
theorem RowL.head {lo : Nat} {v : Value} {l : List Pr} {L2 : List Value} (hr : RowL w lo v l) (h : Holds w t 32 L2) (j : Nat) (x : Value) : RowL (w.setCell ⟨t, j, none⟩ x) lo v l :=
  hr.same (fun g e => Below.heap_setCell w ⟨t, j, none⟩ x g (hr.other h (by decide) g e))

theorem KpPt.tell (h : KpPt w K t n n tv uv T U) {x tv' : Value} (hg : w.grownBy w2 tv.ownBlock) (ho : w2.ownsRow 0 26 1 tv' (n + 1) (T ++ [x])) (hf : tv'.ownBlock = tv.ownBlock ∨ tv'.ownBlock = some w.heap.size) :
    KpPt (w2.setCell ⟨t, 0, none⟩ tv') (fun k => K k ∨ w.heap.size ≤ k) t (n + 1) n tv' uv (T ++ [x]) U ∧ Tch K w (w2.setCell ⟨t, 0, none⟩ tv') := by
  have hh := head_grown h.head h.rt hg
  have hU : U.length = n := by have := h.ru.1; omega
  have hT : T.length = n := by have := h.rt.1; omega
  have hru : w2.ownsRow 0 26 1 uv n U := owns_same h.ru (fun g e => hg.block g (owns_lt h.ru e).2 (fun e2 => h.ne g e2.symm e))
  refine ⟨⟨hh.set 0 tv', .inl h.kh, owns_head hh ho 0 _, owns_head hh hru 0 _, fun g e => ?_, fun g e => .inl (h.ku g e), fun g e e2 => ?_, fun i x' y hx hy => ?_⟩, ?_⟩
  · rcases hf with hf | hf
    · exact .inl (h.kt g (hf ▸ e))
    · rw [hf] at e; cases e; exact .inr (Nat.le_refl _)
  · rcases hf with hf | hf
    · exact h.ne g (hf ▸ e) e2
    · rw [hf] at e; cases e; have := (owns_lt h.ru e2).2; omega
  · have hi : i < n := by have := (List.getElem?_eq_some_iff.1 hy).1; omega
    rw [List.getElem?_append_left (by omega)] at hx
    obtain ⟨l, h0, h1, h2, h3, h4⟩ := h.each i x' y hx hy
    exact ⟨l, h0, (h1.grown h.rt hg).head hh 0 _, (h2.grown h.rt hg).head hh 0 _, fun g e => .inl (h3 g e), fun g e => .inl (h4 g e)⟩
  · exact ((Tch.refl K w).grown hg (fun k e => .inl (h.kt k e))).setCell (p := ⟨t, 0, none⟩) (.inl h.kh) _
theorem KpPt.was {x y uv' : Value} {l : List Pr} (h : KpPt w K t (n + 1) n tv uv (T ++ [x]) U) (hx : RowL w 0 x l) (hy : RowL w 0 y l) (hl : l.length ≤ 200) (kx : ∀ g, x.ownBlock = some g → K g) (ky : ∀ g, y.ownBlock = some g → K g)
    (hg : w.grownBy w2 uv.ownBlock) (ho : w2.ownsRow 0 26 1 uv' (n + 1) (U ++ [y])) (hf : uv'.ownBlock = uv.ownBlock ∨ uv'.ownBlock = some w.heap.size) :
    KpPt (w2.setCell ⟨t, 1, none⟩ uv') (fun k => K k ∨ w.heap.size ≤ k) t (n + 1) (n + 1) tv uv' (T ++ [x]) (U ++ [y]) ∧ Tch K w (w2.setCell ⟨t, 1, none⟩ uv') := by
  have hh := head_grown h.head h.ru hg
  have hU : U.length = n := by have := h.ru.1; omega
  have hT : T.length = n := by have := h.rt.1; simp at this; omega
  have hrt : w2.ownsRow 0 26 1 tv (n + 1) (T ++ [x]) := owns_same h.rt (fun g e => hg.block g (owns_lt h.rt e).2 (fun e2 => h.ne g e e2.symm))
  refine ⟨⟨hh.set 1 uv', .inl h.kh, owns_head hh hrt 1 _, owns_head hh ho 1 _, fun g e => .inl (h.kt g e), fun g e => ?_, fun g e e2 => ?_, fun i x' y' hx' hy' => ?_⟩, ?_⟩
  · rcases hf with hf | hf
    · exact .inl (h.ku g (hf ▸ e))
    · rw [hf] at e; cases e; exact .inr (Nat.le_refl _)
  · rcases hf with hf | hf
    · exact h.ne g e (hf ▸ e2)
    · rw [hf] at e2; cases e2; have := (owns_lt h.rt e).2; omega
  · by_cases hi : i < n
    · rw [List.getElem?_append_left (by omega)] at hy'
      obtain ⟨l, h0, h1, h2, h3, h4⟩ := h.each i x' y' hx' hy'
      exact ⟨l, h0, (h1.grown h.ru hg).head hh 1 _, (h2.grown h.ru hg).head hh 1 _, fun g e => .inl (h3 g e), fun g e => .inl (h4 g e)⟩
    · have hi2 : i = n := by have := (List.getElem?_eq_some_iff.1 hy').1; simp at this; omega
      subst hi2
      rw [List.getElem?_append_right (by omega)] at hx' hy'
      simp [hT, hU] at hx' hy'
      subst hx' hy'
      exact ⟨l, hl, (hx.grown h.ru hg).head hh 1 _, (hy.grown h.ru hg).head hh 1 _, fun g e => .inl (kx g e), fun g e => .inl (ky g e)⟩
  · exact ((Tch.refl K w).grown hg (fun k e => .inl (h.ku k e))).setCell (p := ⟨t, 1, none⟩) (.inl h.kh) _

theorem flatP_seta {l : List Pr} {i : Nat} {x : Pr} (h : l[i]? = some x) (v : Int) : (flatP l).set (2 * i) (.int .i64 v) = flatP (l.set i ⟨v, x.v⟩) := by
  induction l generalizing i with
  | nil => simp at h
  | cons y l ih =>
    cases i with
    | zero => simp at h; subst h; rfl
    | succ i =>
      simp at h
      have := ih h
      rw [show 2 * (i + 1) = 2 * i + 2 from by omega]
      simpa [flatP, Pr.cells] using this
theorem RowL.seta {lo g len cap : Nat} {l : List Pr} (h : RowL w lo (.slice (some ⟨g, 0, none⟩) len cap) l) {k : Nat} {x : Pr} (hx : l[k]? = some x) (v : Int) : RowL (w.setCell ⟨g, k * 2, none⟩ (.int .i64 v)) lo (.slice (some ⟨g, 0, none⟩) len cap) (l.set k ⟨v, x.v⟩) := by
  unfold RowL at *
  have hl : len = l.length := by
    rcases h.2 with ⟨e, _⟩ | ⟨_, _, _, e, _⟩
    · cases e
    · cases e; rfl
  subst hl
  have := (World.ownsRow.stored h (k * 2) (.int .i64 v)).1
  rw [List.length_set, ← flatP_seta hx, Nat.mul_comm 2 k]
  exact this
end

end Go.Proofs.Ytfngfphoefpndaa
