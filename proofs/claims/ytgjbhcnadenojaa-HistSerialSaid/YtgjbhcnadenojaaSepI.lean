/- Parts of memory that are apart, named by an index: each owns its blocks; a call that turns one leaves the others. No condition. -/
import Derived.Test.YtgjbhcnadenojaaSep0
namespace Go.Proofs.Ytgjbhcnadenojaa
open Go.RowKit Go.BigFrame

/-- Parts, pairwise apart, all of them new since w0. -/
structure Ap {ι : Type} (w0 w : World) (pf : ι → Option Part) : Prop where
  own : ∃ o : Nat → Option ι, (∀ k i, o k = some i → w0.heap.size ≤ k ∧ k < w.heap.size) ∧ ∀ (i : ι) (P : Part), pf i = some P → P.at_ w (fun k => o k = some i)
  below : Below w0.heap.size w0 w
def upd {ι : Type} [DecidableEq ι] (pf : ι → Option Part) (i : ι) (P : Part) : ι → Option Part := fun j => if j = i then some P else pf j

section
variable {ι : Type} {w0 w w' : World} {pf pf' : ι → Option Part} {P P' : Part} {i : ι}
theorem Ap.nil (w : World) : Ap (ι := ι) w w (fun _ => none) := ⟨⟨fun _ => none, ⟨fun k i e => (by simp at e), fun i P e => (by simp at e)⟩⟩, Below.refl _ _⟩
theorem Ap.idle (h : Ap w0 w pf) (hb : Below w.heap.size w w') : Ap w0 w' pf := by
  obtain ⟨⟨o, h1, h2⟩, h3⟩ := h
  exact ⟨⟨o, fun k i e => ⟨(h1 k i e).1, Nat.lt_of_lt_of_le (h1 k i e).2 hb.size⟩, fun i P e => P.frame (C := fun _ => False) (h2 i P e) (Tch.of_idle hb) (fun _ _ e => e)⟩, h3.trans (hb.mono h3.size)⟩
theorem Ap.get (h : Ap w0 w pf) (hi : pf i = some P) : ∃ T, P.at_ w T ∧ ∀ k, T k → w0.heap.size ≤ k ∧ k < w.heap.size := by
  obtain ⟨⟨o, h1, h2⟩, h3⟩ := h
  exact ⟨_, h2 i P hi, fun k e => h1 k i e⟩
/-- Fewer parts. -/
theorem Ap.less (h : Ap w0 w pf) (hl : ∀ j, pf' j = pf j ∨ pf' j = none) : Ap w0 w pf' := by
  obtain ⟨⟨o, h1, h2⟩, h3⟩ := h
  exact ⟨⟨o, h1, fun j Q e => (by rcases hl j with e2 | e2 <;> rw [e2] at e; exact h2 j Q e; cases e)⟩, h3⟩
theorem Ap.cong (h : Ap w0 w pf) (hl : ∀ j, pf' j = pf j) : Ap w0 w pf' := h.less (fun j => .inl (hl j))
variable [DecidableEq ι]
/-- A part is turned. -/
theorem Ap.turn (h : Ap w0 w pf) (hi : pf i = some P) : ∃ T, P.at_ w T ∧ (∀ k, T k → w0.heap.size ≤ k ∧ k < w.heap.size) ∧ ∀ w' P', P'.out w T w' → Ap w0 w' (upd pf i P') := by
  obtain ⟨⟨o, h1, h2⟩, h3⟩ := h
  refine ⟨fun k => o k = some i, h2 i P hi, fun k e => h1 k i e, fun w' P' ⟨k1, k2⟩ => ⟨⟨fun k => if w.heap.size ≤ k ∧ k < w'.heap.size then some i else o k, fun k j e => ?_, fun j Q hj => ?_⟩, h3.trans (k2.below h3.size (fun k e => (h1 k i e).1))⟩⟩
  · have hz := k2.size
    have hz0 := h3.size
    dsimp only at e
    split at e
    · rename_i hk
      exact ⟨Nat.le_trans hz0 hk.1, hk.2⟩
    · exact ⟨(h1 k j e).1, Nat.lt_of_lt_of_le (h1 k j e).2 hz⟩
  · unfold upd at hj
    split at hj
    · rename_i hij
      subst hij
      cases hj
      refine P'.more k1 (fun k hk e => ?_)
      rcases e with e | e
      · have := (h1 k j e).2
        dsimp only; rw [if_neg (by omega)]; exact e
      · dsimp only; rw [if_pos e]
    · rename_i hij
      refine Q.more (Q.frame (h2 j Q hj) k2 (fun k e e2 => ?_)) (fun k hk e => ?_)
      · rw [e] at e2; cases e2; exact hij rfl
      · have := (h1 k j e).2
        dsimp only; rw [if_neg (by omega)]; exact e
/-- A part comes. -/
theorem Ap.push (h : Ap w0 w pf) (hi : pf i = none) (hb : Below w.heap.size w w') (hp : P.at_ w' (fun k => w.heap.size ≤ k ∧ k < w'.heap.size)) : Ap w0 w' (upd pf i P) := by
  obtain ⟨⟨o, h1, h2⟩, h3⟩ := h
  have hz := hb.size
  have hz0 := h3.size
  refine ⟨⟨fun k => if w.heap.size ≤ k ∧ k < w'.heap.size then some i else o k, fun k j e => ?_, fun j Q hj => ?_⟩, h3.trans (hb.mono h3.size)⟩
  · dsimp only at e
    split at e
    · rename_i hk
      exact ⟨Nat.le_trans hz0 hk.1, hk.2⟩
    · exact ⟨(h1 k j e).1, Nat.lt_of_lt_of_le (h1 k j e).2 hz⟩
  · unfold upd at hj
    split at hj
    · rename_i hij
      subst hij
      cases hj
      exact P.more hp (fun k hk e => by dsimp only; rw [if_pos e])
    · refine Q.more (Q.frame (C := fun _ => False) (h2 j Q hj) (Tch.of_idle hb) (fun _ _ e => e)) (fun k hk e => ?_)
      have := (h1 k j e).2
      dsimp only; rw [if_neg (by omega)]; exact e
/-- Two parts of one block each come. -/
theorem Ap.push2 {j : ι} {a b : Nat} (h : Ap w0 w pf) (hi : pf i = none) (hj : pf j = none) (hij : i ≠ j) (hb : Below w.heap.size w w') (hab : a ≠ b) (ha : w.heap.size ≤ a ∧ a < w'.heap.size) (hb2 : w.heap.size ≤ b ∧ b < w'.heap.size) (hp : P.at_ w' (fun k => k = a)) (hq : P'.at_ w' (fun k => k = b)) : Ap w0 w' (upd (upd pf i P) j P') := by
  obtain ⟨⟨o, h1, h2⟩, h3⟩ := h
  have hz0 := h3.size
  refine ⟨⟨fun k => if k = a then some i else if k = b then some j else o k, fun k m e => ?_, fun m Q hm => ?_⟩, h3.trans (hb.mono h3.size)⟩
  · dsimp only at e
    split at e
    · rename_i hk; subst hk; exact ⟨Nat.le_trans hz0 ha.1, ha.2⟩
    · split at e
      · rename_i hk; subst hk; exact ⟨Nat.le_trans hz0 hb2.1, hb2.2⟩
      · exact ⟨(h1 k m e).1, Nat.lt_of_lt_of_le (h1 k m e).2 hb.size⟩
  · unfold upd at hm
    split at hm
    · rename_i hmj
      subst hmj
      cases hm
      exact P'.more hq (fun k hk e => by subst e; dsimp only; rw [if_neg (Ne.symm hab), if_pos rfl])
    · split at hm
      · rename_i hmi
        subst hmi
        cases hm
        exact P.more hp (fun k hk e => by subst e; dsimp only; rw [if_pos rfl])
      · refine Q.more (Q.frame (C := fun _ => False) (h2 m Q hm) (Tch.of_idle hb) (fun _ _ e => e)) (fun k hk e => ?_)
        have := (h1 k m e).2
        dsimp only; rw [if_neg (by omega), if_neg (by omega)]; exact e
end

/-! ### Kinds of parts -/
/-- A block known whole. -/
def cellsP (b : Nat) (t : TypeId) (L : List Value) : Part where
  at_ w S := Holds w b t L ∧ S b
  frame := fun h ht hC => ⟨ht.holds (hC b h.2) h.1, h.2⟩
  more := fun h hT => ⟨h.1, hT _ h.1.lt h.2⟩
/-- A row. -/
def rowP (v : Value) (t : TypeId) (size n : Nat) (xs : List Value) : Part where
  at_ w S := w.ownsRow 0 t size v n xs ∧ ∀ g, v.ownBlock = some g → S g
  frame := fun h ht hC => ⟨owns_same h.1 (fun g e => ht.block g (owns_lt h.1 e).2 (hC g (h.2 g e))), h.2⟩
  more := fun h hT => ⟨h.1, fun g e => hT g (owns_lt h.1 e).2 (h.2 g e)⟩
section
variable {w w' : World} {T : Nat → Prop} {b : Nat} {t : TypeId} {L : List Value}
theorem cellsP.set (h : (cellsP b t L).at_ w T) (i : Nat) (v : Value) : (cellsP b t (L.set i v)).out w T (w.setCell ⟨b, i, none⟩ v) :=
  ⟨⟨h.1.set i v, .inl h.2⟩, (Tch.refl T w).setCell (p := ⟨b, i, none⟩) (.inl h.2) v⟩
theorem cellsP.sets (h : (cellsP b t L).at_ w T) (o : Nat) (vs : List Value) : (cellsP b t (splice L o vs)).out w T (w.setCells b o vs) :=
  ⟨⟨h.1.sets vs o, .inl h.2⟩, Tch.setCells (.inl h.2) vs o (Tch.refl T w)⟩
theorem cellsP.new (w : World) (t : TypeId) (L : List Value) : (cellsP w.heap.size t L).at_ (w.alloc (.cells L.toArray t)) (fun k => w.heap.size ≤ k ∧ k < (w.alloc (.cells L.toArray t)).heap.size) :=
  ⟨Holds.new w t L, Nat.le_refl _, by simp⟩
/-- A row that an append left. -/
theorem rowP.grew {v v' : Value} {size n m : Nat} {xs ys : List Value} (h : (rowP v t size n xs).at_ w T) (hr : w'.ownsRow 0 t size v' m ys) (hg : w.grownBy w' v.ownBlock) (hv : ∀ g, v'.ownBlock = some g → v.ownBlock = some g ∨ w.heap.size ≤ g) : (rowP v' t size m ys).out w T w' :=
  ⟨⟨hr, fun g e => (hv g e).imp (fun e2 => h.2 g e2) (fun e2 => ⟨e2, (owns_lt hr e).2⟩)⟩, (Tch.refl T w).grown hg (fun k e => .inl (h.2 k e))⟩
theorem rowP.set {g cap size n : Nat} {xs : List Value} (h : (rowP (.slice (some ⟨g, 0, none⟩) n cap) t size n xs).at_ w T) (i : Nat) (v : Value) : (rowP (.slice (some ⟨g, 0, none⟩) n cap) t size n (xs.set i v)).out w T (w.setCell ⟨g, i, none⟩ v) :=
  ⟨⟨(h.1.stored i v).1, fun g' e => .inl (h.2 g' e)⟩, (Tch.refl T w).setCell (p := ⟨g, i, none⟩) (.inl (h.2 g rfl)) v⟩
end

end Go.Proofs.Ytgjbhcnadenojaa
