/- Parts of memory that are apart: each owns its blocks; a call that turns one leaves the others. No condition. -/
import Derived.Test.YtgdfiggloifncaaLogA
namespace Go.Proofs.Ytgdfiggloifncaa
open Go.RowKit Go.BigFrame

/-- What lies in a set of blocks. -/
structure Part where
  at_ : World → (Nat → Prop) → Prop
  frame : ∀ {w w' : World} {S C : Nat → Prop}, at_ w S → Tch C w w' → (∀ k, S k → ¬ C k) → at_ w' S
  more : ∀ {w : World} {S T : Nat → Prop}, at_ w S → (∀ k, k < w.heap.size → S k → T k) → at_ w T
/-- What a call leaves that turns a part. -/
def Part.out (P : Part) (w : World) (T : Nat → Prop) (w' : World) : Prop := P.at_ w' (Gr T w w') ∧ Tch T w w'
/-- Parts, pairwise apart, all of them new since w0. -/
structure Aparts (w0 w : World) (l : List Part) : Prop where
  own : ∃ o : Nat → Option Nat, (∀ k i, o k = some i → w0.heap.size ≤ k ∧ k < w.heap.size) ∧ ∀ (i : Nat) (P : Part), l[i]? = some P → P.at_ w (fun k => o k = some i)
  below : Below w0.heap.size w0 w

section
variable {w0 w w' : World} {l l' : List Part} {P P' : Part} {i : Nat} {T : Nat → Prop}
theorem Aparts.nil (w : World) : Aparts w w [] := ⟨⟨fun _ => none, ⟨fun k i e => (by simp at e), fun i P e => (by simp at e)⟩⟩, Below.refl _ _⟩
theorem Aparts.idle (h : Aparts w0 w l) (hb : Below w.heap.size w w') : Aparts w0 w' l := by
  obtain ⟨⟨o, h1, h2⟩, h3⟩ := h
  exact ⟨⟨o, fun k i e => ⟨(h1 k i e).1, Nat.lt_of_lt_of_le (h1 k i e).2 hb.size⟩, fun i P e => P.frame (C := fun _ => False) (h2 i P e) (Tch.of_idle hb) (fun _ _ e => e)⟩, h3.trans (hb.mono h3.size)⟩
theorem Aparts.get (h : Aparts w0 w l) (hi : l[i]? = some P) : ∃ T, P.at_ w T ∧ ∀ k, T k → w0.heap.size ≤ k ∧ k < w.heap.size := by
  obtain ⟨⟨o, h1, h2⟩, h3⟩ := h
  exact ⟨_, h2 i P hi, fun k e => h1 k i e⟩
/-- A part is turned. -/
theorem Aparts.turn (h : Aparts w0 w l) (hi : l[i]? = some P) (hl : l.set i P' = l') : ∃ T, P.at_ w T ∧ ∀ w', P'.out w T w' → Aparts w0 w' l' := by
  obtain ⟨⟨o, h1, h2⟩, h3⟩ := h
  refine ⟨fun k => o k = some i, h2 i P hi, fun w' ⟨k1, k2⟩ => ⟨⟨fun k => if w.heap.size ≤ k ∧ k < w'.heap.size then some i else o k, fun k j e => ?_, fun j Q hj => ?_⟩, h3.trans (k2.below h3.size (fun k e => (h1 k i e).1))⟩⟩
  · have hz := k2.size
    have hz0 := h3.size
    dsimp only at e
    split at e
    · rename_i hk
      exact ⟨Nat.le_trans hz0 hk.1, hk.2⟩
    · exact ⟨(h1 k j e).1, Nat.lt_of_lt_of_le (h1 k j e).2 hz⟩
  · subst hl
    rw [List.getElem?_set] at hj
    split at hj
    · rename_i hij
      subst hij
      split at hj
      · cases hj
        refine P'.more k1 (fun k hk e => ?_)
        rcases e with e | e
        · have := (h1 k i e).2
          dsimp only; rw [if_neg (by omega)]; exact e
        · dsimp only; rw [if_pos e]
      · cases hj
    · rename_i hij
      refine Q.more (Q.frame (h2 j Q hj) k2 (fun k e e2 => ?_)) (fun k hk e => ?_)
      · rw [e] at e2; cases e2; exact hij rfl
      · have := (h1 k j e).2
        dsimp only; rw [if_neg (by omega)]; exact e
theorem Aparts.call {prog : Program} {f : FuncId} {args : Array Value} {R : Ending → Prop} (h : Aparts w0 w l) (hi : l[i]? = some P) (hl : l.set i P' = l') (hc : ∀ T, P.at_ w T → Calls prog f args w fun e w' => R e ∧ P'.out w T w') : Calls prog f args w fun e w' => R e ∧ Aparts w0 w' l' := by
  obtain ⟨T, h1, h2⟩ := h.turn hi hl
  exact (hc T h1).mono fun e w' ⟨e1, k⟩ => ⟨e1, h2 w' k⟩
/-- A part comes. -/
theorem Aparts.push (h : Aparts w0 w l) (hb : Below w.heap.size w w') (hp : P.at_ w' (fun k => w.heap.size ≤ k ∧ k < w'.heap.size)) : Aparts w0 w' (l ++ [P]) := by
  obtain ⟨⟨o, h1, h2⟩, h3⟩ := h
  have hz := hb.size
  have hz0 := h3.size
  refine ⟨⟨fun k => if w.heap.size ≤ k ∧ k < w'.heap.size then some l.length else o k, fun k j e => ?_, fun j Q hj => ?_⟩, h3.trans (hb.mono h3.size)⟩
  · dsimp only at e
    split at e
    · rename_i hk
      exact ⟨Nat.le_trans hz0 hk.1, hk.2⟩
    · exact ⟨(h1 k j e).1, Nat.lt_of_lt_of_le (h1 k j e).2 hz⟩
  · by_cases hj2 : j < l.length
    · rw [List.getElem?_append_left hj2] at hj
      refine Q.more (Q.frame (C := fun _ => False) (h2 j Q hj) (Tch.of_idle hb) (fun _ _ e => e)) (fun k hk e => ?_)
      have := (h1 k j e).2
      dsimp only; rw [if_neg (by omega)]; exact e
    · rw [List.getElem?_append_right (by omega)] at hj
      have hj3 : j = l.length := by
        by_cases h : j - l.length = 0
        · omega
        · rw [List.getElem?_eq_none (by simp; omega)] at hj; cases hj
      subst hj3
      simp at hj
      subst hj
      exact P.more hp (fun k hk e => by dsimp only; rw [if_pos e])
end

end Go.Proofs.Ytgdfiggloifncaa
