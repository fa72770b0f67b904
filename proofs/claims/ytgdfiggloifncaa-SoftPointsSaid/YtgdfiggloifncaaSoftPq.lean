/- SoftPoints: rows of one cell each, as parts. No conditions but those stated. -/
import Derived.Test.YtgdfiggloifncaaSoftPt
import Derived.Maps.AppendAt
namespace Go.Proofs.Ytgdfiggloifncaa
open Go.RowKit Go.BigFrame Go.Maps

/-- A part is turned, whatever it becomes. -/
theorem Aparts.turnB {w0 w : World} {l : List Part} {i : Nat} {P : Part} (h : Aparts w0 w l) (hi : l[i]? = some P) : ∃ T, P.at_ w T ∧ ∀ (P' : Part) (w' : World), P'.out w T w' → Aparts w0 w' (l.set i P') := by
  obtain ⟨⟨o, h1, h2⟩, h3⟩ := id h
  refine ⟨fun k => o k = some i, h2 i P hi, fun P' w' k => ?_⟩
  obtain ⟨k1, k2⟩ := k
  refine ⟨⟨fun k => if w.heap.size ≤ k ∧ k < w'.heap.size then some i else o k, fun k j e => ?_, fun j Q hj => ?_⟩, h3.trans (k2.below h3.size (fun k e => (h1 k i e).1))⟩
  · have hz := k2.size
    have hz0 := h3.size
    dsimp only at e
    split at e
    · rename_i hk
      exact ⟨Nat.le_trans hz0 hk.1, hk.2⟩
    · exact ⟨(h1 k j e).1, Nat.lt_of_lt_of_le (h1 k j e).2 hz⟩
  · rw [List.getElem?_set] at hj
    split at hj
    · rename_i hij
      subst hij
      split at hj
      · cases hj
        refine P'.more k1 (fun k hk e => ?_)
        rcases e with e | e
        · have := (h1 k i e).2
          dsimp only; rw [if_neg (by omega)]; exact e
        · dsimp only; rw [if_pos e]
      · cases hj
    · rename_i hij
      refine Q.more (Q.frame (h2 j Q hj) k2 (fun k e e2 => ?_)) (fun k hk e => ?_)
      · rw [e] at e2; cases e2; exact hij rfl
      · have := (h1 k j e).2
        dsimp only; rw [if_neg (by omega)]; exact e

/-! ### Rows of one cell each -/
def valP (e : TypeId) (v : Value) (xs : List Value) : Part := ⟨fun w T => w.ownsRow 0 e 1 v xs.length xs ∧ ∀ g, v.ownBlock = some g → T g,
  fun h ht hC => ⟨owns_same h.1 (fun g e => ht.block g (owns_lt h.1 e).2 (hC g (h.2 g e))), h.2⟩, fun h hT => ⟨h.1, fun g e => hT g (owns_lt h.1 e).2 (h.2 g e)⟩⟩
section
variable {w0 w w' : World} {l : List Part} {i : Nat} {v v' : Value} {xs : List Value} {x : Value} {e : TypeId}
theorem valP_row (h : Aparts w0 w l) (hi : l[i]? = some (valP e v xs)) : w.ownsRow 0 e 1 v xs.length xs := by
  obtain ⟨T, h1, -⟩ := h.get hi
  exact h1.1
theorem val_grown (h : Aparts w0 w l) (hi : l[i]? = some (valP e v xs)) (ho : w'.ownsRow 0 e 1 v' (xs.length + 1) (xs ++ [x])) (hg : w.grownBy w' v.ownBlock) (ha : v'.ownBlock = v.ownBlock ∨ v'.ownBlock = some w.heap.size) : Aparts w0 w' (l.set i (valP e v' (xs ++ [x]))) := by
  obtain ⟨T, h1, h2⟩ := h.turnB hi
  refine h2 _ w' ⟨⟨by rw [List.length_append]; exact ho, fun g e => ?_⟩, (Tch.refl T w).grown hg (fun k e => .inl (h1.2 k e))⟩
  rcases ha with ha | ha
  · exact .inl (h1.2 g (ha ▸ e))
  · rw [e] at ha; cases ha
    exact .inr ⟨Nat.le_refl _, (owns_lt ho e).2⟩
/-- None yet. -/
theorem val_none (h : Aparts w0 w l) (e : TypeId) : Aparts w0 w (l ++ [valP e (.slice none 0 0) []]) :=
  h.push (Below.refl _ w) ⟨World.ownsRow_nil w 0 e 1, fun g k => (by cases k)⟩
end
theorem val_at {w : World} {g n cap k : Nat} {xs : List Value} {x : Value} {e : TypeId} (h : w.ownsRow 0 e 1 (.slice (some ⟨g, 0, none⟩) n cap) xs.length xs) (hx : xs[k]? = some x) : w.rangeAt g k [x] := fun i v hi => by
  have h1 : i = 0 := by
    have := (List.getElem?_eq_some_iff.1 hi).1
    simp at this; omega
  subst h1
  obtain rfl : x = v := by simpa using hi
  exact (owns_cell h (g := g) rfl hx).1

end Go.Proofs.Ytgdfiggloifncaa
