/- SoftLong: a row of calls that grows. Conditions: those stated in each theorem. -/
import Derived.Test.YthepmejfgbfilaaSoftT4
import Derived.Maps.AppendAt
namespace Go.Proofs.Ythepmejfgbfilaa
open Go.RowKit Go.BigFrame Go.Maps

theorem Try.sizeOp : (Try.prog.info? 36).map (·.size) = some 4 := by kernel_rfl
theorem Try.infoOp : ∃ z : Value, z.cells.size = 4 ∧ (Try.prog.info? 36).map (fun i => (i.zero, i.size, i.bytes)) = some (some z, 4, 32) := ⟨.agg #[.int .i64 0, .int .i64 0, .int .u64 0, .bool false], rfl, by kernel_rfl⟩
theorem info_parts' {i : Option TypeInfo} {z : Option Value} {s b : Nat} (h : i.map (fun i => (i.zero, i.size, i.bytes)) = some (z, s, b)) : ∃ j, i = some j ∧ j.zero = z ∧ j.size = s ∧ j.bytes = b := by
  cases i with
  | none => cases h
  | some j => simp at h; exact ⟨j, rfl, h.1, h.2.1, h.2.2⟩

/-! ### Rows of calls -/
def opsC (xs : List OpQ) : List Value := xs.flatMap OpQ.cells
theorem opsC_len : ∀ (xs : List OpQ), (opsC xs).length = xs.length * 4
  | [] => rfl
  | x :: xs => by
    have := opsC_len xs
    simp only [opsC, List.flatMap_cons, List.length_append, List.length_cons] at *
    rw [this, show x.cells.length = 4 from rfl]; omega
theorem opsC_get : ∀ (xs : List OpQ) (k : Nat) (x : OpQ), xs[k]? = some x → ∀ (i : Nat) (v : Value), x.cells[i]? = some v → (opsC xs)[k * 4 + i]? = some v
  | [], k, x, h, _, _, _ => by simp at h
  | y :: xs, 0, x, h, i, v, hv => by
    have hi : i < 4 := (List.getElem?_eq_some_iff.1 hv).1
    obtain rfl : y = x := by simpa using h
    show (y.cells ++ opsC xs)[0 * 4 + i]? = some v
    rw [Nat.zero_mul, Nat.zero_add, List.getElem?_append_left (by show i < 4; exact hi)]; exact hv
  | y :: xs, k + 1, x, h, i, v, hv => by
    show (y.cells ++ opsC xs)[(k + 1) * 4 + i]? = some v
    rw [List.getElem?_append_right (by show 4 ≤ _; omega), show (k + 1) * 4 + i - y.cells.length = k * 4 + i from by show (k + 1) * 4 + i - 4 = _; omega]
    exact opsC_get xs k x (by simpa using h) i v hv
theorem opsC_split : ∀ (xs : List OpQ) (j : Nat) (u : Value), (opsC xs)[j]? = some u → ∃ k i x, xs[k]? = some x ∧ x.cells[i]? = some u ∧ j = k * 4 + i
  | [], j, u, h => by simp [opsC] at h
  | y :: xs, j, u, h => by
    change (y.cells ++ opsC xs)[j]? = some u at h
    by_cases hj : j < 4
    · rw [List.getElem?_append_left (by show j < 4; exact hj)] at h
      exact ⟨0, j, y, rfl, h, by omega⟩
    · rw [List.getElem?_append_right (by show 4 ≤ _; omega)] at h
      obtain ⟨k, i, x, h1, h2, h3⟩ := opsC_split xs (j - y.cells.length) u h
      exact ⟨k + 1, i, x, by simpa using h1, h2, by have : y.cells.length = 4 := rfl; omega⟩
theorem opsC_one (xs : List OpQ) : ∀ u ∈ opsC xs, u.oneCell' = true := by
  intro u hu
  obtain ⟨x, -, hx⟩ := List.mem_flatMap.1 hu
  simp only [OpQ.cells, List.mem_cons, List.not_mem_nil, or_false] at hx
  rcases hx with rfl | rfl | rfl | rfl <;> rfl
theorem opsC_app (xs ys : List OpQ) : opsC (xs ++ ys) = opsC xs ++ opsC ys := by simp [opsC]
def opsP (v : Value) (xs : List OpQ) : Part := ⟨fun w T => w.ownsRow 0 36 4 v xs.length (opsC xs) ∧ ∀ g, v.ownBlock = some g → T g,
  fun h ht hC => ⟨owns_same h.1 (fun g e => ht.block g (owns_lt h.1 e).2 (hC g (h.2 g e))), h.2⟩, fun h hT => ⟨h.1, fun g e => hT g (owns_lt h.1 e).2 (h.2 g e)⟩⟩
section
variable {w0 w w' : World} {l : List Part} {i : Nat} {v v' : Value} {xs ys : List OpQ}
/-- A part is turned, whatever it becomes. -/
theorem Aparts.turnA {P : Part} (h : Aparts w0 w l) (hi : l[i]? = some P) : ∃ T, P.at_ w T ∧ ∀ (P' : Part) (w' : World), P'.out w T w' → Aparts w0 w' (l.set i P') := by
  obtain ⟨⟨o, h1, h2⟩, h3⟩ := id h
  refine ⟨fun k => o k = some i, h2 i P hi, fun P' w' k => ?_⟩
  have h' : Aparts w0 w l := h
  obtain ⟨k1, k2⟩ := k
  refine ⟨⟨fun k => if w.heap.size ≤ k ∧ k < w'.heap.size then some i else o k, fun k j e => ?_, fun j Q hj => ?_⟩, h3.trans (k2.below h3.size (fun k e => (h1 k i e).1))⟩
  · have hz := k2.size
    have hz0 := h3.size
    dsimp only at e
    split at e
    · rename_i hk
      exact ⟨Nat.le_trans hz0 hk.1, hk.2⟩
    · exact ⟨(h1 k j e).1, Nat.lt_of_lt_of_le (h1 k j e).2 hz⟩
  · rw [List.getElem?_set] at hj
    split at hj
    · rename_i hij
      subst hij
      split at hj
      · cases hj
        refine P'.more k1 (fun k hk e => ?_)
        rcases e with e | e
        · have := (h1 k i e).2
          dsimp only; rw [if_neg (by omega)]; exact e
        · dsimp only; rw [if_pos e]
      · cases hj
    · rename_i hij
      refine Q.more (Q.frame (h2 j Q hj) k2 (fun k e e2 => ?_)) (fun k hk e => ?_)
      · rw [e] at e2; cases e2; exact hij rfl
      · have := (h1 k j e).2
        dsimp only; rw [if_neg (by omega)]; exact e
theorem opsP_row (h : Aparts w0 w l) (hi : l[i]? = some (opsP v xs)) : w.ownsRow 0 36 4 v xs.length (opsC xs) := by
  obtain ⟨T, h1, -⟩ := h.get hi
  exact h1.1
theorem ops_grown (h : Aparts w0 w l) (hi : l[i]? = some (opsP v xs)) (ho : w'.ownsRow 0 36 4 v' (xs.length + ys.length) (opsC xs ++ opsC ys)) (hg : w.grownBy w' v.ownBlock) (ha : v'.ownBlock = v.ownBlock ∨ v'.ownBlock = some w.heap.size) : Aparts w0 w' (l.set i (opsP v' (xs ++ ys))) := by
  obtain ⟨T, h1, h2⟩ := h.turnA hi
  refine h2 _ w' ⟨⟨by rw [List.length_append, opsC_app]; exact ho, fun g e => ?_⟩, (Tch.refl T w).grown hg (fun k e => .inl (h1.2 k e))⟩
  rcases ha with ha | ha
  · exact .inl (h1.2 g (ha ▸ e))
  · rw [e] at ha; cases ha
    exact .inr ⟨Nat.le_refl _, (owns_lt ho e).2⟩
/-- The first row. -/
theorem ops_new (h : Aparts w0 w l) (x : OpQ) : Aparts w0 (w.alloc (.cells x.cells.toArray 36)) (l ++ [opsP (.slice (some ⟨w.heap.size, 0, none⟩) 1 1) [x]]) :=
  h.push ((Below.refl _ w).alloc (Nat.le_refl _) _) ⟨⟨rfl, .inr ⟨w.heap.size, 1, x.cells.toArray, rfl, Nat.zero_le _, new_block w _, Nat.le_refl _, by unfold maxLen; omega, rfl, by simp [opsC, OpQ.cells]⟩⟩, fun g e => by cases e; exact ⟨Nat.le_refl _, by simp⟩⟩
end
theorem ops_at {w : World} {g n cap k : Nat} {xs : List OpQ} {x : OpQ} (h : w.ownsRow 0 36 4 (.slice (some ⟨g, 0, none⟩) n cap) xs.length (opsC xs)) (hx : xs[k]? = some x) : w.rangeAt g (k * 4) x.cells := fun i v hi => (owns_cell h (g := g) rfl (opsC_get xs k x hx i v hi)).1
/-- Calls that came in, cell by cell. -/
theorem ops_flat {w0 w : World} {ad : Addr} {xs : List OpQ} (h : RowsIn w0 (some ad) 4 OpQ.cells xs) (hb : Below w0.heap.size w0 w) : ∀ j u, (opsC xs)[j]? = some u → w.cell? (ad.add j) = some u := fun j u hu => by
  obtain ⟨k, i, x, h1, h2, rfl⟩ := opsC_split xs j u hu
  obtain ⟨q, c, e, hq, hr⟩ := h.row h1
  cases e
  have h3 := (World.cell?_of_block (a := ⟨q, c + k * 4 + i, none⟩) (hb.block q hq)).trans (hr i u h2)
  unfold Addr.add
  split
  · rename_i h0
    have hk : k * 4 = 0 := by omega
    have hi : i = 0 := by omega
    rw [hk, hi] at h3; exact h3
  · rw [Nat.add_assoc] at h3; simpa using h3

end Go.Proofs.Ythepmejfgbfilaa
