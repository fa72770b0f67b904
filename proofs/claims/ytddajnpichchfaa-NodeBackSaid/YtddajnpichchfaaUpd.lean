/- Entries turned one after the other: plain facts. -/
import Derived.Test.YtddajnpichchfaaAll
namespace Go.Proofs.Ytddajnpichchfaa

theorem snoc_ind {α : Type} {P : List α → Prop} (h0 : P []) (h1 : ∀ xs x, P xs → P (xs ++ [x])) (xs : List α) : P xs := by
  have : ∀ ys : List α, P ys.reverse := fun ys => by
    induction ys with
    | nil => exact h0
    | cons y ys ih => rw [List.reverse_cons]; exact h1 _ _ ih
  simpa using this xs.reverse

def getE (ss : List (List Ent)) (i j : Nat) : Ent := (ss.getD i []).getD j Ent.zero
def updAll (f : Ent → Ent) (ss : List (List Ent)) (xs : List (Nat × Nat)) : List (List Ent) := xs.foldl (fun ss x => upd ss x.1 x.2 (f (getE ss x.1 x.2))) ss
theorem updAll_snoc (f : Ent → Ent) (ss : List (List Ent)) (xs : List (Nat × Nat)) (x : Nat × Nat) : updAll f ss (xs ++ [x]) = upd (updAll f ss xs) x.1 x.2 (f (getE (updAll f ss xs) x.1 x.2)) := by simp [updAll]

theorem getE_upd (ss : List (List Ent)) (i j i' j' : Nat) (e : Ent) (hi : i < ss.length) (hj : j < (ss.getD i []).length) : getE (upd ss i j e) i' j' = if i' = i ∧ j' = j then e else getE ss i' j' := by
  unfold getE upd
  by_cases h1 : i' = i
  · subst h1
    by_cases h2 : j' = j
    · subst h2
      simp only [List.getD_eq_getElem?_getD] at hj ⊢
      simp [List.getElem?_set_self hi, List.getElem?_set_self hj]
    · simp only [List.getD_eq_getElem?_getD] at hj ⊢
      simp [List.getElem?_set_self hi, List.getElem?_set_ne (Ne.symm h2), h2]
  · simp only [List.getD_eq_getElem?_getD]
    simp [List.getElem?_set_ne (Ne.symm h1), h1]
theorem upd_shape (ss : List (List Ent)) (i j k : Nat) (e : Ent) : ((upd ss i j e).getD k []).length = (ss.getD k []).length := by
  unfold upd
  by_cases h : k = i
  · subst h
    by_cases hk : k < ss.length
    · simp [List.getD_eq_getElem?_getD, List.getElem?_set_self hk]
    · rw [List.set_eq_of_length_le (by omega)]
  · simp [List.getD_eq_getElem?_getD, List.getElem?_set_ne (Ne.symm h)]
theorem updAll_shape (f : Ent → Ent) (ss : List (List Ent)) (xs : List (Nat × Nat)) : (updAll f ss xs).length = ss.length ∧ ∀ k, ((updAll f ss xs).getD k []).length = (ss.getD k []).length := by
  refine snoc_ind (P := fun xs => (updAll f ss xs).length = ss.length ∧ ∀ k, ((updAll f ss xs).getD k []).length = (ss.getD k []).length) ?_ ?_ xs
  · exact ⟨rfl, fun _ => rfl⟩
  · intro xs x ih
    rw [updAll_snoc]; exact ⟨by rw [upd, List.length_set]; exact ih.1, fun k => by rw [upd_shape]; exact ih.2 k⟩

theorem getE_updAll {f : Ent → Ent} (hf : ∀ e, f (f e) = f e) (ss : List (List Ent)) (i j : Nat) : ∀ (xs : List (Nat × Nat)), (∀ x ∈ xs, x.1 < ss.length ∧ x.2 < (ss.getD x.1 []).length) →
    getE (updAll f ss xs) i j = if (i, j) ∈ xs then f (getE ss i j) else getE ss i j := by
  refine snoc_ind ?_ ?_
  · intro _; simp [updAll]
  · intro xs x ih h
    have ih := ih (fun y hy => h y (List.mem_append.2 (.inl hy)))
    have hx := h x (List.mem_append.2 (.inr (by simp)))
    have hsh := updAll_shape f ss xs
    rw [updAll_snoc, getE_upd _ _ _ _ _ _ (by rw [hsh.1]; exact hx.1) (by rw [hsh.2]; exact hx.2)]
    by_cases he : i = x.1 ∧ j = x.2
    · obtain ⟨rfl, rfl⟩ := he
      rw [if_pos ⟨rfl, rfl⟩, if_pos (by simp), ih]
      by_cases hm : (x.1, x.2) ∈ xs
      · rw [if_pos hm, hf]
      · rw [if_neg hm]
    · rw [if_neg he, ih]
      have : ((i, j) ∈ xs ++ [x]) ↔ (i, j) ∈ xs := by
        simp only [List.mem_append, List.mem_singleton]
        exact ⟨fun h => h.elim id (fun e => absurd (by rw [← e]; exact ⟨rfl, rfl⟩) he), .inl⟩
      by_cases hm : (i, j) ∈ xs
      · rw [if_pos hm, if_pos (this.2 hm)]
      · rw [if_neg hm, if_neg (fun h => hm (this.1 h))]

theorem mem_entsAll {ss : List (List Ent)} {ways n i j : Nat} : (i, j) ∈ entsAll ss ways n ↔ i < n ∧ j < ways ∧ valid ss i j = true := by
  unfold entsAll entsOf
  simp only [List.mem_flatMap, List.mem_range, List.mem_map, List.mem_filter, Prod.mk.injEq]
  constructor
  · rintro ⟨a, ha, b, ⟨hb, hv⟩, rfl, rfl⟩; exact ⟨ha, hb, hv⟩
  · rintro ⟨h1, h2, h3⟩; exact ⟨i, h1, j, ⟨h2, h3⟩, rfl, rfl⟩

/-- All entries turned. -/
def turnAll (f : Ent → Ent) (ss : List (List Ent)) : List (List Ent) := ss.map fun s => s.map fun e => if e.state ≠ 0 then f e else e

theorem ext_ents {a b : List (List Ent)} (h1 : a.length = b.length) (h2 : ∀ k, (a.getD k []).length = (b.getD k []).length) (h3 : ∀ i j, i < b.length → j < (b.getD i []).length → getE a i j = getE b i j) : a = b := by
  apply List.ext_getElem h1
  intro i hi hi'
  have l2 := h2 i
  simp only [List.getD_eq_getElem?_getD, List.getElem?_eq_getElem hi, List.getElem?_eq_getElem hi', Option.getD_some] at l2
  apply List.ext_getElem l2
  intro j hj hj'
  have := h3 i j hi' (by simp only [List.getD_eq_getElem?_getD, List.getElem?_eq_getElem hi', Option.getD_some]; exact hj')
  unfold getE at this
  simpa only [List.getD_eq_getElem?_getD, List.getElem?_eq_getElem hi, List.getElem?_eq_getElem hi', Option.getD_some, List.getElem?_eq_getElem hj, List.getElem?_eq_getElem hj'] using this

theorem updAll_turnAll {f : Ent → Ent} (hf : ∀ e, f (f e) = f e) (ss : List (List Ent)) (ways : Nat) (hw : ∀ s ∈ ss, s.length = ways) : updAll f ss (entsAll ss ways ss.length) = turnAll f ss := by
  have hwk : ∀ k, k < ss.length → (ss.getD k []).length = ways := fun k hk => by
    simp only [List.getD_eq_getElem?_getD, List.getElem?_eq_getElem hk, Option.getD_some]; exact hw _ (List.getElem_mem hk)
  have hsh := updAll_shape f ss (entsAll ss ways ss.length)
  refine ext_ents (by rw [hsh.1]; simp [turnAll]) (fun k => ?_) (fun i j hi hj => ?_)
  · rw [hsh.2]
    by_cases hk : k < ss.length
    · simp [turnAll, List.getD_eq_getElem?_getD, hk]
    · simp [turnAll, List.getD_eq_getElem?_getD, hk]
  · have hi' : i < ss.length := by simpa [turnAll] using hi
    have hj' : j < (ss[i]).length := by simpa [turnAll, List.getD_eq_getElem?_getD, hi'] using hj
    rw [getE_updAll hf ss i j _ (fun x hx => by obtain ⟨a, b⟩ := x; rw [mem_entsAll] at hx; exact ⟨hx.1, by rw [hwk _ hx.1]; exact hx.2.1⟩)]
    have hg : getE ss i j = ss[i][j] := by simp [getE, List.getD_eq_getElem?_getD, hi', hj']
    have ht : getE (turnAll f ss) i j = if ss[i][j].state ≠ 0 then f ss[i][j] else ss[i][j] := by simp [getE, turnAll, List.getD_eq_getElem?_getD, hi', hj']
    rw [ht, hg]
    have hm : (i, j) ∈ entsAll ss ways ss.length ↔ ss[i][j].state ≠ 0 := by
      rw [mem_entsAll, valid, show (ss.getD i []).getD j Ent.zero = ss[i][j] from hg]
      have := hw _ (List.getElem_mem hi')
      simp [hi']; intro _; omega
    by_cases h : ss[i][j].state ≠ 0
    · rw [if_pos (hm.2 h), if_pos h]
    · rw [if_neg (fun x => h (hm.1 x)), if_neg h]

end Go.Proofs.Ytddajnpichchfaa
