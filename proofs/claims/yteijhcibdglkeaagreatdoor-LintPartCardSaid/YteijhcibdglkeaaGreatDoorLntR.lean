/- What stands behind a program whose ways never go out of it. Conditions: those stated in each theorem. -/
import Derived.Test.YteijhcibdglkeaaGreatDoorLntQ
namespace Go.Proofs.YteijhcibdglkeaaGreatDoor

/-- No way goes out of the program. -/
def Inside (c : List In) : Prop := ∀ (p : Nat) (i : In) (w : Bool) (t : Spot), c[p]? = some i → t ∈ lgoI i (p, w) → t.1 < c.length
theorem goes_place {i : In} {s t : Spot} (h : t ∈ lgoI i s) : (legalP i = true ∧ 13 ≤ i.op ∧ i.op ≤ 16 ∧ isPl i.imm = true ∧ t.1 = i.imm.toNat) ∨ (i.op ≠ 1 ∧ i.op ≠ 13 ∧ t.1 = s.1 + 1) := by
  have hl := lgoI_legal h
  have hp : ∀ (b : Bool), (13 ≤ i.op ∧ i.op ≤ 16) → t ∈ (if isPl i.imm then [(i.imm.toNat, b)] else []) → (legalP i = true ∧ 13 ≤ i.op ∧ i.op ≤ 16 ∧ isPl i.imm = true ∧ t.1 = i.imm.toNat) := fun b ho h => by
    split at h
    · rename_i hh
      simp only [List.mem_singleton] at h
      subst h
      exact ⟨hl.1, ho.1, ho.2, hh, rfl⟩
    · cases h
  have hq : ∀ (b : Bool), i.op ≠ 13 → t ∈ [(s.1 + 1, b)] → (i.op ≠ 1 ∧ i.op ≠ 13 ∧ t.1 = s.1 + 1) := fun b ho h => by
    simp only [List.mem_singleton] at h
    subst h
    exact ⟨hl.2, ho, rfl⟩
  unfold lgoI at h
  by_cases h1 : legalP i = false ∨ i.op = 1
  · rw [if_pos h1] at h; cases h
  rw [if_neg h1] at h
  by_cases h2 : i.op = 17
  · rw [if_pos h2] at h
    split at h
    · cases h
    · exact .inr (hq _ (by omega) h)
  rw [if_neg h2] at h
  by_cases h3 : i.op = 18
  · rw [if_pos h3] at h
    split at h
    · exact .inr (hq _ (by omega) h)
    · cases h
  rw [if_neg h3] at h
  by_cases h4 : i.op = 13
  · rw [if_pos h4] at h; exact .inl (hp _ (by omega) h)
  rw [if_neg h4] at h
  by_cases h5 : i.op = 14 ∨ i.op = 15 ∨ i.op = 16
  · rw [if_pos h5] at h
    rcases List.mem_append.1 h with h | h
    · exact .inl (hp _ (by omega) h)
    · exact .inr (hq _ h4 h)
  rw [if_neg h5] at h
  exact .inr (hq _ h4 h)
theorem inside_of {c : List In} (hfar : ∀ i ∈ c, ¬ (legalP i = true ∧ 13 ≤ i.op ∧ i.op ≤ 16 ∧ (c.length : Int) ≤ i.imm ∧ i.imm ≤ 1024)) (hlast : ∀ i, c[c.length - 1]? = some i → i.op = 1 ∨ i.op = 13) : Inside c := by
  intro p i w t hi ht
  have hp := (List.getElem?_eq_some_iff.1 hi).1
  rcases goes_place ht with ⟨hl, h1, h2, h3, e⟩ | ⟨h1, h2, e⟩
  · simp only [isPl, Bool.and_eq_true, decide_eq_true_eq] at h3
    have := hfar i (List.mem_of_getElem? hi)
    have : ¬ (c.length : Int) ≤ i.imm := fun h => this ⟨hl, h1, h2, h, h3.2⟩
    omega
  · simp only at e
    by_cases h : p + 1 < c.length
    · omega
    · have : p = c.length - 1 := by omega
      subst this
      rcases hlast i hi with h | h <;> contradiction
section
variable {c d : List In}
theorem cm_in (h : Inside c) (h0 : 0 < c.length) {q : Option Nat} {s : Spot} (hs : Cm (c ++ d) q s) : Cm c q s ∧ s.1 < c.length := by
  induction hs with
  | start => exact ⟨.start, h0⟩
  | @step s t i _ hi hk ht ih =>
    rw [List.getElem?_append_left ih.2] at hi
    exact ⟨.step ih.1 hi hk ht, h s.1 i s.2 t hi ht⟩
theorem cm_out {q : Option Nat} {s : Spot} (hs : Cm c q s) : Cm (c ++ d) q s := by
  induction hs with
  | start => exact .start
  | @step s t i _ hi hk ht ih =>
    refine .step ih ?_ hk ht
    rw [List.getElem?_append_left (List.getElem?_eq_some_iff.1 hi).1]; exact hi
theorem met_part (h : Inside c) (h0 : 0 < c.length) {f g : MV} (hf : MetOf c f) (hg : MetOf (c ++ d) g) : f = g := by
  refine hf.eq fun s => ?_
  have hq : ∀ q s, Cm (c ++ d) q s ↔ Cm c q s := fun q s => ⟨fun k => (cm_in h h0 k).1, cm_out⟩
  obtain ⟨a, b⟩ := hg s
  exact ⟨a.trans (hq _ _), fun m e => ⟨(b m e).1, fun r hr => ((b m e).2 r hr).trans (hq _ _)⟩⟩
theorem metR_in (h : Inside c) (h0 : 0 < c.length) {f : MV} (hf : MetOf c f) {p : Nat} (hp : c.length ≤ p) (w : Bool) : f (p, w) = none := by
  cases e : f (p, w) with
  | none => rfl
  | some m =>
    have := (hf (p, w)).1.1 (by rw [e]; rfl)
    have := (cm_in (d := []) h h0 (by rw [List.append_nil]; exact this)).2
    simp only at this; omega
theorem findI_part (h : Inside c) {p : Nat} {i : In} (hi : c[p]? = some i) (k : Nat) (w : Bool) : findI (c ++ d).length k i (p, w) = findI c.length k i (p, w) := by
  unfold findI
  split <;> try rfl
  have : ∀ n, c.length ≤ n → ((lgoI i (p, w)).any fun t => t.2 && decide (n ≤ t.1)) = false := fun n hn => by
    rw [List.any_eq_false]
    intro t ht
    have := h p i w t hi ht
    simp only [Bool.and_eq_true, decide_eq_true_eq, not_and]
    omega
  rw [this _ (by simp), this _ (by omega)]
theorem findB_in (h : Inside c) {f : MV} {k p : Nat} (hp : p < c.length) : findB (c ++ d) f k p = findB c f k p := by
  unfold findB
  rw [List.getElem?_append_left hp]
  obtain ⟨i, hi⟩ : ∃ i, c[p]? = some i := ⟨_, List.getElem?_eq_getElem hp⟩
  rw [hi]
  simp only [findP, fWay, fAt, findI_part h hi]
theorem findB_out (h : Inside c) (h0 : 0 < c.length) {f : MV} (hf : MetOf c f) {k p : Nat} (hp : c.length ≤ p) (hd : p < c.length + d.length) : findB (c ++ d) f k p = decide (k = 8) := by
  unfold findB
  obtain ⟨i, hi⟩ : ∃ i, (c ++ d)[p]? = some i := ⟨_, List.getElem?_eq_getElem (by simpa using hd)⟩
  rw [hi]
  simp only [findP, fWay, metR_in h h0 hf hp]
  by_cases hk : k = 8
  · simp [hk]
  · simp [hk]
theorem rowB_part (h : Inside c) (h0 : 0 < c.length) {f : MV} (hf : MetOf c f) (k : Nat) : rowB (c ++ d) f k = rowB c f k ++ (if k = 8 then (List.range d.length).map fun j => (8, c.length + j) else []) := by
  unfold rowB
  rw [List.length_append, List.range_add, List.filter_append, List.map_append]
  congr 1
  · congr 1
    exact List.filter_congr fun p hp => findB_in h (List.mem_range.1 hp)
  · by_cases hk : k = 8
    · rw [if_pos hk, List.filter_eq_self.2 (fun p hp => ?_), List.map_map]
      · subst hk; rfl
      · obtain ⟨j, hj, rfl⟩ := List.mem_map.1 hp
        have := List.mem_range.1 hj
        rw [findB_out h h0 hf (by omega) (by omega)]; simpa using hk
    · rw [if_neg hk, List.filter_eq_nil_iff.2 (fun p hp => ?_)]
      · rfl
      · obtain ⟨j, hj, rfl⟩ := List.mem_map.1 hp
        have := List.mem_range.1 hj
        rw [findB_out h h0 hf (by omega) (by omega)]; simpa using hk
theorem lookB_part (h : Inside c) (h0 : 0 < c.length) {f : MV} (hf : MetOf c f) : lookB (c ++ d) f = lookB c f ++ (List.range d.length).map fun j => (8, c.length + j) := by
  have key : ∀ l : List Nat, 8 ∉ l → l.flatMap (rowB (c ++ d) f) = l.flatMap (rowB c f) := fun l hl => by
    induction l with
    | nil => rfl
    | cons k l ih =>
      rw [List.flatMap_cons, List.flatMap_cons, ih (fun e => hl (List.mem_cons_of_mem _ e)), rowB_part h h0 hf, if_neg (fun e => hl (by simp [e])), List.append_nil]
  unfold lookB
  rw [show List.range 9 = List.range 8 ++ [8] from rfl, List.flatMap_append, List.flatMap_append, key _ (by decide)]
  simp only [List.flatMap_cons, List.flatMap_nil, List.append_nil]
  rw [rowB_part h h0 hf, if_pos rfl, List.append_assoc]
end
end Go.Proofs.YteijhcibdglkeaaGreatDoor
