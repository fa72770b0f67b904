/- What an instruction says comes next, beside the program's parts. Conditions: those stated in each theorem. -/
import Derived.Test.YtehnailokgoekaaGreatDoorFlwK
import Derived.Test.YtehnailokgoekaaGreatDoorIsaXE
namespace Go.Proofs.YtehnailokgoekaaGreatDoor
open Go.RowKit Go.BigFrame Go.Shelf

/-- No part begins within a part. -/
theorem spans_inside (len : Nat) : ∀ (l : List Nat) (x : Nat × Nat) (b : Nat), l.Pairwise (· < ·) → x ∈ spansP len l → b ∈ l → x.1 < b → x.2 ≤ b
  | [], _, _, _, h, _, _ => by simp [spansP] at h
  | [a], x, b, _, h, hb, hlt => by
    simp [spansP] at h hb; subst h; subst hb; omega
  | a :: c :: r, x, b, hs, h, hb, hlt => by
    simp only [spansP] at h
    have hs2 := (List.pairwise_cons.1 hs).2
    rcases List.mem_cons.1 h with e | h'
    · subst e
      rcases List.mem_cons.1 hb with e | hb'
      · subst e; simp at hlt
      · rcases List.mem_cons.1 hb' with e | hb2
        · subst e; exact Nat.le_refl _
        · exact Nat.le_of_lt ((List.pairwise_cons.1 hs2).1 _ hb2)
    · rcases List.mem_cons.1 hb with e | hb'
      · subst e
        have h1 := spans_mem len (c :: r) x h'
        have := (List.pairwise_cons.1 hs).1 _ h1
        omega
      · exact spans_inside len (c :: r) x b hs2 h' hb' hlt
theorem parts_mem {c : List In} {k : Nat} {p : Pt} (h : (partsP c)[k]? = some p) : (p.lo, p.hi) ∈ spansP c.length (begsP c) ∧ p.nx = nextP c p.hi := by
  unfold partsP at h
  rw [List.getElem?_map, Option.map_eq_some_iff] at h
  obtain ⟨x, hx, rfl⟩ := h
  exact ⟨List.mem_of_getElem? hx, rfl⟩
theorem part_begin {c : List In} {b : Nat} (hb : b ∈ begsP c) : ∃ p, (partsP c)[numP c b]? = some p ∧ p.lo = b := by
  obtain ⟨p, hp, h1, h2⟩ := num_part (begs_lt hb)
  refine ⟨p, hp, ?_⟩
  have := spans_inside c.length (begsP c) _ b (begs_sorted c) (parts_mem hp).1 hb
  simp only at this
  by_cases e : p.lo = b
  · exact e
  · have := this (by omega); omega
theorem begs_of {c : List In} {b : Nat} (h : b < c.length) (hf : firstP c b = true) : b ∈ begsP c := List.mem_filter.2 ⟨List.mem_range.2 h, hf⟩
/-- An instruction that is not the last one of its part does not end it. -/
theorem not_ends {c : List In} {k p : Nat} {x : Pt} {i : In} (hx : (partsP c)[k]? = some x) (h1 : x.lo ≤ p) (h2 : p + 1 < x.hi) (hi : c[p]? = some i) (hn : x.hi ≤ c.length) : endsP i = false := by
  cases he : endsP i with
  | false => rfl
  | true =>
    have hb : p + 1 ∈ begsP c := begs_of (by omega) (by simp [firstP, endsAt_some hi, he])
    have := spans_inside c.length (begsP c) _ _ (begs_sorted c) (parts_mem hx).1 hb
    simp only at this
    have := this (by omega); omega
/-- Where the last one of a part goes, a part behind it begins. -/
theorem next_begin {c : List In} {k p t : Nat} {x : Pt} (hx : (partsP c)[k]? = some x) (hp : p + 1 = x.hi) (ht : t ∈ gosP c p) : ∃ m y, m ∈ x.nx ∧ (partsP c)[m]? = some y ∧ y.lo = t := by
  have htl := gosP_lt ht
  have hb : t ∈ begsP c := by
    cases he : endsAt c p with
    | true =>
      refine begs_of htl ?_
      have : goneP c c.length t = true := by
        unfold goneP
        rw [List.any_eq_true]
        have hpl : p < c.length := by
          unfold endsAt at he
          split at he
          · cases he
          · exact (List.getElem?_eq_some_iff.1 ‹_›).1
        exact ⟨p, List.mem_range.2 hpl, by simp [he, ht]⟩
      simp [firstP, this]
    | false =>
      unfold gosP at ht
      split at ht
      · cases ht
      · rename_i i hi
        rw [endsAt_some hi] at he
        unfold endsP at he
        simp only [Bool.or_eq_false_iff, Bool.not_eq_false'] at he
        unfold gosI at ht
        rw [he.1] at ht
        simp only [Bool.false_and, Bool.false_eq_true, if_false, List.nil_append] at ht
        split at ht
        · rename_i hc
          simp only [he.2, Bool.true_and, decide_eq_true_eq] at hc
          simp only [List.mem_singleton] at ht
          subst ht
          have hxm := (parts_mem hx).1
          obtain ⟨j, hj⟩ := List.getElem?_of_mem hxm
          have hjl := (List.getElem?_eq_some_iff.1 hj).1
          by_cases hlast : j + 1 < (spansP c.length (begsP c)).length
          · obtain ⟨y, hy⟩ : ∃ y, (spansP c.length (begsP c))[j + 1]? = some y := ⟨_, List.getElem?_eq_getElem hlast⟩
            have := spans_chain c.length (begsP c) j _ _ hj hy
            simp only at this
            rw [hp, this]
            exact spans_mem c.length (begsP c) y (List.mem_of_getElem? hy)
          · have : j = (begsP c).length - 1 := by rw [spans_len] at hlast hjl; omega
            subst this
            have := spans_end c.length (begsP c) _ hj
            simp only at this
            omega
        · cases ht
  obtain ⟨y, hy, hlo⟩ := part_begin hb
  refine ⟨numP c t, y, ?_, hy, hlo⟩
  rw [(parts_mem hx).2]
  unfold nextP
  rw [List.mem_filter]
  refine ⟨List.mem_range.2 (num_lt htl), ?_⟩
  have e : x.hi - 1 = p := by omega
  rw [e, List.contains_iff_mem]
  exact List.mem_map_of_mem ht
theorem part_hi {c : List In} {k : Nat} {x : Pt} (hx : (partsP c)[k]? = some x) : x.lo < x.hi ∧ x.hi ≤ c.length :=
  spans_lt c.length (begsP c) (begs_sorted c) (fun _ => begs_lt) _ (parts_mem hx).1
theorem way_goes {i : In} (h : endsP i = false) : legalP i = true ∧ i.op ≠ 1 ∧ i.op ≠ 13 ∧ i.op ≠ 14 ∧ i.op ≠ 15 ∧ i.op ≠ 16 := by
  unfold endsP wayP at h
  split at h
  · simp at h
  · rename_i hl
    split at h
    · simp at h
    · split at h
      · simp at h
      · split at h
        · simp at h
        · rename_i h1 h2 h3
          simp only [not_or] at h3
          exact ⟨by simpa using hl, h1, h2, h3.1, h3.2.1, h3.2.2⟩


theorem do_plain {i : In} (x : L8) {p : Nat} (hp : p < 1024) (h : endsP i = false) : (doP i x p).kind ≠ 0 ∧ (doP i x p).kind ≠ 7 ∧ (doP i x p).next = (p : Int) + 1 := by
  obtain ⟨hl, h1, h13, h14, h15, h16⟩ := way_goes h
  unfold doP
  rw [if_neg (by simp [hl]; omega), if_neg h1]
  split
  · simp
  · split
    · simp
    · split
      · simp
      · split
        · simp
        · rw [if_neg (by simp [h13, h14, h15, h16])]
          simp
theorem do_goes {c : List In} {i : In} (x : L8) {p : Nat} (hc : c[p]? = some i) : (doP i x p).kind = 0 ∨ (doP i x p).kind = 7 ∨ ∃ t : Nat, (doP i x p).next = t ∧ (t < c.length → t ∈ gosP c p) := by
  have hbeh : ∀ (b : Bool), wayP i = (b, true) → p + 1 < c.length → p + 1 ∈ gosP c p := fun b hw hlt => by
    rw [gosP_some hc]; unfold gosI; rw [hw]; simp [hlt]
  unfold doP
  by_cases h0 : legalP i = false ∨ (p : Int) < 0 ∨ 1024 ≤ (p : Int)
  · rw [if_pos h0]; exact .inl rfl
  rw [if_neg h0]
  have hl : legalP i = true := by
    cases h : legalP i with
    | true => rfl
    | false => exact absurd (.inl h) h0
  by_cases h1 : i.op = 1
  · rw [if_pos h1]; exact .inr (.inl rfl)
  rw [if_neg h1]
  have hpl : ∀ (k r v a : Int), i.op ≠ 13 → (⟨k, (p : Int) + 1, r, v, a⟩ : Ef).kind = 0 ∨ (⟨k, (p : Int) + 1, r, v, a⟩ : Ef).kind = 7 ∨ ∃ t : Nat, (⟨k, (p : Int) + 1, r, v, a⟩ : Ef).next = t ∧ (t < c.length → t ∈ gosP c p) := fun k r v a h13 => by
    refine .inr (.inr ⟨p + 1, by simp, ?_⟩)
    by_cases hb : i.op = 14 ∨ i.op = 15 ∨ i.op = 16
    · exact hbeh true (by simp [wayP, hl, h1, h13, hb])
    · exact hbeh false (by simp only [wayP, hl, h1, h13, hb, if_false, Bool.true_eq_false])
  by_cases h17 : i.op = 17
  · rw [if_pos h17]; exact hpl _ _ _ _ (by omega)
  rw [if_neg h17]
  by_cases h18 : i.op = 18
  · rw [if_pos h18]; exact hpl _ _ _ _ (by omega)
  rw [if_neg h18]
  by_cases h11 : i.op = 11
  · rw [if_pos h11]; exact hpl _ _ _ _ (by omega)
  rw [if_neg h11]
  by_cases h12 : i.op = 12
  · rw [if_pos h12]; exact hpl _ _ _ _ (by omega)
  rw [if_neg h12]
  by_cases hb : i.op = 13 ∨ i.op = 14 ∨ i.op = 15 ∨ i.op = 16
  · rw [if_pos hb]
    unfold branchP
    by_cases hg : goesD i x = false
    · rw [if_pos hg]
      have h13 : i.op ≠ 13 := fun e => by unfold goesD at hg; simp [e] at hg
      exact hpl _ _ _ _ h13
    · rw [if_neg hg]
      by_cases hm : i.imm < 0 ∨ 1024 < i.imm
      · rw [if_pos hm]; exact .inl rfl
      · rw [if_neg hm]
        refine .inr (.inr ⟨i.imm.toNat, by simp; omega, fun hlt => ?_⟩)
        have hw : (wayP i).1 = true := by
          unfold wayP
          rw [if_neg (by simp [hl]), if_neg h1]
          by_cases h13 : i.op = 13
          · rw [if_pos h13]
          · rw [if_neg h13, if_pos (by omega)]
        rw [gosP_some hc]; unfold gosI
        rw [hw]
        refine List.mem_append_left _ ?_
        rw [if_pos (by simp; omega)]
        simp
  · rw [if_neg hb]; exact hpl _ _ _ _ (by omega)

end Go.Proofs.YtehnailokgoekaaGreatDoor
