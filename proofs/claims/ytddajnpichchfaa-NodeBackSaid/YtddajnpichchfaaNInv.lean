/- What all calls of a cache keep: plain facts. Conditions: those stated in each theorem. -/
import Derived.Test.YtddajnpichchfaaNStep
namespace Go.Proofs.Ytddajnpichchfaa

structure Inv (n ways : Nat) (ss : Sets) (u : Int) : Prop where
  len : ss.length = n
  wide : ∀ s ∈ ss, s.length = ways
  mod : ∀ i j, (getE ss i j).state ≠ 0 → 0 ≤ (getE ss i j).line ∧ (getE ss i j).line.toNat % n = i
  once : ∀ i j j', (getE ss i j).state ≠ 0 → (getE ss i j').state ≠ 0 → (getE ss i j).line = (getE ss i j').line → j = j'
  zero : ∀ i j, (getE ss i j).state = 0 → getE ss i j = Ent.zero
  st : ∀ i j, (getE ss i j).state ≠ 0 → (getE ss i j).state = 1 ∨ (getE ss i j).state = 2
  used : ∀ i j, (getE ss i j).state ≠ 0 → 1 ≤ (getE ss i j).used ∧ (getE ss i j).used ≤ u
  apart : ∀ i j i' j', (getE ss i j).state ≠ 0 → (getE ss i' j').state ≠ 0 → (getE ss i j).used = (getE ss i' j').used → i = i' ∧ j = j'

section
variable {n ways : Nat} {ss : Sets} {u : Int}

theorem Inv.row (h : Inv n ways ss u) {i : Nat} (hi : i < n) : (ss.getD i []).length = ways := by
  have hi' : i < ss.length := by rw [h.len]; exact hi
  simp only [List.getD_eq_getElem?_getD, List.getElem?_eq_getElem hi', Option.getD_some]; exact h.wide _ (List.getElem_mem hi')
theorem Inv.inn (h : Inv n ways ss u) {i j : Nat} (hs : (getE ss i j).state ≠ 0) : i < n ∧ j < ways := by
  by_cases hi : i < n
  · refine ⟨hi, ?_⟩
    have := h.row hi
    by_cases hj : j < ways
    · exact hj
    · refine absurd ?_ hs
      simp only [getE, List.getD_eq_getElem?_getD] at this ⊢
      rw [List.getElem?_eq_none (l := (ss[i]?.getD [])) (by omega)]; rfl
  · refine absurd ?_ hs
    simp only [getE, List.getD_eq_getElem?_getD]
    rw [List.getElem?_eq_none (l := ss) (by rw [h.len]; omega)]; rfl
theorem Inv.getE_upd (h : Inv n ways ss u) {i j : Nat} (hi : i < n) (hj : j < ways) (e : Ent) (i' j' : Nat) : getE (upd ss i j e) i' j' = if i' = i ∧ j' = j then e else getE ss i' j' :=
  Go.Proofs.Ytddajnpichchfaa.getE_upd ss i j i' j' e (by rw [h.len]; exact hi) (by rw [h.row hi]; exact hj)

theorem Inv.upd (h : Inv n ways ss u) {i j : Nat} (hi : i < n) (hj : j < ways) (e : Ent) {u' : Int} (hu : u ≤ u')
    (he : e = Ent.zero ∨ ((e.state = 1 ∨ e.state = 2) ∧ 0 ≤ e.line ∧ e.line.toNat % n = i ∧ (∀ j', j' ≠ j → (getE ss i j').state ≠ 0 → (getE ss i j').line ≠ e.line) ∧ 1 ≤ e.used ∧ e.used ≤ u' ∧ (∀ i' j', ¬ (i' = i ∧ j' = j) → (getE ss i' j').state ≠ 0 → (getE ss i' j').used ≠ e.used))) : Inv n ways (upd ss i j e) u' := by
  have g := h.getE_upd hi hj e
  have hz : Ent.zero.state = 0 := rfl
  refine ⟨by rw [Go.Proofs.Ytddajnpichchfaa.upd, List.length_set, h.len], fun s hs => ?_, fun i' j' => ?_, fun i' j1 j2 => ?_, fun i' j' => ?_, fun i' j' => ?_, fun i' j' => ?_, fun i1 j1 i2 j2 => ?_⟩
  · rcases List.mem_or_eq_of_mem_set hs with hs | rfl
    · exact h.wide _ hs
    · rw [List.length_set, h.row hi]
  · rw [g]
    split
    · rename_i hc
      obtain ⟨rfl, rfl⟩ := hc
      rcases he with rfl | he
      · intro h0; exact absurd hz h0
      · intro _; exact ⟨he.2.1, he.2.2.1⟩
    · exact h.mod i' j'
  · rw [g, g]
    split <;> split
    · rename_i h1 h2; intro _ _ _; rw [h1.2, h2.2]
    · rename_i h1 h2
      obtain ⟨rfl, rfl⟩ := h1
      rcases he with rfl | he
      · intro h0; exact absurd hz h0
      · intro _ hs hl; exact absurd hl.symm (he.2.2.2.1 j2 (fun e => h2 ⟨rfl, e⟩) hs)
    · rename_i h2 h1
      obtain ⟨rfl, rfl⟩ := h1
      rcases he with rfl | he
      · intro _ h0; exact absurd hz h0
      · intro hs _ hl; exact absurd hl (he.2.2.2.1 j1 (fun e => h2 ⟨rfl, e⟩) hs)
    · exact h.once i' j1 j2
  · rw [g]
    split
    · rcases he with rfl | he
      · intro _; rfl
      · intro h0; have := he.1; omega
    · exact h.zero i' j'
  · rw [g]
    split
    · rcases he with rfl | he
      · intro h0; exact absurd hz h0
      · intro _; exact he.1
    · exact h.st i' j'
  · rw [g]
    split
    · rcases he with rfl | he
      · intro h0; exact absurd hz h0
      · intro _; exact ⟨he.2.2.2.2.1, he.2.2.2.2.2.1⟩
    · intro hs; have := h.used i' j' hs; omega
  · rw [g, g]
    split <;> split
    · rename_i h1 h2; intro _ _ _; rw [h1.1, h1.2, h2.1, h2.2]; exact ⟨rfl, rfl⟩
    · rename_i h1 h2
      obtain ⟨rfl, rfl⟩ := h1
      rcases he with rfl | he
      · intro h0; exact absurd hz h0
      · intro _ hs hl; exact absurd hl.symm (he.2.2.2.2.2.2 i2 j2 h2 hs)
    · rename_i h2 h1
      obtain ⟨rfl, rfl⟩ := h1
      rcases he with rfl | he
      · intro _ h0; exact absurd hz h0
      · intro hs _ hl; exact absurd hl (he.2.2.2.2.2.2 i1 j1 h2 hs)
    · exact h.apart i1 j1 i2 j2

theorem Inv.turn (h : Inv n ways ss u) {i j : Nat} (hs : (getE ss i j).state ≠ 0) (e : Ent) {u' : Int} (h1 : e.state = 1 ∨ e.state = 2) (h2 : e.line = (getE ss i j).line) (h0 : 0 ≤ u)
    (h3 : (e.used = (getE ss i j).used ∧ u' = u) ∨ (e.used = u + 1 ∧ u' = u + 1)) : Inv n ways (Go.Proofs.Ytddajnpichchfaa.upd ss i j e) u' := by
  obtain ⟨hi, hj⟩ := h.inn hs
  have hu := h.used i j hs
  refine h.upd hi hj e (by omega) (.inr ⟨h1, by rw [h2]; exact (h.mod i j hs).1, by rw [h2]; exact (h.mod i j hs).2, fun j' hne hs' hl => hne (h.once i j' j hs' hs (by rw [hl, h2])), by omega, by omega, fun i' j' hne hs' hl => ?_⟩)
  rcases h3 with h3 | h3
  · exact hne (h.apart i' j' i j hs' hs (by rw [hl, h3.1]))
  · have := (h.used i' j' hs').2; omega

theorem Inv.finds_some (h : Inv n ways ss u) (hn : 1 ≤ n) {k : Int} {i j : Nat} (hf : Finds ss k = some (i, j)) : 0 ≤ k ∧ i = k.toNat % n ∧ i < n ∧ j < ways ∧ (getE ss i j).state ≠ 0 ∧ (getE ss i j).line = k := by
  unfold Finds at hf
  split at hf
  · cases hf
  · rw [Option.map_eq_some_iff] at hf
    obtain ⟨j', hj, he⟩ := hf
    simp only [Prod.mk.injEq] at he
    obtain ⟨rfl, rfl⟩ := he
    have hil : k.toNat % ss.length < n := by rw [h.len]; exact Nat.mod_lt _ hn
    rw [List.findIdx?_eq_some_iff_getElem] at hj
    obtain ⟨hjl, hp, _⟩ := hj
    have hg : getE ss (k.toNat % ss.length) j' = (ss.getD (k.toNat % ss.length) [])[j'] := by rw [getE, List.getD_eq_getElem?_getD, List.getElem?_eq_getElem hjl]; rfl
    rw [hg]
    have hw := h.row hil
    simp only [Ent.is, decide_eq_true_eq] at hp
    exact ⟨by omega, by rw [h.len], hil, by omega, hp.1, hp.2⟩
theorem Inv.finds_none (h : Inv n ways ss u) {k : Int} (hf : Finds ss k = none) {i j : Nat} (hs : (getE ss i j).state ≠ 0) : (getE ss i j).line ≠ k := by
  rintro rfl
  obtain ⟨h1, h2⟩ := h.mod i j hs
  obtain ⟨hi, hj⟩ := h.inn hs
  unfold Finds at hf
  rw [if_neg (by omega), Option.map_eq_none_iff, List.findIdx?_eq_none_iff, h.len, h2] at hf
  have hjl : j < (ss.getD i []).length := by rw [h.row hi]; exact hj
  have hg : getE ss i j = (ss.getD i [])[j] := by rw [getE, List.getD_eq_getElem?_getD, List.getElem?_eq_getElem hjl]; rfl
  have := hf _ (List.getElem_mem hjl)
  rw [← hg] at this
  simp [Ent.is, hs] at this
theorem Inv.finds_of (h : Inv n ways ss u) (hn : 1 ≤ n) {i j : Nat} (hs : (getE ss i j).state ≠ 0) : Finds ss (getE ss i j).line = some (i, j) := by
  cases hf : Finds ss (getE ss i j).line with
  | none => exact absurd rfl (h.finds_none hf hs)
  | some x =>
    obtain ⟨i', j'⟩ := x
    obtain ⟨_, h2, _, _, h5, h6⟩ := h.finds_some hn hf
    have := (h.mod i j hs).2
    obtain rfl : i' = i := by rw [h2, this]
    rw [h.once i' j' j h5 hs h6]
theorem Inv.goes_some (h : Inv n ways ss u) (hn : 1 ≤ n) {k : Nat} {i j : Nat} (hg : Goes ss k = some (i, j)) :
    i = k % n ∧ i < n ∧ j < ways ∧ (getE ss i j).marked = false ∧ ∀ j', j' < ways → (getE ss i j').marked = false → (getE ss i j).used ≤ (getE ss i j').used := by
  unfold Goes at hg
  rw [Option.map_eq_some_iff] at hg
  obtain ⟨j', hj, he⟩ := hg
  simp only [Prod.mk.injEq] at he
  obtain ⟨rfl, rfl⟩ := he
  have hil : k % ss.length < n := by rw [h.len]; exact Nat.mod_lt _ hn
  rw [List.findIdx?_eq_some_iff_getElem] at hj
  obtain ⟨hjl, hp, _⟩ := hj
  have hw := h.row hil
  have hg : ∀ j (hj : j < (ss.getD (k % ss.length) []).length), getE ss (k % ss.length) j = (ss.getD (k % ss.length) [])[j] := fun j hj => by rw [getE, List.getD_eq_getElem?_getD, List.getElem?_eq_getElem hj]; rfl
  rw [hg _ hjl]
  simp only [goes, Bool.and_eq_true, Bool.not_eq_true', List.all_eq_true, Bool.or_eq_true, decide_eq_false_iff_not] at hp
  refine ⟨by rw [h.len], hil, by omega, hp.1, fun j2 hj2 hm => ?_⟩
  have hl2 : j2 < (ss.getD (k % ss.length) []).length := by omega
  rw [hg _ hl2] at hm ⊢
  exact Int.not_lt.1 ((hp.2 _ (List.getElem_mem hl2)).resolve_left (by rw [hm]; exact Bool.false_ne_true))

theorem Inv.fresh (h : Inv n ways ss u) (hn : 1 ≤ n) (h0 : 0 ≤ u) {k st : Int} (d : L8) (hk : 0 ≤ k) (hst : st = 1 ∨ st = 2) (hf : Finds ss k = none) {i j : Nat} (hg : Goes ss k.toNat = some (i, j)) : Inv n ways (Go.Proofs.Ytddajnpichchfaa.upd ss i j (Ent.fresh k st d (u + 1))) (u + 1) := by
  obtain ⟨h1, hi, hj, _⟩ := h.goes_some hn hg
  refine h.upd hi hj _ (by omega) (.inr ⟨hst, hk, h1.symm, fun j' _ hs => h.finds_none hf hs, by simp [Ent.fresh]; omega, by simp [Ent.fresh], fun i' j' _ hs hl => ?_⟩)
  have := (h.used i' j' hs).2
  simp [Ent.fresh] at hl; omega

theorem getE_turnAll (f : Ent → Ent) (ss : Sets) (i j : Nat) : getE (turnAll f ss) i j = if (getE ss i j).state ≠ 0 then f (getE ss i j) else getE ss i j := by
  unfold getE turnAll
  simp only [List.getD_eq_getElem?_getD, List.getElem?_map]
  cases h1 : ss[i]? with
  | none => simp [Ent.zero]
  | some s =>
    simp only [Option.map_some, Option.getD_some, List.getElem?_map]
    cases h2 : s[j]? with
    | none => simp [Ent.zero]
    | some e => simp
theorem Inv.all (h : Inv n ways ss u) {f : Ent → Ent} (h1 : ∀ e, (f e).state = e.state) (h2 : ∀ e, (f e).line = e.line) (h3 : ∀ e, (f e).used = e.used) : Inv n ways (turnAll f ss) u := by
  have gs : ∀ i j, (getE (turnAll f ss) i j).state = (getE ss i j).state := fun i j => by rw [getE_turnAll]; split <;> simp [h1]
  have gl : ∀ i j, (getE (turnAll f ss) i j).line = (getE ss i j).line := fun i j => by rw [getE_turnAll]; split <;> simp [h2]
  have gu : ∀ i j, (getE (turnAll f ss) i j).used = (getE ss i j).used := fun i j => by rw [getE_turnAll]; split <;> simp [h3]
  refine ⟨by simp [turnAll, h.len], fun s hs => ?_, fun i j => ?_, fun i j j' => ?_, fun i j hs => ?_, fun i j => ?_, fun i j => ?_, fun i j i' j' => ?_⟩
  · simp only [turnAll, List.mem_map] at hs
    obtain ⟨s', hs', rfl⟩ := hs
    rw [List.length_map]; exact h.wide _ hs'
  · rw [gs, gl]; exact h.mod i j
  · rw [gs, gs, gl, gl]; exact h.once i j j'
  · rw [gs] at hs; rw [getE_turnAll, if_neg (by simpa using hs)]; exact h.zero i j hs
  · rw [gs]; exact h.st i j
  · rw [gs, gu]; exact h.used i j
  · rw [gs, gs, gu, gu]; exact h.apart i j i' j'
theorem inv_new (n ways : Nat) : Inv n ways (newSets n ways) 0 := by
  have hz : ∀ i j, getE (newSets n ways) i j = Ent.zero := fun i j => by
    unfold getE newSets
    simp only [List.getD_eq_getElem?_getD, List.getElem?_replicate]
    split
    · simp only [Option.getD_some, List.getElem?_replicate]; split <;> rfl
    · rfl
  have h0 : Ent.zero.state = 0 := rfl
  refine ⟨by simp [newSets], fun s hs => ?_, fun i j hs => ?_, fun i j j' hs => ?_, fun i j _ => hz i j, fun i j hs => ?_, fun i j hs => ?_, fun i j i' j' hs => ?_⟩
  · obtain ⟨_, rfl⟩ := List.mem_replicate.1 hs; simp
  all_goals exact absurd (by rw [hz]; exact h0) hs
end

theorem Ent.keep_same (e : Ent) : e.keep.state = e.state ∧ e.keep.line = e.line ∧ e.keep.used = e.used := by unfold Ent.keep; split <;> simp
theorem Ent.back_same (e : Ent) : e.back.state = e.state ∧ e.back.line = e.line ∧ e.back.used = e.used := by unfold Ent.back; split <;> simp
theorem Ent.clear_same (e : Ent) : e.clear.state = e.state ∧ e.clear.line = e.line ∧ e.clear.used = e.used := by unfold Ent.clear; simp

section
variable {n ways : Nat} {ss : Sets} {u : Int}
theorem Inv.fillL (h : Inv n ways ss u) (hn : 1 ≤ n) (h0 : 0 ≤ u) (k st : Int) (d : L8) : Inv n ways (fillL ss u k st d).1 (fillL ss u k st d).2.1 := by
  unfold Go.Proofs.Ytddajnpichchfaa.fillL
  split
  · exact h
  · split
    · exact h
    · rename_i hf
      split
      · exact h
      · rename_i i j hg; exact h.fresh hn h0 d (by omega) (by omega) hf hg
theorem Inv.wordL (h : Inv n ways ss u) (hn : 1 ≤ n) (h0 : 0 ≤ u) (a : Int) : Inv n ways (wordL ss u a).1 (wordL ss u a).2.1 := by
  unfold Go.Proofs.Ytddajnpichchfaa.wordL
  split
  · exact h
  · split
    · exact h
    · rename_i i j hf
      obtain ⟨_, _, _, _, hs, _⟩ := h.finds_some hn hf
      exact h.turn hs _ (h.st i j hs) rfl h0 (.inr ⟨rfl, rfl⟩)
theorem Inv.putL (h : Inv n ways ss u) (hn : 1 ≤ n) (h0 : 0 ≤ u) (a v : Int) : Inv n ways (putL ss u a v).1 (putL ss u a v).2.1 := by
  unfold Go.Proofs.Ytddajnpichchfaa.putL
  split
  · exact h
  · split
    · exact h
    · rename_i i j hf
      obtain ⟨_, _, _, _, hs, _⟩ := h.finds_some hn hf
      split
      · exact h.turn hs _ (h.st i j hs) rfl h0 (.inr ⟨rfl, rfl⟩)
      · exact h
theorem Inv.markL (h : Inv n ways ss u) (hn : 1 ≤ n) (h0 : 0 ≤ u) (k : Int) (write : Bool) : Inv n ways (markL ss u k write).1 (markL ss u k write).2.1 := by
  unfold Go.Proofs.Ytddajnpichchfaa.markL
  split
  · exact h
  · rename_i i j hf
    obtain ⟨_, _, _, _, hs, _⟩ := h.finds_some hn hf
    have hk := Ent.keep_same (getE ss i j)
    split
    · split
      · exact h.turn hs _ (by rw [hk.1]; exact h.st i j hs) hk.2.1 h0 (.inl ⟨hk.2.2, rfl⟩)
      · exact h
    · exact h.turn hs _ (h.st i j hs) rfl h0 (.inl ⟨rfl, rfl⟩)
theorem Inv.demoteL (h : Inv n ways ss u) (hn : 1 ≤ n) (h0 : 0 ≤ u) (k : Int) : Inv n ways (demoteL ss u k).1 (demoteL ss u k).2.1 := by
  unfold Go.Proofs.Ytddajnpichchfaa.demoteL
  split
  · exact h
  · rename_i i j hf
    obtain ⟨_, _, _, _, hs, _⟩ := h.finds_some hn hf
    split
    · exact h.turn hs _ (.inl rfl) rfl h0 (.inl ⟨rfl, rfl⟩)
    · exact h
theorem Inv.promoteL (h : Inv n ways ss u) (hn : 1 ≤ n) (h0 : 0 ≤ u) (k : Int) (d : L8) : Inv n ways (promoteL ss u k d).1 (promoteL ss u k d).2.1 := by
  unfold Go.Proofs.Ytddajnpichchfaa.promoteL
  split
  · exact h
  · rename_i i j hf
    obtain ⟨_, _, _, _, hs, _⟩ := h.finds_some hn hf
    split
    · exact h.turn hs _ (.inr rfl) rfl h0 (.inl ⟨rfl, rfl⟩)
    · exact h
theorem Inv.dropL (h : Inv n ways ss u) (hn : 1 ≤ n) (k : Int) : Inv n ways (dropL ss u k).1 (dropL ss u k).2.1 := by
  unfold Go.Proofs.Ytddajnpichchfaa.dropL
  split
  · exact h
  · rename_i i j hf
    obtain ⟨_, _, hi, hj, _⟩ := h.finds_some hn hf
    exact h.upd hi hj _ (Int.le_refl _) (.inl rfl)
theorem Inv.commit (h : Inv n ways ss u) : Inv n ways (turnAll Ent.clear ss) u := h.all (fun e => (Ent.clear_same e).1) (fun e => (Ent.clear_same e).2.1) (fun e => (Ent.clear_same e).2.2)
theorem Inv.discard (h : Inv n ways ss u) : Inv n ways (turnAll Ent.clear (turnAll Ent.back ss)) u := (h.all (fun e => (Ent.back_same e).1) (fun e => (Ent.back_same e).2.1) (fun e => (Ent.back_same e).2.2)).commit

end

end Go.Proofs.Ytddajnpichchfaa
