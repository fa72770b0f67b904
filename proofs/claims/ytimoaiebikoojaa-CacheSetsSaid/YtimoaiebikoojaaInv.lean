/- What all calls of a cache keep: plain facts. Conditions: those stated in each theorem. -/
import Derived.Test.YtimoaiebikoojaaPlay
namespace Go.Proofs.Ytimoaiebikoojaa

structure Inv (n ways : Nat) (ss : Sets) (u : Int) : Prop where
  len : ss.length = n
  wide : ∀ s ∈ ss, s.length = ways
  mod : ∀ i j, (getE ss i j).state ≠ 0 → 0 ≤ (getE ss i j).line ∧ (getE ss i j).line.toNat % n = i
  once : ∀ i j j', (getE ss i j).state ≠ 0 → (getE ss i j').state ≠ 0 → (getE ss i j).line = (getE ss i j').line → j = j'
  zero : ∀ i j, (getE ss i j).state = 0 → getE ss i j = Ent.zero
  st : ∀ i j, (getE ss i j).state ≠ 0 → (getE ss i j).state = 1 ∨ (getE ss i j).state = 2
  used : ∀ i j, (getE ss i j).state ≠ 0 → 1 ≤ (getE ss i j).used ∧ (getE ss i j).used ≤ u
  apart : ∀ i j i' j', (getE ss i j).state ≠ 0 → (getE ss i' j').state ≠ 0 → (getE ss i j).used = (getE ss i' j').used → i = i' ∧ j = j'

section
variable {n ways : Nat} {ss : Sets} {u : Int}

theorem Inv.row (h : Inv n ways ss u) {i : Nat} (hi : i < n) : (ss.getD i []).length = ways := by
  have hi' : i < ss.length := by rw [h.len]; exact hi
  simp only [List.getD_eq_getElem?_getD, List.getElem?_eq_getElem hi', Option.getD_some]; exact h.wide _ (List.getElem_mem hi')
theorem Inv.inn (h : Inv n ways ss u) {i j : Nat} (hs : (getE ss i j).state ≠ 0) : i < n ∧ j < ways := by
  by_cases hi : i < n
  · refine ⟨hi, ?_⟩
    have := h.row hi
    by_cases hj : j < ways
    · exact hj
    · refine absurd ?_ hs
      simp only [getE, List.getD_eq_getElem?_getD] at this ⊢
      rw [List.getElem?_eq_none (l := (ss[i]?.getD [])) (by omega)]; rfl
  · refine absurd ?_ hs
    simp only [getE, List.getD_eq_getElem?_getD]
    rw [List.getElem?_eq_none (l := ss) (by rw [h.len]; omega)]; rfl
theorem Inv.getE_upd (h : Inv n ways ss u) {i j : Nat} (hi : i < n) (hj : j < ways) (e : Ent) (i' j' : Nat) : getE (upd ss i j e) i' j' = if i' = i ∧ j' = j then e else getE ss i' j' :=
  Go.Proofs.Ytimoaiebikoojaa.getE_upd ss i j i' j' e (by rw [h.len]; exact hi) (by rw [h.row hi]; exact hj)

theorem Inv.upd (h : Inv n ways ss u) {i j : Nat} (hi : i < n) (hj : j < ways) (e : Ent) {u' : Int} (hu : u ≤ u')
    (he : e = Ent.zero ∨ ((e.state = 1 ∨ e.state = 2) ∧ 0 ≤ e.line ∧ e.line.toNat % n = i ∧ (∀ j', j' ≠ j → (getE ss i j').state ≠ 0 → (getE ss i j').line ≠ e.line) ∧ 1 ≤ e.used ∧ e.used ≤ u' ∧ (∀ i' j', ¬ (i' = i ∧ j' = j) → (getE ss i' j').state ≠ 0 → (getE ss i' j').used ≠ e.used))) : Inv n ways (upd ss i j e) u' := by
  have g := h.getE_upd hi hj e
  have hz : Ent.zero.state = 0 := rfl
  refine ⟨by rw [Go.Proofs.Ytimoaiebikoojaa.upd, List.length_set, h.len], fun s hs => ?_, fun i' j' => ?_, fun i' j1 j2 => ?_, fun i' j' => ?_, fun i' j' => ?_, fun i' j' => ?_, fun i1 j1 i2 j2 => ?_⟩
  · rcases List.mem_or_eq_of_mem_set hs with hs | rfl
    · exact h.wide _ hs
    · rw [List.length_set, h.row hi]
  · rw [g]
    split
    · rename_i hc
      obtain ⟨rfl, rfl⟩ := hc
      rcases he with rfl | he
      · intro h0; exact absurd hz h0
      · intro _; exact ⟨he.2.1, he.2.2.1⟩
    · exact h.mod i' j'
  · rw [g, g]
    split <;> split
    · rename_i h1 h2; intro _ _ _; rw [h1.2, h2.2]
    · rename_i h1 h2
      obtain ⟨rfl, rfl⟩ := h1
      rcases he with rfl | he
      · intro h0; exact absurd hz h0
      · intro _ hs hl; exact absurd hl.symm (he.2.2.2.1 j2 (fun e => h2 ⟨rfl, e⟩) hs)
    · rename_i h2 h1
      obtain ⟨rfl, rfl⟩ := h1
      rcases he with rfl | he
      · intro _ h0; exact absurd hz h0
      · intro hs _ hl; exact absurd hl (he.2.2.2.1 j1 (fun e => h2 ⟨rfl, e⟩) hs)
    · exact h.once i' j1 j2
  · rw [g]
    split
    · rcases he with rfl | he
      · intro _; rfl
      · intro h0; have := he.1; omega
    · exact h.zero i' j'
  · rw [g]
    split
    · rcases he with rfl | he
      · intro h0; exact absurd hz h0
      · intro _; exact he.1
    · exact h.st i' j'
  · rw [g]
    split
    · rcases he with rfl | he
      · intro h0; exact absurd hz h0
      · intro _; exact ⟨he.2.2.2.2.1, he.2.2.2.2.2.1⟩
    · intro hs; have := h.used i' j' hs; omega
  · rw [g, g]
    split <;> split
    · rename_i h1 h2; intro _ _ _; rw [h1.1, h1.2, h2.1, h2.2]; exact ⟨rfl, rfl⟩
    · rename_i h1 h2
      obtain ⟨rfl, rfl⟩ := h1
      rcases he with rfl | he
      · intro h0; exact absurd hz h0
      · intro _ hs hl; exact absurd hl.symm (he.2.2.2.2.2.2 i2 j2 h2 hs)
    · rename_i h2 h1
      obtain ⟨rfl, rfl⟩ := h1
      rcases he with rfl | he
      · intro _ h0; exact absurd hz h0
      · intro hs _ hl; exact absurd hl (he.2.2.2.2.2.2 i1 j1 h2 hs)
    · exact h.apart i1 j1 i2 j2

theorem Inv.turn (h : Inv n ways ss u) {i j : Nat} (hs : (getE ss i j).state ≠ 0) (e : Ent) {u' : Int} (h1 : e.state = 1 ∨ e.state = 2) (h2 : e.line = (getE ss i j).line) (h0 : 0 ≤ u)
    (h3 : (e.used = (getE ss i j).used ∧ u' = u) ∨ (e.used = u + 1 ∧ u' = u + 1)) : Inv n ways (Go.Proofs.Ytimoaiebikoojaa.upd ss i j e) u' := by
  obtain ⟨hi, hj⟩ := h.inn hs
  have hu := h.used i j hs
  refine h.upd hi hj e (by omega) (.inr ⟨h1, by rw [h2]; exact (h.mod i j hs).1, by rw [h2]; exact (h.mod i j hs).2, fun j' hne hs' hl => hne (h.once i j' j hs' hs (by rw [hl, h2])), by omega, by omega, fun i' j' hne hs' hl => ?_⟩)
  rcases h3 with h3 | h3
  · exact hne (h.apart i' j' i j hs' hs (by rw [hl, h3.1]))
  · have := (h.used i' j' hs').2; omega

theorem Inv.finds_some (h : Inv n ways ss u) (hn : 1 ≤ n) {k : Int} {i j : Nat} (hf : Finds ss k = some (i, j)) : 0 ≤ k ∧ i = k.toNat % n ∧ i < n ∧ j < ways ∧ (getE ss i j).state ≠ 0 ∧ (getE ss i j).line = k := by
  unfold Finds at hf
  split at hf
  · cases hf
  · rw [Option.map_eq_some_iff] at hf
    obtain ⟨j', hj, he⟩ := hf
    simp only [Prod.mk.injEq] at he
    obtain ⟨rfl, rfl⟩ := he
    have hil : k.toNat % ss.length < n := by rw [h.len]; exact Nat.mod_lt _ hn
    rw [List.findIdx?_eq_some_iff_getElem] at hj
    obtain ⟨hjl, hp, _⟩ := hj
    have hg : getE ss (k.toNat % ss.length) j' = (ss.getD (k.toNat % ss.length) [])[j'] := by rw [getE, List.getD_eq_getElem?_getD, List.getElem?_eq_getElem hjl]; rfl
    rw [hg]
    have hw := h.row hil
    simp only [Ent.is, decide_eq_true_eq] at hp
    exact ⟨by omega, by rw [h.len], hil, by omega, hp.1, hp.2⟩
theorem Inv.finds_none (h : Inv n ways ss u) {k : Int} (hf : Finds ss k = none) {i j : Nat} (hs : (getE ss i j).state ≠ 0) : (getE ss i j).line ≠ k := by
  rintro rfl
  obtain ⟨h1, h2⟩ := h.mod i j hs
  obtain ⟨hi, hj⟩ := h.inn hs
  unfold Finds at hf
  rw [if_neg (by omega), Option.map_eq_none_iff, List.findIdx?_eq_none_iff, h.len, h2] at hf
  have hjl : j < (ss.getD i []).length := by rw [h.row hi]; exact hj
  have hg : getE ss i j = (ss.getD i [])[j] := by rw [getE, List.getD_eq_getElem?_getD, List.getElem?_eq_getElem hjl]; rfl
  have := hf _ (List.getElem_mem hjl)
  rw [← hg] at this
  simp [Ent.is, hs] at this
theorem Inv.finds_of (h : Inv n ways ss u) (hn : 1 ≤ n) {i j : Nat} (hs : (getE ss i j).state ≠ 0) : Finds ss (getE ss i j).line = some (i, j) := by
  cases hf : Finds ss (getE ss i j).line with
  | none => exact absurd rfl (h.finds_none hf hs)
  | some x =>
    obtain ⟨i', j'⟩ := x
    obtain ⟨_, h2, _, _, h5, h6⟩ := h.finds_some hn hf
    have := (h.mod i j hs).2
    obtain rfl : i' = i := by rw [h2, this]
    rw [h.once i' j' j h5 hs h6]
theorem Inv.goes_some (h : Inv n ways ss u) (hn : 1 ≤ n) {k : Nat} {i j : Nat} (hg : Goes ss k = some (i, j)) :
    i = k % n ∧ i < n ∧ j < ways ∧ (getE ss i j).marked = false ∧ ∀ j', j' < ways → (getE ss i j').marked = false → (getE ss i j).used ≤ (getE ss i j').used := by
  unfold Goes at hg
  rw [Option.map_eq_some_iff] at hg
  obtain ⟨j', hj, he⟩ := hg
  simp only [Prod.mk.injEq] at he
  obtain ⟨rfl, rfl⟩ := he
  have hil : k % ss.length < n := by rw [h.len]; exact Nat.mod_lt _ hn
  rw [List.findIdx?_eq_some_iff_getElem] at hj
  obtain ⟨hjl, hp, _⟩ := hj
  have hw := h.row hil
  have hg : ∀ j (hj : j < (ss.getD (k % ss.length) []).length), getE ss (k % ss.length) j = (ss.getD (k % ss.length) [])[j] := fun j hj => by rw [getE, List.getD_eq_getElem?_getD, List.getElem?_eq_getElem hj]; rfl
  rw [hg _ hjl]
  simp only [goes, Bool.and_eq_true, Bool.not_eq_true', List.all_eq_true, Bool.or_eq_true, decide_eq_false_iff_not] at hp
  refine ⟨by rw [h.len], hil, by omega, hp.1, fun j2 hj2 hm => ?_⟩
  have hl2 : j2 < (ss.getD (k % ss.length) []).length := by omega
  rw [hg _ hl2] at hm ⊢
  exact Int.not_lt.1 ((hp.2 _ (List.getElem_mem hl2)).resolve_left (by rw [hm]; exact Bool.false_ne_true))

theorem Inv.fresh (h : Inv n ways ss u) (hn : 1 ≤ n) (h0 : 0 ≤ u) {k st : Int} (d : L8) (hk : 0 ≤ k) (hst : st = 1 ∨ st = 2) (hf : Finds ss k = none) {i j : Nat} (hg : Goes ss k.toNat = some (i, j)) : Inv n ways (Go.Proofs.Ytimoaiebikoojaa.upd ss i j (Ent.fresh k st d (u + 1))) (u + 1) := by
  obtain ⟨h1, hi, hj, _⟩ := h.goes_some hn hg
  refine h.upd hi hj _ (by omega) (.inr ⟨hst, hk, h1.symm, fun j' _ hs => h.finds_none hf hs, by simp [Ent.fresh]; omega, by simp [Ent.fresh], fun i' j' _ hs hl => ?_⟩)
  have := (h.used i' j' hs).2
  simp [Ent.fresh] at hl; omega

theorem getE_turnAll (f : Ent → Ent) (ss : Sets) (i j : Nat) : getE (turnAll f ss) i j = if (getE ss i j).state ≠ 0 then f (getE ss i j) else getE ss i j := by
  unfold getE turnAll
  simp only [List.getD_eq_getElem?_getD, List.getElem?_map]
  cases h1 : ss[i]? with
  | none => simp [Ent.zero]
  | some s =>
    simp only [Option.map_some, Option.getD_some, List.getElem?_map]
    cases h2 : s[j]? with
    | none => simp [Ent.zero]
    | some e => simp
theorem Inv.all (h : Inv n ways ss u) {f : Ent → Ent} (h1 : ∀ e, (f e).state = e.state) (h2 : ∀ e, (f e).line = e.line) (h3 : ∀ e, (f e).used = e.used) : Inv n ways (turnAll f ss) u := by
  have gs : ∀ i j, (getE (turnAll f ss) i j).state = (getE ss i j).state := fun i j => by rw [getE_turnAll]; split <;> simp [h1]
  have gl : ∀ i j, (getE (turnAll f ss) i j).line = (getE ss i j).line := fun i j => by rw [getE_turnAll]; split <;> simp [h2]
  have gu : ∀ i j, (getE (turnAll f ss) i j).used = (getE ss i j).used := fun i j => by rw [getE_turnAll]; split <;> simp [h3]
  refine ⟨by simp [turnAll, h.len], fun s hs => ?_, fun i j => ?_, fun i j j' => ?_, fun i j hs => ?_, fun i j => ?_, fun i j => ?_, fun i j i' j' => ?_⟩
  · simp only [turnAll, List.mem_map] at hs
    obtain ⟨s', hs', rfl⟩ := hs
    rw [List.length_map]; exact h.wide _ hs'
  · rw [gs, gl]; exact h.mod i j
  · rw [gs, gs, gl, gl]; exact h.once i j j'
  · rw [gs] at hs; rw [getE_turnAll, if_neg (by simpa using hs)]; exact h.zero i j hs
  · rw [gs]; exact h.st i j
  · rw [gs, gu]; exact h.used i j
  · rw [gs, gs, gu, gu]; exact h.apart i j i' j'
theorem inv_new (n ways : Nat) : Inv n ways (newSets n ways) 0 := by
  have hz : ∀ i j, getE (newSets n ways) i j = Ent.zero := fun i j => by
    unfold getE newSets
    simp only [List.getD_eq_getElem?_getD, List.getElem?_replicate]
    split
    · simp only [Option.getD_some, List.getElem?_replicate]; split <;> rfl
    · rfl
  have h0 : Ent.zero.state = 0 := rfl
  refine ⟨by simp [newSets], fun s hs => ?_, fun i j hs => ?_, fun i j j' hs => ?_, fun i j _ => hz i j, fun i j hs => ?_, fun i j hs => ?_, fun i j i' j' hs => ?_⟩
  · obtain ⟨_, rfl⟩ := List.mem_replicate.1 hs; simp
  all_goals exact absurd (by rw [hz]; exact h0) hs
end

theorem Ent.keep_same (e : Ent) : e.keep.state = e.state ∧ e.keep.line = e.line ∧ e.keep.used = e.used := by unfold Ent.keep; split <;> simp
theorem Ent.back_same (e : Ent) : e.back.state = e.state ∧ e.back.line = e.line ∧ e.back.used = e.used := by unfold Ent.back; split <;> simp
theorem Ent.clear_same (e : Ent) : e.clear.state = e.state ∧ e.clear.line = e.line ∧ e.clear.used = e.used := by unfold Ent.clear; simp

section
variable {n ways : Nat} {ss : Sets} {u : Int}
theorem Inv.fillL (h : Inv n ways ss u) (hn : 1 ≤ n) (h0 : 0 ≤ u) (k st : Int) (d : L8) : Inv n ways (fillL ss u k st d).1 (fillL ss u k st d).2.1 := by
  unfold Go.Proofs.Ytimoaiebikoojaa.fillL
  split
  · exact h
  · split
    · exact h
    · rename_i hf
      split
      · exact h
      · rename_i i j hg; exact h.fresh hn h0 d (by omega) (by omega) hf hg
theorem Inv.wordL (h : Inv n ways ss u) (hn : 1 ≤ n) (h0 : 0 ≤ u) (a : Int) : Inv n ways (wordL ss u a).1 (wordL ss u a).2.1 := by
  unfold Go.Proofs.Ytimoaiebikoojaa.wordL
  split
  · exact h
  · split
    · exact h
    · rename_i i j hf
      obtain ⟨_, _, _, _, hs, _⟩ := h.finds_some hn hf
      exact h.turn hs _ (h.st i j hs) rfl h0 (.inr ⟨rfl, rfl⟩)
theorem Inv.putL (h : Inv n ways ss u) (hn : 1 ≤ n) (h0 : 0 ≤ u) (a v : Int) : Inv n ways (putL ss u a v).1 (putL ss u a v).2.1 := by
  unfold Go.Proofs.Ytimoaiebikoojaa.putL
  split
  · exact h
  · split
    · exact h
    · rename_i i j hf
      obtain ⟨_, _, _, _, hs, _⟩ := h.finds_some hn hf
      split
      · exact h.turn hs _ (h.st i j hs) rfl h0 (.inr ⟨rfl, rfl⟩)
      · exact h
theorem Inv.markL (h : Inv n ways ss u) (hn : 1 ≤ n) (h0 : 0 ≤ u) (k : Int) (write : Bool) : Inv n ways (markL ss u k write).1 (markL ss u k write).2.1 := by
  unfold Go.Proofs.Ytimoaiebikoojaa.markL
  split
  · exact h
  · rename_i i j hf
    obtain ⟨_, _, _, _, hs, _⟩ := h.finds_some hn hf
    have hk := Ent.keep_same (getE ss i j)
    split
    · split
      · exact h.turn hs _ (by rw [hk.1]; exact h.st i j hs) hk.2.1 h0 (.inl ⟨hk.2.2, rfl⟩)
      · exact h
    · exact h.turn hs _ (h.st i j hs) rfl h0 (.inl ⟨rfl, rfl⟩)
theorem Inv.demoteL (h : Inv n ways ss u) (hn : 1 ≤ n) (h0 : 0 ≤ u) (k : Int) : Inv n ways (demoteL ss u k).1 (demoteL ss u k).2.1 := by
  unfold Go.Proofs.Ytimoaiebikoojaa.demoteL
  split
  · exact h
  · rename_i i j hf
    obtain ⟨_, _, _, _, hs, _⟩ := h.finds_some hn hf
    split
    · exact h.turn hs _ (.inl rfl) rfl h0 (.inl ⟨rfl, rfl⟩)
    · exact h
theorem Inv.promoteL (h : Inv n ways ss u) (hn : 1 ≤ n) (h0 : 0 ≤ u) (k : Int) (d : L8) : Inv n ways (promoteL ss u k d).1 (promoteL ss u k d).2.1 := by
  unfold Go.Proofs.Ytimoaiebikoojaa.promoteL
  split
  · exact h
  · rename_i i j hf
    obtain ⟨_, _, _, _, hs, _⟩ := h.finds_some hn hf
    split
    · exact h.turn hs _ (.inr rfl) rfl h0 (.inl ⟨rfl, rfl⟩)
    · exact h
theorem Inv.dropL (h : Inv n ways ss u) (hn : 1 ≤ n) (k : Int) : Inv n ways (dropL ss u k).1 (dropL ss u k).2.1 := by
  unfold Go.Proofs.Ytimoaiebikoojaa.dropL
  split
  · exact h
  · rename_i i j hf
    obtain ⟨_, _, hi, hj, _⟩ := h.finds_some hn hf
    exact h.upd hi hj _ (Int.le_refl _) (.inl rfl)
theorem Inv.commit (h : Inv n ways ss u) : Inv n ways (turnAll Ent.clear ss) u := h.all (fun e => (Ent.clear_same e).1) (fun e => (Ent.clear_same e).2.1) (fun e => (Ent.clear_same e).2.2)
theorem Inv.discard (h : Inv n ways ss u) : Inv n ways (turnAll Ent.clear (turnAll Ent.back ss)) u := (h.all (fun e => (Ent.back_same e).1) (fun e => (Ent.back_same e).2.1) (fun e => (Ent.back_same e).2.2)).commit

theorem Inv.step {s : Sets × Int} (h : Inv n ways s.1 s.2) (hn : 1 ≤ n) (h0 : 0 ≤ s.2) (x : StepV) : Inv n ways (stepL s x).1 (stepL s x).2 := by
  unfold stepL
  split
  · exact h.fillL hn h0 _ _ _
  split
  · exact h.wordL hn h0 _
  split
  · exact h.putL hn h0 _ _
  split
  · exact h.markL hn h0 _ _
  split
  · exact h.demoteL hn h0 _
  split
  · exact h.promoteL hn h0 _ _
  split
  · exact h.dropL hn _
  split
  · exact h.commit
  split
  · exact h.discard
  · exact h
theorem Inv.play (hn : 1 ≤ n) : ∀ (xs : List StepV) {s : Sets × Int}, Inv n ways s.1 s.2 → 0 ≤ s.2 → Inv n ways (playL s xs).1 (playL s xs).2
  | [], _, h, _ => h
  | x :: xs, s, h, h0 => Inv.play hn xs (h.step hn h0 x) (by have := (stepL_uses s x).1; omega)
end

/-! ### All entries -/
section
variable {n ways : Nat} {ss : Sets} {u : Int}
theorem mem_entries {e : Ent} : e ∈ entries ss ways n ↔ ∃ i j, i < n ∧ j < ways ∧ (getE ss i j).state ≠ 0 ∧ getE ss i j = e := by
  unfold entries
  simp only [List.mem_map, Prod.exists]
  constructor
  · rintro ⟨i, j, h, rfl⟩
    rw [mem_entsAll] at h
    exact ⟨i, j, h.1, h.2.1, by have := h.2.2; simpa [valid, getE] using this, rfl⟩
  · rintro ⟨i, j, h1, h2, h3, rfl⟩
    exact ⟨i, j, mem_entsAll.2 ⟨h1, h2, by simpa [valid, getE] using h3⟩, rfl⟩
theorem entsAll_nodup (ss : Sets) (ways : Nat) : ∀ n, (entsAll ss ways n).Nodup
  | 0 => by simp [entsAll]
  | n + 1 => by
    rw [entsAll_succ, List.nodup_append]
    refine ⟨entsAll_nodup ss ways n, ?_, ?_⟩
    · unfold entsOf
      rw [List.nodup_iff_pairwise_ne, List.pairwise_map]
      exact (List.Pairwise.filter _ List.nodup_range).imp (fun h e => h (by simpa using e))
    · rintro ⟨i, j⟩ ha ⟨i', j'⟩ hb e
      rw [mem_entsAll] at ha
      unfold entsOf at hb
      simp only [List.mem_map, Prod.mk.injEq] at hb
      obtain ⟨_, _, rfl, _⟩ := hb
      simp only [Prod.mk.injEq] at e
      omega
theorem Inv.lines (h : Inv n ways ss u) : (entries ss ways n).Pairwise (fun a b => a.line ≠ b.line) := by
  unfold entries
  rw [List.pairwise_map]
  refine (entsAll_nodup ss ways n).imp_of_mem (fun {a b} ha hb hne he => hne ?_)
  obtain ⟨i, j⟩ := a
  obtain ⟨i', j'⟩ := b
  rw [mem_entsAll] at ha hb
  have sa : (getE ss i j).state ≠ 0 := by have := ha.2.2; simpa [valid, getE] using this
  have sb : (getE ss i' j').state ≠ 0 := by have := hb.2.2; simpa [valid, getE] using this
  simp only at he
  have ma := (h.mod i j sa).2
  have mb := (h.mod i' j' sb).2
  rw [he] at ma
  obtain rfl : i = i' := by rw [← ma, mb]
  rw [h.once i j j' sa sb he]
theorem entsAll_row (ss : Sets) (ways r : Nat) : ∀ n, ((entsAll ss ways n).filter fun x => x.1 == r).length ≤ ways
  | 0 => by simp [entsAll]
  | n + 1 => by
    rw [entsAll_succ, List.filter_append, List.length_append]
    have hl : (entsOf ss ways n).length ≤ ways := by
      unfold entsOf
      rw [List.length_map]
      exact Nat.le_trans (List.length_filter_le _ _) (by simp)
    by_cases hr : n = r
    · subst hr
      have : (entsAll ss ways n).filter (fun x => x.1 == n) = [] := by
        rw [List.filter_eq_nil_iff]
        rintro ⟨i, j⟩ hx
        rw [mem_entsAll] at hx
        simp; omega
      rw [this]
      have := List.length_filter_le (fun x : Nat × Nat => x.1 == n) (entsOf ss ways n)
      simp only [List.length_nil]
      omega
    · have : (entsOf ss ways n).filter (fun x => x.1 == r) = [] := by
        rw [List.filter_eq_nil_iff]
        rintro ⟨i, j⟩ hx
        unfold entsOf at hx
        simp only [List.mem_map, Prod.mk.injEq] at hx
        obtain ⟨_, _, rfl, _⟩ := hx
        simp; exact hr
      rw [this]
      have := entsAll_row ss ways r n
      simpa using this
theorem Inv.row_le (h : Inv n ways ss u) (r : Nat) : ((entries ss ways n).filter fun e => decide (e.line % (n : Int) = (r : Int))).length ≤ ways := by
  refine Nat.le_trans ?_ (entsAll_row ss ways r n)
  unfold entries
  rw [List.filter_map, List.length_map]
  refine Nat.le_of_eq (congrArg _ (List.filter_congr ?_))
  rintro ⟨i, j⟩ hx
  rw [mem_entsAll] at hx
  have sa : (getE ss i j).state ≠ 0 := by have := hx.2.2; simpa [valid, getE] using this
  obtain ⟨m0, m1⟩ := h.mod i j sa
  obtain ⟨m, hm⟩ := Int.eq_ofNat_of_zero_le m0
  simp only [Function.comp, hm]
  rw [hm, Int.toNat_natCast] at m1
  rw [Bool.eq_iff_iff, decide_eq_true_eq, beq_iff_eq, ← m1]
  omega
end

end Go.Proofs.Ytimoaiebikoojaa
