/- What a node gives back of a line that it has marked: plain facts. Conditions: those stated in each theorem. -/
import Derived.Test.YtddajnpichchfaaNodeS
namespace Go.Proofs.Ytddajnpichchfaa

def disc (ss : Sets) : Sets := turnAll Ent.clear (turnAll Ent.back ss)
theorem disc_getE (ss : Sets) (i j : Nat) (hs : (getE ss i j).state ≠ 0) : getE (disc ss) i j = (getE ss i j).back.clear := by
  unfold disc
  have h1 : getE (turnAll Ent.back ss) i j = (getE ss i j).back := by rw [getE_turnAll, if_pos hs]
  rw [getE_turnAll, h1, if_pos (by rw [(Ent.back_same _).1]; exact hs)]
theorem disc_finds (ss : Sets) (l : Int) : Finds (disc ss) l = Finds ss l := by
  unfold disc
  rw [finds_all Ent.clear (fun e => (Ent.clear_same e).1) (fun e => (Ent.clear_same e).2.1), finds_all Ent.back (fun e => (Ent.back_same e).1) (fun e => (Ent.back_same e).2.1)]
theorem back_data {e : Ent} (h : e.write = true) : e.back.clear.data = e.old := by
  unfold Ent.back Ent.clear; rw [if_pos h]
theorem back_line (e : Ent) : e.back.clear.line = e.line := by rw [(Ent.clear_same _).2.1, (Ent.back_same _).2.1]
theorem back_state (e : Ent) : e.back.clear.state = e.state := by rw [(Ent.clear_same _).1, (Ent.back_same _).1]

section
variable {k ways : Nat} {n : Nd}
theorem findX_of {ss : Sets} {l : Int} {e : Ent} (h : findX ss l = (e, true)) : ∃ i j, Finds ss l = some (i, j) ∧ getE ss i j = e := by
  cases hf : Finds ss l with
  | none => rw [findX_none hf] at h; cases h
  | some x =>
    obtain ⟨i, j⟩ := x
    rw [findX_some hf] at h
    cases h
    exact ⟨i, j, rfl, rfl⟩
theorem lose_ss (n : Nd) (l : Int) : (n.lose l).ss = disc n.ss ∧ (n.lose l).live = false := by unfold Nd.lose; split <;> exact ⟨rfl, rfl⟩
theorem mem_letGo {m : MsgV} {e : Ent} (h : m ∈ (n.letGo e).2) : e.state = 2 ∧ m = ⟨3, n.core, e.line, e.data⟩ := by
  unfold Nd.letGo at h
  split at h
  · exact ⟨by assumption, by simpa using h⟩
  · cases h
theorem letGo_live (n : Nd) (e : Ent) : (n.letGo e).1.live = n.live := by unfold Nd.letGo; split <;> rfl
/-- The same line, the same place. -/
theorem NI.same (h : NI k ways n) {l : Int} {i j i' j' : Nat} (hf : Finds n.ss l = some (i, j)) (hs : (getE n.ss i' j').state ≠ 0) (hl : (getE n.ss i' j').line = l) : i' = i ∧ j' = j := by
  have := h.inv.finds_of h.k1 hs
  rw [hl, hf] at this
  cases this
  exact ⟨rfl, rfl⟩

theorem rs_old (h : NI k ways n) {l : Int} {m : MsgV} (hm : m ∈ (n.hearRS l).2) (hk : m.kind = 3 ∨ m.kind = 5) {e : Ent} (hf : findX n.ss m.line = (e, true)) (hw : e.write = true) : m.data = e.old ∧ (n.hearRS l).1.live = false := by
  unfold Nd.hearRS at hm ⊢
  split at hm
  · rename_i hh
    dsimp only at hm
    rw [List.mem_singleton] at hm
    have hl : m.line = l := by rw [hm]
    rw [hl] at hf
    obtain ⟨i, j, hfi, he⟩ := findX_of hf
    rw [if_pos hh]
    rw [hf] at hm ⊢
    dsimp only at hm ⊢
    rw [if_pos hw] at hm ⊢
    refine ⟨?_, (lose_ss n l).2⟩
    rw [hm]
    dsimp only
    unfold demoteX
    rw [(lose_ss n l).1, disc_finds, hfi]
    obtain ⟨_, _, _, _, hs, _⟩ := h.inv.finds_some h.k1 hfi
    dsimp only
    rw [disc_getE _ _ _ hs, if_pos (by rw [back_state]; rw [← he] at hw; exact (h.marks i j).2 hw)]
    dsimp only
    rw [he]; exact back_data hw
  · rw [List.mem_singleton] at hm
    rw [hm] at hk
    rcases hk with h1 | h1 <;> simp [Nd.msg] at h1
theorem rm_old (h : NI k ways n) {l : Int} {m : MsgV} (hm : m ∈ (n.hearRM l).2) (hk : m.kind = 3 ∨ m.kind = 5) {e : Ent} (hf : findX n.ss m.line = (e, true)) (hw : e.write = true) : m.data = e.old ∧ (n.hearRM l).1.live = false := by
  unfold Nd.hearRM at hm ⊢
  split at hm
  · rename_i hh
    dsimp only at hm
    rw [List.mem_singleton] at hm
    have hl : m.line = l := by rw [hm]
    rw [hl] at hf
    obtain ⟨i, j, hfi, he⟩ := findX_of hf
    have hmk : e.mk' = true := by unfold Ent.mk'; rw [hw]; simp
    rw [if_pos hh]
    rw [hf] at hm ⊢
    dsimp only at hm ⊢
    rw [if_pos hmk] at hm ⊢
    refine ⟨?_, (lose_ss n l).2⟩
    rw [hm]
    dsimp only
    unfold dropX
    rw [(lose_ss n l).1, disc_finds, hfi]
    obtain ⟨_, _, _, _, hs, _⟩ := h.inv.finds_some h.k1 hfi
    dsimp only
    rw [disc_getE _ _ _ hs, he]; exact back_data hw
  · rw [List.mem_singleton] at hm
    rw [hm] at hk
    rcases hk with h1 | h1 <;> simp [Nd.msg] at h1
theorem drop_old (h : NI k ways n) {l : Int} {m : MsgV} (hm : m ∈ (n.drop l).2.1) {e : Ent} (hf : findX n.ss m.line = (e, true)) (hw : e.write = true) : m.data = e.old ∧ (n.drop l).1.live = false := by
  unfold Nd.drop at hm ⊢
  split at hm
  · cases hm
  rename_i h1
  rw [if_neg h1]
  split at hm
  · cases hm
  rename_i h2
  rw [if_neg h2]
  dsimp only at hm ⊢
  obtain ⟨hs2, hmm⟩ := mem_letGo hm
  have hh : (findX n.ss l).2 = true := by simpa using h2
  obtain ⟨i, j, hfi, he⟩ := findX_of (ss := n.ss) (l := l) (e := (findX n.ss l).1) (by rw [← hh])
  obtain ⟨_, _, _, _, hs, hll⟩ := h.inv.finds_some h.k1 hfi
  by_cases hmk : (findX n.ss l).1.mk' = true
  · rw [if_pos hmk] at hm hmm hs2 ⊢
    have hd : (dropX (n.abort 4).ss l).1 = (getE n.ss i j).back.clear := by
      unfold dropX
      show (match Finds (disc n.ss) l with | none => (Ent.zero, (20 : Int)) | some (i, j) => (getE (disc n.ss) i j, 0)).1 = _
      rw [disc_finds, hfi]
      exact disc_getE _ _ _ hs
    rw [hd] at hmm
    have hml : m.line = l := by rw [hmm]; dsimp only; rw [back_line, hll]
    rw [hml] at hf
    have hee : getE n.ss i j = e := by rw [he, hf]
    refine ⟨?_, by rw [letGo_live]; rfl⟩
    rw [hmm, hee]; exact back_data hw
  · rw [if_neg hmk] at hm hmm hs2
    have hd : (dropX n.ss l).1 = getE n.ss i j := by unfold dropX; rw [hfi]
    rw [hd] at hmm
    have hml : m.line = l := by rw [hmm]; exact hll
    rw [hml] at hf
    rw [hf] at hmk
    exact absurd (by unfold Ent.mk'; rw [hw]; simp) hmk
theorem fill_old (h : NI k ways n) {l st : Int} {d : L8} {m : MsgV} (hm : m ∈ (n.fill l st d).2) {e : Ent} (hf : findX n.ss m.line = (e, true)) (hw : e.write = true) : m.data = e.old ∧ (n.fill l st d).1.live = false := by
  obtain ⟨i, j, hfi, he⟩ := findX_of hf
  unfold Nd.fill at hm ⊢
  split at hm
  · rename_i h22
    rw [if_pos h22]
    obtain ⟨hs2, hmm⟩ := mem_letGo hm
    refine ⟨?_, by rw [letGo_live]; rfl⟩
    -- who goes is an entry of what the abort left
    have hg : ∃ i' j', (fillX (n.abort 3).ss l st).1 = getE (disc n.ss) i' j' := by
      have hz : (fillX (n.abort 3).ss l st).1.state ≠ Ent.zero.state := by rw [hs2]; decide
      unfold fillX at hz ⊢
      split
      · rename_i hc; rw [if_pos hc] at hz; exact absurd rfl hz
      · rename_i hc
        rw [if_neg hc] at hz
        split
        · rename_i hc2; rw [hc2] at hz; exact absurd rfl hz
        · rename_i hc2
          rw [hc2] at hz
          split
          · rename_i hc3; simp only [hc3] at hz; exact absurd rfl hz
          · exact ⟨_, _, rfl⟩
    obtain ⟨i', j', hg⟩ := hg
    rw [hg] at hmm hs2
    have hs0 : (getE n.ss i' j').state ≠ 0 := by
      intro h0
      have : getE (disc n.ss) i' j' = getE n.ss i' j' := by
        unfold disc
        have h1 : getE (turnAll Ent.back n.ss) i' j' = getE n.ss i' j' := by rw [getE_turnAll, if_neg (by simpa using h0)]
        rw [getE_turnAll, h1, if_neg (by simpa using h0)]
      rw [this, h0] at hs2
      omega
    rw [disc_getE _ _ _ hs0] at hmm
    have hml : m.line = (getE n.ss i' j').line := by rw [hmm]; exact back_line _
    obtain ⟨rfl, rfl⟩ := h.same hfi hs0 hml.symm
    rw [hmm, he]; exact back_data hw
  · rename_i h22
    exfalso
    obtain ⟨hs2, hmm⟩ := mem_letGo hm
    have hg : ∃ i' j', (fillX n.ss l st).1 = getE n.ss i' j' ∧ (getE n.ss i' j').marked = false := by
      have hz : (fillX n.ss l st).1.state ≠ Ent.zero.state := by rw [hs2]; decide
      unfold fillX at hz ⊢
      split
      · rename_i hc; rw [if_pos hc] at hz; exact absurd rfl hz
      · rename_i hc
        rw [if_neg hc] at hz
        split
        · rename_i hc2; rw [hc2] at hz; exact absurd rfl hz
        · rename_i hc2
          rw [hc2] at hz
          split
          · rename_i hc3; simp only [hc3] at hz; exact absurd rfl hz
          · rename_i i' j' hc3
            exact ⟨i', j', rfl, (h.inv.goes_some h.k1 hc3).2.2.2.1⟩
    obtain ⟨i', j', hg, hmk⟩ := hg
    rw [hg] at hmm hs2
    have hml : m.line = (getE n.ss i' j').line := by rw [hmm]
    obtain ⟨rfl, rfl⟩ := h.same hfi (by rw [hs2]; decide) hml.symm
    rw [he] at hmk
    simp [Ent.marked, hw] at hmk
theorem ask_kind {kd l : Int} {m : MsgV} (hm : m ∈ (n.ask kd l).2) : m.kind = kd := by
  unfold Nd.ask at hm
  split at hm
  · cases hm
  · rw [List.mem_singleton] at hm; rw [hm]; rfl
theorem take_old (h : NI k ways n) {x m : MsgV} (hm : m ∈ (n.take x).2) (hk : m.kind = 3 ∨ m.kind = 5) {e : Ent} (hf : findX n.ss m.line = (e, true)) (hw : e.write = true) : m.data = e.old ∧ (n.take x).1.live = false := by
  have hG : ∀ st, m ∈ (n.hearG x st).2 → m.data = e.old ∧ (n.hearG x st).1.live = false := fun st hm => by
    unfold Nd.hearG at hm ⊢
    dsimp only at hm ⊢
    split at hm
    · rw [List.mem_singleton] at hm
      rw [hm] at hk
      rcases hk with h1 | h1 <;> simp [Nd.msg] at h1
    · rename_i hp
      rw [if_neg hp]
      rcases List.mem_append.1 hm with hm | hm
      · exact fill_old (h.out MsgV.zero) hm hf hw
      · rw [List.mem_singleton] at hm
        rw [hm] at hk
        rcases hk with h1 | h1 <;> simp [Nd.msg] at h1
  unfold Nd.take at hm ⊢
  split at hm
  · rename_i hc
    rw [if_pos hc]
    exfalso
    unfold Nd.hearInv at hm
    split at hm <;>
    · rw [List.mem_singleton] at hm
      rw [hm] at hk
      rcases hk with h1 | h1 <;> simp [Nd.msg] at h1
  rename_i hc; rw [if_neg hc]
  split at hm
  · rename_i hc; rw [if_pos hc]; exact rs_old h hm hk hf hw
  rename_i hc; rw [if_neg hc]
  split at hm
  · rename_i hc; rw [if_pos hc]; exact rm_old h hm hk hf hw
  rename_i hc; rw [if_neg hc]
  split at hm
  · rename_i hc; rw [if_pos hc]; exact hG _ hm
  rename_i hc; rw [if_neg hc]
  split at hm
  · rename_i hc; rw [if_pos hc]; exact hG _ hm
  · cases hm
theorem msg_old (h : NI k ways n) (x : StepN) {m : MsgV} (hm : m ∈ (n.step x).2) (hk : m.kind = 3 ∨ m.kind = 5) {e : Ent} (hf : findX n.ss m.line = (e, true)) (hw : e.write = true) : m.data = e.old ∧ (n.step x).1.live = false := by
  unfold Nd.step at hm ⊢
  split at hm
  · exfalso
    dsimp only at hm
    unfold Nd.load at hm
    split at hm
    · cases hm
    split at hm
    · have := ask_kind hm; omega
    · cases hm
  rename_i h0; rw [if_neg h0]
  split at hm
  · exfalso
    dsimp only at hm
    unfold Nd.store at hm
    split at hm
    · cases hm
    split at hm
    · have := ask_kind hm; omega
    · cases hm
  rename_i h0; rw [if_neg h0]
  split at hm
  · exfalso
    dsimp only at hm
    unfold Nd.cas at hm
    split at hm
    · cases hm
    split at hm
    · cases hm
    split at hm
    · have := ask_kind hm; omega
    split at hm <;> cases hm
  rename_i h0; rw [if_neg h0]
  split at hm
  · cases hm
  rename_i h0; rw [if_neg h0]
  split at hm
  · cases hm
  rename_i h0; rw [if_neg h0]
  split at hm
  · cases hm
  rename_i h0; rw [if_neg h0]
  split at hm
  · rename_i h0; rw [if_pos h0]
    dsimp only at hm ⊢
    unfold Nd.hear at hm ⊢
    split at hm
    · cases hm
    · rename_i h1; rw [if_neg h1]; exact take_old h hm hk hf hw
  rename_i h0; rw [if_neg h0]
  split at hm
  · rename_i h0; rw [if_pos h0]; exact drop_old h hm hf hw
  · cases hm
end

end Go.Proofs.Ytddajnpichchfaa
