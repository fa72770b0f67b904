/- What reading keeps, plainly. No conditions. -/
import Derived.Test.YtgjbhcnadenojaaHisP
namespace Go.Proofs.Ytgjbhcnadenojaa

/-- What is so behind n events. -/
structure KnOk (x : Kn) (n : Nat) : Prop where
  ldn : x.ld.length ≤ n
  stn : x.st.length ≤ n
  la0 : 1 ≤ x.la
  la1 : x.la ≤ 4
  cd : x.to_ ≠ -1 → x.com = false → 1 ≤ x.cd ∧ x.cd ≤ 8
  ldf : FitL x.ld
  stf : FitL x.st
  lda : ∀ p ∈ x.ld, 0 ≤ p.a
  sta : ∀ p ∈ x.st, 0 ≤ p.a
structure RI (s : Rd) (n : Nat) : Prop where
  pln : s.pl.length = n
  ksn : s.ks.length ≤ n
  ks : ∀ x ∈ s.ks, KnOk x n
  o : ∀ a v, s.o a = some v → ∃ j : Nat, v = j ∧ j < s.ks.length
  pls : ∀ v ∈ s.pl, v = -1 ∨ ∃ j : Nat, v = j ∧ j < s.ks.length
theorem RI.zero : RI Rd.zero 0 := ⟨rfl, Nat.le_refl _, fun _ h => (by cases h), fun _ _ h => (by cases h), fun _ h => (by cases h)⟩
theorem KnOk.more {x : Kn} {n m : Nat} (h : KnOk x n) (hm : n ≤ m) : KnOk x m := ⟨Nat.le_trans h.ldn hm, Nat.le_trans h.stn hm, h.la0, h.la1, h.cd, h.ldf, h.stf, h.lda, h.sta⟩
theorem fitL_snoc {l : List Pr} {p : Pr} (h : FitL l) (hp : p.fit) : FitL (l ++ [p]) := fun x hx => by
  rcases List.mem_append.1 hx with hx | hx
  · exact h x hx
  · rw [List.mem_singleton.1 hx]; exact hp
theorem fitL_set {l : List Pr} {i : Nat} {p : Pr} (h : FitL l) (hp : p.fit) : FitL (l.set i p) := fun x hx => by
  rcases List.mem_or_eq_of_mem_set hx with hx | rfl
  · exact h x hx
  · exact hp
theorem KnOk.load {x : Kn} {n : Nat} (h : KnOk x n) {p : Pr} (hp : p.fit) (h0 : 0 ≤ p.a) : KnOk (x.load p) (n + 1) := by
  unfold Kn.load
  split
  · exact h.more (Nat.le_succ _)
  · split
    · exact ⟨by simp; exact h.ldn, Nat.le_succ_of_le h.stn, h.la0, h.la1, h.cd, fitL_snoc h.ldf hp, h.stf, fun y hy => by
        rcases List.mem_append.1 hy with hy | hy
        · exact h.lda y hy
        · rw [List.mem_singleton.1 hy]; exact h0, h.sta⟩
    · split
      · exact h.more (Nat.le_succ _)
      · exact ⟨Nat.le_succ_of_le h.ldn, Nat.le_succ_of_le h.stn, h.la0, h.la1, h.cd, h.ldf, h.stf, h.lda, h.sta⟩
theorem KnOk.store {x : Kn} {n : Nat} (h : KnOk x n) {p : Pr} (hp : p.fit) (h0 : 0 ≤ p.a) : KnOk (x.store p) (n + 1) := by
  unfold Kn.store
  split
  · exact ⟨Nat.le_succ_of_le h.ldn, by simp; exact h.stn, h.la0, h.la1, h.cd, h.ldf, fitL_snoc h.stf hp, h.lda, fun y hy => by
      rcases List.mem_append.1 hy with hy | hy
      · exact h.sta y hy
      · rw [List.mem_singleton.1 hy]; exact h0⟩
  · exact ⟨Nat.le_succ_of_le h.ldn, by simp; exact Nat.le_succ_of_le h.stn, h.la0, h.la1, h.cd, h.ldf, fitL_set h.stf hp, h.lda, fun y hy => by
      rcases List.mem_or_eq_of_mem_set hy with hy | rfl
      · exact h.sta y hy
      · exact h0⟩
theorem Ev.may_addr {e : Ev} (h : e.may = true) (hk : e.k = 2 ∨ e.k = 3 ∨ e.k = 7 ∨ e.k = 8) : 0 ≤ e.ad := by
  unfold Ev.may at h
  rcases hk with hk | hk | hk | hk
  all_goals
    rw [hk] at h
    by_cases a : e.co < 0
    · rw [if_pos a] at h; cases h
    · rw [if_neg a] at h
      by_cases b : 4 ≤ e.co
      · rw [if_pos b] at h; cases h
      · rw [if_neg b] at h
        simpa using h
theorem Ev.may_lane {e : Ev} (h : e.may = true) (hk : e.k = 1) : 1 ≤ e.la ∧ e.la ≤ 4 := by
  unfold Ev.may at h
  rw [hk] at h
  by_cases a : e.co < 0
  · rw [if_pos a] at h; cases h
  · rw [if_neg a] at h
    by_cases b : 4 ≤ e.co
    · rw [if_pos b] at h; cases h
    · rw [if_neg b] at h
      simp at h
      exact ⟨h.1.1.1, h.1.1.2⟩
theorem Ev.may_code {e : Ev} (h : e.may = true) (hk : e.k = 6) : 1 ≤ e.cd ∧ e.cd ≤ 8 := by
  unfold Ev.may at h
  rw [hk] at h
  by_cases a : e.co < 0
  · rw [if_pos a] at h; cases h
  · rw [if_neg a] at h
    by_cases b : 4 ≤ e.co
    · rw [if_pos b] at h; cases h
    · rw [if_neg b] at h
      simpa using h
theorem Ev.may_core {e : Ev} (h : e.may = true) : 0 ≤ e.co ∧ e.co < 4 := by
  unfold Ev.may at h
  by_cases a : e.co < 0
  · rw [if_pos a] at h; cases h
  · rw [if_neg a] at h
    by_cases b : 4 ≤ e.co
    · rw [if_pos b] at h; cases h
    · omega
theorem KnOk.add {x : Kn} {n : Nat} (h : KnOk x n) {e : Ev} (he : e.fit) (hm : e.may = true) (i : Int) : KnOk (x.add i e) (n + 1) := by
  have h0 : KnOk (x.add0 i e) (n + 1) := by
    unfold Kn.add0
    split
    · rename_i hk; exact h.load ⟨he.2.1, he.2.2⟩ (Ev.may_addr hm (.inl hk))
    · split
      · rename_i hk; exact h.store ⟨he.2.1, he.2.2⟩ (Ev.may_addr hm (.inr (.inl hk)))
      · split
        · exact ⟨Nat.le_succ_of_le h.ldn, Nat.le_succ_of_le h.stn, h.la0, h.la1, fun _ e => (by cases e), h.ldf, h.stf, h.lda, h.sta⟩
        · split
          · rename_i hk; exact ⟨Nat.le_succ_of_le h.ldn, Nat.le_succ_of_le h.stn, h.la0, h.la1, fun _ _ => Ev.may_code hm hk, h.ldf, h.stf, h.lda, h.sta⟩
          · exact h.more (Nat.le_succ _)
  unfold Kn.add
  split
  · exact ⟨h0.ldn, h0.stn, h0.la0, h0.la1, h0.cd, h0.ldf, h0.stf, h0.lda, h0.sta⟩
  · exact h0
theorem Rd.ok_open {s : Rd} {e : Ev} (h : s.ok e = true) (hp : plainK e.k = false) (h1 : e.k ≠ 1) : (s.o e.co).isSome = true := by
  unfold Rd.ok Rd.follows at h
  rw [if_neg h1, hp] at h
  simp at h
  exact Option.isSome_iff_ne_none.2 (fun hn => by rw [hn] at h; simp at h)
theorem RI.step {s : Rd} {n : Nat} (h : RI s n) {e : Ev} (he : e.fit) (hk : s.ok e = true) (i : Int) : RI (s.step i e) (n + 1) := by
  have hm : e.may = true := by unfold Rd.ok at hk; simp at hk; exact hk.1
  have hks : s.ks.length ≤ (s.ksAdd i e).length ∧ (s.ksAdd i e).length ≤ n + 1 ∧ (∀ x ∈ s.ksAdd i e, KnOk x (n + 1)) ∧ (s.place e = -1 ∨ ∃ j : Nat, s.place e = j ∧ j < (s.ksAdd i e).length) ∧ (e.k = 1 → s.place e ≠ -1) := by
    unfold Rd.ksAdd Rd.place
    cases hp : plainK e.k with
    | true =>
      simp only [if_true]
      refine ⟨Nat.le_refl _, Nat.le_succ_of_le h.ksn, fun x hx => (h.ks x hx).more (Nat.le_succ _), .inl trivial, fun e1 => ?_⟩
      rw [e1] at hp; cases hp
    | false =>
      simp only [Bool.false_eq_true, if_false]
      by_cases e1 : e.k = 1
      · simp only [e1, if_true]
        refine ⟨by simp, by simp; exact h.ksn, fun x hx => ?_, .inr ⟨_, rfl, by simp⟩, fun _ => by omega⟩
        rcases List.mem_append.1 hx with hx | hx
        · exact (h.ks x hx).more (Nat.le_succ _)
        · rw [List.mem_singleton.1 hx]
          have := Ev.may_lane hm e1
          exact ⟨Nat.zero_le _, Nat.zero_le _, this.1, this.2, fun h => (by simp [Kn.begun] at h), fun _ h => (by cases h), fun _ h => (by cases h), fun _ h => (by cases h), fun _ h => (by cases h)⟩
      · simp only [e1, if_false, false_implies, and_true]
        obtain ⟨v, hv⟩ := Option.isSome_iff_exists.1 (Rd.ok_open hk hp e1)
        obtain ⟨j, rfl, hj⟩ := h.o _ _ hv
        rw [hv]
        simp only [Option.getD_some, Int.toNat_natCast]
        refine ⟨by simp, by simp; exact Nat.le_succ_of_le h.ksn, fun x hx => ?_, .inr ⟨j, rfl, by simpa using hj⟩⟩
        rcases List.mem_or_eq_of_mem_set hx with hx | rfl
        · exact (h.ks x hx).more (Nat.le_succ _)
        · refine (h.ks _ ?_).add he hm i
          rw [List.getD_eq_getElem?_getD, List.getElem?_eq_getElem hj]
          exact List.getElem_mem hj
  obtain ⟨k1, k2, k3, k4, k5⟩ := hks
  refine ⟨by simp [Rd.step, h.pln], k2, k3, fun a v hv => ?_, fun v hv => ?_⟩
  · unfold Rd.step passO at hv
    simp only at hv
    have old : s.o a = some v → ∃ j : Nat, v = j ∧ j < (s.ksAdd i e).length := fun hv => by
      obtain ⟨j, hj, hl⟩ := h.o _ _ hv
      exact ⟨j, hj, Nat.lt_of_lt_of_le hl k1⟩
    split at hv
    · rename_i e1
      unfold Mp.put at hv
      split at hv
      · cases hv
        exact k4.resolve_left (k5 e1)
      · exact old hv
    · split at hv
      · unfold Mp.del at hv
        split at hv
        · cases hv
        · exact old hv
      · split at hv
        · unfold Mp.del at hv
          split at hv
          · cases hv
          · exact old hv
        · exact old hv
  · rcases List.mem_append.1 hv with hv | hv
    · exact (h.pls v hv).imp id (fun ⟨j, hj, hl⟩ => ⟨j, hj, Nat.lt_of_lt_of_le hl k1⟩)
    · rw [List.mem_singleton.1 hv]; exact k4

end Go.Proofs.Ytgjbhcnadenojaa
