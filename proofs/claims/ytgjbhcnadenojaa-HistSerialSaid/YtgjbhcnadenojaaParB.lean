/- A history in two parts: what Judge says, plainly. No conditions but those stated. -/
import Derived.Test.YtgjbhcnadenojaaParA
import Derived.Test.YtgjbhcnadenojaaHisY
namespace Go.Proofs.Ytgjbhcnadenojaa

theorem go_RI : ∀ (h : List Ev) (s s' : Rd) (i : Nat), s.go i h = some s' → RI s i → (∀ e ∈ h, e.fit) → RI s' (i + h.length)
  | [], s, s', i, hs, hr, _ => by rw [Rd.go] at hs; cases hs; exact hr
  | e :: r, s, s', i, hs, hr, hf => by
    rw [Rd.go] at hs
    split at hs
    · rename_i hk
      have := go_RI r _ _ _ hs (hr.step (hf e (List.mem_cons_self ..)) hk _) (fun x hx => hf x (List.mem_cons_of_mem _ hx))
      rw [List.length_cons, show i + (r.length + 1) = i + 1 + r.length from by omega]
      exact this
    · cases hs
theorem read_RI {h : List Ev} {s : Rd} (hs : readH h = some s) (hf : ∀ e ∈ h, e.fit) : RI s h.length := by
  have := go_RI h _ _ 0 hs RI.zero hf
  rwa [Nat.zero_add] at this
theorem parts_read {A B : List Ev} {sa sb : Rd} (ha : readH A = some sa) (ho : ∀ x ∈ sa.ks, ¬ x.to_ < 0) (hb : readH B = some sb) : ∃ s, readH (A ++ B) = some s ∧ Sim sa.ks sa.pl (A.length : Nat) s sb := by
  unfold readH at *
  rw [go_append, ha]
  simp only [Option.bind_some, Nat.zero_add]
  have h0 : Sim sa.ks sa.pl (A.length : Nat) sa Rd.zero := ⟨by simp [Rd.zero], by simp [Rd.zero], fun a => by rw [over_none (go_RO A _ _ 0 ha RO.zero) ho a]; rfl, fun a v h => by cases h⟩
  have := sim_go B sa Rd.zero sb 0 h0 hb
  simpa using this

def moSh (K n : Int) (mo : Mo) : Mo := ⟨mo.e, shI K mo.pl, mo.hp.map (Kn.sh n)⟩
theorem happens_sh {K : List Kn} {P : List Int} {n : Nat} {s t : Rd} (h : Sim K P n s t) {v : Int} (hv : v = -1 ∨ ∃ j : Nat, v = j ∧ j < t.ks.length) (i : Nat) :
    happens s.ks (shI K.length v) ((n + i : Nat) : Int) = happens t.ks v i ∧ (happens t.ks v i = true → s.ks.getD (shI K.length v).toNat Kn.zero = (t.ks.getD v.toNat Kn.zero).sh n) := by
  rcases hv with rfl | ⟨j, rfl, hj⟩
  · exact ⟨rfl, fun h => by simp [happens] at h⟩
  · have hg := h.get hj
    rw [shI_of (by omega)]
    refine ⟨?_, fun _ => by rw [hg, Int.toNat_natCast]⟩
    unfold happens
    rw [if_neg (by omega), if_neg (by omega), hg, Int.toNat_natCast]
    show (shI n _ == _) = _
    unfold shI
    rw [Bool.eq_iff_iff]
    simp only [beq_iff_eq]
    split <;> omega
theorem getD_left {α : Type} {l m : List α} {i : Nat} {d : α} (h : i < l.length) : (l ++ m).getD i d = l.getD i d := by
  rw [List.getD_eq_getElem?_getD, List.getD_eq_getElem?_getD, List.getElem?_append_left h]
theorem getD_right {α : Type} {l m : List α} {i : Nat} {d : α} : (l ++ m).getD (l.length + i) d = m.getD i d := by
  rw [List.getD_eq_getElem?_getD, List.getD_eq_getElem?_getD, List.getElem?_append_right (by omega), show l.length + i - l.length = i from by omega]
theorem moments_append {A B : List Ev} {sa sb s : Rd} (hsa : RI sa A.length) (hsb : RI sb B.length) (h : Sim sa.ks sa.pl (A.length : Nat) s sb) : moments (A ++ B) s = moments A sa ++ (moments B sb).map (moSh sa.ks.length (A.length : Nat)) := by
  unfold moments
  rw [List.length_append, List.range_add, List.map_append, List.map_map, List.map_map]
  congr 1
  · refine List.map_congr_left (fun k hk => ?_)
    have hk := List.mem_range.1 hk
    have hpl : s.pl.getD k 0 = sa.pl.getD k 0 := by rw [h.pl, getD_left (by rw [hsa.pln]; exact hk)]
    unfold moAt moOf
    rw [hpl, getD_left hk]
    have hv := hsa.pls (sa.pl.getD k 0) (by rw [List.getD_eq_getElem?_getD, List.getElem?_eq_getElem (by rw [hsa.pln]; exact hk)]; exact List.getElem_mem _)
    generalize sa.pl.getD k 0 = v at *
    rcases hv with rfl | ⟨j, rfl, hj⟩
    · rfl
    · have hg : s.ks.getD j Kn.zero = sa.ks.getD j Kn.zero := by rw [h.ks, getD_left hj]
      have hh : happens s.ks j k = happens sa.ks j k := by unfold happens; rw [Int.toNat_natCast, hg]
      rw [hh, Int.toNat_natCast, hg]
  · refine List.map_congr_left (fun i hi => ?_)
    have hi := List.mem_range.1 hi
    have hpl : s.pl.getD (A.length + i) 0 = shI sa.ks.length (sb.pl.getD i 0) := by
      rw [h.pl, show A.length + i = sa.pl.length + i from by rw [hsa.pln], getD_right, List.getD_eq_getElem?_getD, List.getElem?_map, List.getD_eq_getElem?_getD, List.getElem?_eq_getElem (by rw [hsb.pln]; exact hi)]
      rfl
    have hv := hsb.pls (sb.pl.getD i 0) (by rw [List.getD_eq_getElem?_getD, List.getElem?_eq_getElem (by rw [hsb.pln]; exact hi)]; exact List.getElem_mem _)
    obtain ⟨h1, h2⟩ := happens_sh h hv i
    simp only [Function.comp_apply]
    unfold moAt moOf moSh
    rw [hpl, getD_right, h1]
    simp only
    congr 1
    split
    · rename_i hh; rw [h2 hh]; rfl
    · rfl

theorem judge_append : ∀ (L M : List Mo) (m : Wd) (i : Nat), judgeFrom m i (L ++ M) = match judgeFrom m i L with | some j => some j | none => judgeFrom (finalM m L) (i + L.length) M
  | [], M, m, i => by simp [judgeFrom, finalM]
  | x :: L, M, m, i => by
    simp only [List.cons_append, judgeFrom]
    split
    · rw [judge_append L M, List.length_cons, show i + 1 + L.length = i + (L.length + 1) from by omega]; rfl
    · rfl
theorem judge_shift : ∀ (L : List Mo) (m : Wd) (n i : Nat), judgeFrom m (n + i) L = (judgeFrom m i L).map (n + ·)
  | [], _, _, _ => rfl
  | x :: L, m, n, i => by
    simp only [judgeFrom]
    split
    · rw [show n + i + 1 = n + (i + 1) from by omega]; exact judge_shift L _ n (i + 1)
    · rfl
theorem judge_map {f : Mo → Mo} (he : ∀ m x, Wd.explains m (f x) = Wd.explains m x) (hp : ∀ m x, Wd.pass m (f x) = Wd.pass m x) : ∀ (L : List Mo) (m : Wd) (i : Nat), judgeFrom m i (L.map f) = judgeFrom m i L
  | [], _, _ => rfl
  | x :: L, m, i => by
    simp only [List.map_cons, judgeFrom, he, hp]
    split
    · exact judge_map he hp L _ _
    · rfl
theorem explains_sh (K n : Int) (m : Wd) (x : Mo) : m.explains (moSh K n x) = m.explains x := by
  unfold Wd.explains moSh
  simp only
  cases x.hp <;> rfl
theorem pass_sh (K n : Int) (m : Wd) (x : Mo) : m.pass (moSh K n x) = m.pass x := by
  unfold Wd.pass moSh
  simp only
  cases x.hp <;> rfl

/-! ### Memory -/
theorem word_put (m : Wd) (k v a : Int) : ({ m with later := m.later.put k v } : Wd).word a = if a = k then v else m.word a := by
  unfold Wd.word Mp.put
  simp only
  by_cases h : a = k
  · rw [if_pos h, if_pos h]
  · rw [if_neg h, if_neg h]
theorem word_puts : ∀ (l : List Pr) (f : Mp) (first : List Int) (g : List Int) (f' : Mp) (a : Int), (∀ a, 0 ≤ a → (⟨first, f⟩ : Wd).word a = (⟨g, f'⟩ : Wd).word a) → 0 ≤ a → (⟨first, Wd.puts f l⟩ : Wd).word a = (⟨g, Wd.puts f' l⟩ : Wd).word a
  | [], _, _, _, _, a, h, ha => h a ha
  | p :: l, f, first, g, f', a, h, ha => word_puts l (f.put p.a p.v) first g (f'.put p.a p.v) a (fun b hb => by
      have h1 := word_put ⟨first, f⟩ p.a p.v b
      have h2 := word_put ⟨g, f'⟩ p.a p.v b
      simp only at h1 h2
      rw [h1, h2, h b hb]) ha
def WEq (m m' : Wd) : Prop := ∀ a, 0 ≤ a → m.word a = m'.word a
theorem WEq.pass {m m' : Wd} (h : WEq m m') (x : Mo) : WEq (m.pass x) (m'.pass x) := by
  have h1 : WEq ⟨m.first, if x.e.k = 8 then m.later.put x.e.ad x.e.va else m.later⟩ ⟨m'.first, if x.e.k = 8 then m'.later.put x.e.ad x.e.va else m'.later⟩ := by
    split
    · intro a ha
      rw [word_put ⟨m.first, m.later⟩, word_put ⟨m'.first, m'.later⟩]
      split
      · rfl
      · exact h a ha
    · exact h
  unfold Wd.pass
  cases x.hp with
  | none => exact h1
  | some y =>
    simp only
    split
    · exact fun a ha => word_puts y.st _ _ _ _ a h1 ha
    · exact h1
/-- A moment's addresses. -/
structure MoOk (x : Mo) : Prop where
  e : x.e.k = 7 → 0 ≤ x.e.ad
  hp : ∀ y, x.hp = some y → ∀ p ∈ y.ld, 0 ≤ p.a
theorem WEq.explains {m m' : Wd} (h : WEq m m') {x : Mo} (hx : MoOk x) : m.explains x = m'.explains x := by
  unfold Wd.explains
  split
  · rename_i hk; rw [h _ (hx.e hk)]
  · cases hp : x.hp with
    | none => rfl
    | some y =>
      simp only
      congr 1
      unfold Wd.has
      rw [Bool.eq_iff_iff, List.all_eq_true, List.all_eq_true]
      exact ⟨fun q p hpm => by rw [← h _ (hx.hp y hp p hpm)]; exact q p hpm, fun q p hpm => by rw [h _ (hx.hp y hp p hpm)]; exact q p hpm⟩
theorem judge_weq : ∀ (L : List Mo) (m m' : Wd) (i : Nat), WEq m m' → (∀ x ∈ L, MoOk x) → judgeFrom m i L = judgeFrom m' i L
  | [], _, _, _, _, _ => rfl
  | x :: L, m, m', i, h, hx => by
    simp only [judgeFrom, h.explains (hx x (List.mem_cons_self ..))]
    split
    · exact judge_weq L _ _ _ (h.pass x) (fun y hy => hx y (List.mem_cons_of_mem _ hy))
    · rfl
theorem mo_ok {h : List Ev} {s : Rd} (hs : readH h = some s) (hf : ∀ e ∈ h, e.fit) : ∀ x ∈ moments h s, MoOk x := fun x hx => by
  have hr := read_RI hs hf
  obtain ⟨k, hk, rfl⟩ := List.mem_map.1 hx
  have hk := List.mem_range.1 hk
  refine ⟨fun h7 => ?_, fun y hy p hp => ?_⟩
  · have he : h.getD k Ev.zero ∈ h := by rw [List.getD_eq_getElem?_getD, List.getElem?_eq_getElem hk]; exact List.getElem_mem _
    exact Ev.may_addr (go_may h _ _ _ hs _ he) (.inr (.inr (.inl h7)))
  · unfold moAt moOf at hy
    simp only at hy
    split at hy
    · rename_i hh
      cases hy
      have hv := hr.pls (s.pl.getD k 0) (by rw [List.getD_eq_getElem?_getD, List.getElem?_eq_getElem (by rw [hr.pln]; exact hk)]; exact List.getElem_mem _)
      rcases hv with hv | ⟨j, hv, hj⟩
      · rw [hv] at hh; simp [happens] at hh
      · rw [hv, Int.toNat_natCast] at hp
        have hm : s.ks.getD j Kn.zero ∈ s.ks := by rw [List.getD_eq_getElem?_getD, List.getElem?_eq_getElem hj]; exact List.getElem_mem _
        exact (hr.ks _ hm).lda p hp
    · cases hy

/-! ### Words beyond -/
theorem add_sta {x : Kn} {i : Int} {e : Ev} (h : ∀ p ∈ x.st, p.a ≤ 511) (he : e.ad ≤ 511) : ∀ p ∈ (x.add i e).st, p.a ≤ 511 := by
  have h0 : ∀ p ∈ (x.add0 i e).st, p.a ≤ 511 := by
    unfold Kn.add0
    split
    · unfold Kn.load
      repeat' split
      all_goals exact h
    · split
      · unfold Kn.store
        split
        · intro p hp
          rcases List.mem_append.1 hp with hp | hp
          · exact h p hp
          · rw [List.mem_singleton.1 hp]; exact he
        · intro p hp
          rcases List.mem_or_eq_of_mem_set hp with hp | rfl
          · exact h p hp
          · exact he
      · repeat' split
        all_goals exact h
  unfold Kn.add
  split <;> exact h0
theorem go_sta : ∀ (h : List Ev) (s s' : Rd) (i : Nat), s.go i h = some s' → (∀ x ∈ s.ks, ∀ p ∈ x.st, p.a ≤ 511) → (∀ e ∈ h, e.ad ≤ 511) → ∀ x ∈ s'.ks, ∀ p ∈ x.st, p.a ≤ 511
  | [], s, s', i, hs, hr, _ => by rw [Rd.go] at hs; cases hs; exact hr
  | e :: r, s, s', i, hs, hr, hf => by
    rw [Rd.go] at hs
    split at hs
    · refine go_sta r _ _ _ hs (fun x hx => ?_) (fun y hy => hf y (List.mem_cons_of_mem _ hy))
      unfold Rd.step Rd.ksAdd at hx
      simp only at hx
      split at hx
      · exact hr x hx
      · split at hx
        · rcases List.mem_append.1 hx with hx | hx
          · exact hr x hx
          · rw [List.mem_singleton.1 hx]; intro p hp; cases hp
        · rcases List.mem_or_eq_of_mem_set hx with hx | rfl
          · exact hr x hx
          · refine add_sta (fun p hp => ?_) (hf e (List.mem_cons_self ..))
            rw [List.getD_eq_getElem?_getD] at hp
            cases hq : s.ks[((s.o e.co).getD 0).toNat]? with
            | none => rw [hq] at hp; cases hp
            | some y => rw [hq] at hp; exact hr y (List.mem_of_getElem? hq) p hp
    · cases hs
structure MoLe (x : Mo) : Prop where
  e : x.e.ad ≤ 511
  hp : ∀ y, x.hp = some y → ∀ p ∈ y.st, p.a ≤ 511
theorem puts_le : ∀ (l : List Pr) (f : Mp), (∀ p ∈ l, p.a ≤ 511) → (∀ a, 512 ≤ a → f a = none) → ∀ a, 512 ≤ a → Wd.puts f l a = none
  | [], _, _, h, a, ha => h a ha
  | p :: l, f, hl, h, a, ha => puts_le l (f.put p.a p.v) (fun q hq => hl q (List.mem_cons_of_mem _ hq)) (fun b hb => by
      unfold Mp.put
      rw [if_neg (by have := hl p (List.mem_cons_self ..); omega)]
      exact h b hb) a ha
theorem pass_le {m : Wd} {x : Mo} (h : ∀ a, 512 ≤ a → m.later a = none) (hx : MoLe x) : ∀ a, 512 ≤ a → (m.pass x).later a = none := by
  have h1 : ∀ a, 512 ≤ a → (if x.e.k = 8 then m.later.put x.e.ad x.e.va else m.later) a = none := fun a ha => by
    split
    · unfold Mp.put; rw [if_neg (by have := hx.e; omega)]; exact h a ha
    · exact h a ha
  unfold Wd.pass
  cases hp : x.hp with
  | none => exact h1
  | some y =>
    simp only
    split
    · exact puts_le _ _ (hx.hp y hp) h1
    · exact h1
theorem final_le : ∀ (L : List Mo) (m : Wd), (∀ a, 512 ≤ a → m.later a = none) → (∀ x ∈ L, MoLe x) → ∀ a, 512 ≤ a → (finalM m L).later a = none
  | [], _, h, _ => h
  | x :: L, m, h, hx => final_le L (m.pass x) (pass_le h (hx x (List.mem_cons_self ..))) (fun y hy => hx y (List.mem_cons_of_mem _ hy))
theorem pass_first (m : Wd) (x : Mo) : (m.pass x).first = m.first := by
  unfold Wd.pass
  cases x.hp with
  | none => rfl
  | some y => simp only; split <;> rfl
theorem final_first : ∀ (L : List Mo) (m : Wd), (finalM m L).first = m.first
  | [], _ => rfl
  | x :: L, m => (final_first L (m.pass x)).trans (pass_first m x)
theorem mo_le {h : List Ev} {s : Rd} (hs : readH h = some s) (hf : ∀ e ∈ h, e.fit) (had : ∀ e ∈ h, e.ad ≤ 511) : ∀ x ∈ moments h s, MoLe x := fun x hx => by
  have hr := read_RI hs hf
  have hst := go_sta h _ _ 0 hs (fun x hx => (by cases hx)) had
  obtain ⟨k, hk, rfl⟩ := List.mem_map.1 hx
  have hk := List.mem_range.1 hk
  refine ⟨had _ (by unfold moAt moOf; simp only; rw [List.getD_eq_getElem?_getD, List.getElem?_eq_getElem hk]; exact List.getElem_mem _), fun y hy p hp => ?_⟩
  unfold moAt moOf at hy
  simp only at hy
  split at hy
  · rename_i hh
    cases hy
    have hv := hr.pls (s.pl.getD k 0) (by rw [List.getD_eq_getElem?_getD, List.getElem?_eq_getElem (by rw [hr.pln]; exact hk)]; exact List.getElem_mem _)
    rcases hv with hv | ⟨j, hv, hj⟩
    · rw [hv] at hh; simp [happens] at hh
    · rw [hv, Int.toNat_natCast] at hp
      have hm : s.ks.getD j Kn.zero ∈ s.ks := by rw [List.getD_eq_getElem?_getD, List.getElem?_eq_getElem hj]; exact List.getElem_mem _
      exact hst _ hm p hp
  · cases hy
/-- Memory as it is told, and what came in beyond. -/
def wlist (m : Wd) (first : List Int) : List Int := wordsP m 512 ++ first.drop 512
theorem wlist_eq {m : Wd} {first : List Int} (hf : m.first = first) (hl : ∀ a, 512 ≤ a → m.later a = none) : WEq m ⟨wlist m first, Mp.none⟩ := fun a ha => by
  obtain ⟨k, rfl⟩ : ∃ k : Nat, a = (k : Int) := ⟨a.toNat, by omega⟩
  have hw : (wordsP m 512).length = 512 := by unfold wordsP; simp
  have hlen : (wlist m first).length = 512 + (first.length - 512) := by unfold wlist; rw [List.length_append, hw, List.length_drop]
  show m.word k = (if (k : Int) < ((wlist m first).length : Nat) then (wlist m first).getD (k : Int).toNat 0 else 0)
  rw [Int.toNat_natCast, hlen]
  by_cases h1 : k < 512
  · rw [if_pos (by omega)]
    unfold wlist
    rw [getD_left (by rw [hw]; exact h1), List.getD_eq_getElem?_getD]
    unfold wordsP
    rw [List.getElem?_map, List.getElem?_range h1]
    rfl
  · have hn := hl k (by omega)
    have hmw : m.word k = if (k : Int) < (first.length : Nat) then first.getD k 0 else 0 := by
      unfold Wd.word
      rw [hn, hf, Int.toNat_natCast]
    rw [hmw]
    by_cases h2 : k < first.length
    · rw [if_pos (by omega), if_pos (by omega)]
      unfold wlist
      rw [show k = (wordsP m 512).length + (k - 512) from by rw [hw]; omega, getD_right, hw, List.getD_eq_getElem?_getD, List.getD_eq_getElem?_getD, List.getElem?_drop]
    · rw [if_neg (by omega), if_neg (by omega)]
/-- THE STAGE'S THEOREM, plainly. -/
theorem parts_plain {A B : List Ev} {first : List Int} {sa sb : Rd} (ha : readH A = some sa) (ho : ∀ x ∈ sa.ks, ¬ x.to_ < 0) (hb : readH B = some sb) (hfa : ∀ e ∈ A, e.fit) (hfb : ∀ e ∈ B, e.fit) (had : ∀ e ∈ A, e.ad ≤ 511) :
    judgeP (A ++ B) first = match judgeFrom ⟨first, Mp.none⟩ 0 (moments A sa) with
      | some i => (((i : Nat) : Int), false, 0)
      | none => match judgeFrom ⟨wlist (finalM ⟨first, Mp.none⟩ (moments A sa)) first, Mp.none⟩ 0 (moments B sb) with
        | some j => (((A.length + j : Nat) : Int), false, 0)
        | none => (0, true, 0) := by
  obtain ⟨s, hs, hsim⟩ := parts_read ha ho hb
  unfold judgeP
  rw [hs]
  simp only
  rw [moments_append (read_RI ha hfa) (read_RI hb hfb) hsim, judge_append]
  cases hj : judgeFrom ⟨first, Mp.none⟩ 0 (moments A sa) with
  | some i => rfl
  | none =>
    simp only
    rw [judge_map (fun m x => explains_sh _ _ m x) (fun m x => pass_sh _ _ m x), moments_len, Nat.zero_add, show A.length = A.length + 0 from rfl, judge_shift, judge_weq _ _ _ _ (wlist_eq (final_first _ _) (final_le _ _ (fun a _ => rfl) (mo_le ha hfa had))) (mo_ok hb hfb)]
    cases judgeFrom ⟨wlist (finalM ⟨first, Mp.none⟩ (moments A sa)) first, Mp.none⟩ 0 (moments B sb) <;> rfl

end Go.Proofs.Ytgjbhcnadenojaa
