/- Blocks one behind the other, plainly: many of them. No conditions but those stated. -/
import Derived.Test.YtgjbhcnadenojaaSerC
namespace Go.Proofs.Ytgjbhcnadenojaa

def cnt (l : List Bk) (c : Int) : Int := ((l.filter (fun b => b.co == c)).length : Nat)
theorem cnt_nn (l : List Bk) (c : Int) : 0 ≤ cnt l c := by unfold cnt; omega
theorem cnt_snoc (l : List Bk) (b : Bk) (c : Int) : cnt (l ++ [b]) c = cnt l c + if b.co = c then 1 else 0 := by
  unfold cnt
  rw [List.filter_append, List.length_append]
  by_cases h : b.co = c
  · rw [if_pos h]; simp [List.filter, h]
  · rw [if_neg h]
    have : (b.co == c) = false := by simpa using h
    simp [List.filter, this]
def serW (words : List Int) : List Bk → List Int
  | [] => words
  | b :: r => serW (blockW b words) r
def serH (pre : List Bk) (words : List Int) : List Bk → List Ev
  | [] => []
  | b :: r => blockE b (cnt pre b.co) words ++ serH (pre ++ [b]) (blockW b words) r
theorem serW_snoc : ∀ (l : List Bk) (words : List Int) (b : Bk), serW words (l ++ [b]) = blockW b (serW words l)
  | [], _, _ => rfl
  | _ :: r, words, b => serW_snoc r _ b
theorem serH_snoc : ∀ (l pre : List Bk) (words : List Int) (b : Bk), serH pre words (l ++ [b]) = serH pre words l ++ blockE b (cnt (pre ++ l) b.co) (serW words l)
  | [], pre, words, b => by simp [serH, serW]
  | x :: r, pre, words, b => by
    simp only [List.cons_append, serH, serW]
    rw [serH_snoc r]
    simp
theorem blockW_len (b : Bk) (words : List Int) : (blockW b words).length = words.length := by
  unfold blockW
  split
  · rfl
  · exact ownL_len _ _
theorem serW_len : ∀ (l : List Bk) (words : List Int), (serW words l).length = words.length
  | [], _ => rfl
  | b :: r, words => by rw [serW, serW_len r, blockW_len]
theorem blockE_len (b : Bk) (n : Int) (words : List Int) : (blockE b n words).length = b.ops.length + 3 := by
  simp [blockE, bodyE, evsL_len]

/-! ### All are of 64 bits -/
def UW (l : List Int) : Prop := ∀ v ∈ l, (Lit.int .u64 v).wf = true
structure Bk.Fit (b : Bk) : Prop where
  ops : ∀ o ∈ b.ops, (Lit.int .u64 o.va).wf = true
theorem wf_u0 : (Lit.int .u64 0).wf = true := by decide
theorem UW.getD {l : List Int} (h : UW l) (i : Nat) : (Lit.int .u64 (l.getD i 0)).wf = true := by
  rw [List.getD_eq_getElem?_getD]
  cases hq : l[i]? with
  | none => exact wf_u0
  | some v => exact h v (List.mem_of_getElem? hq)
theorem UW.ownOf {l : List Int} (h : UW l) {o : Op3} (ho : (Lit.int .u64 o.va).wf = true) : UW (ownOf l o) := by
  unfold Go.Proofs.Ytgjbhcnadenojaa.ownOf
  split
  · intro v hv
    rcases List.mem_or_eq_of_mem_set hv with h1 | h1
    · exact h v h1
    · rw [h1]; exact ho
  · exact h
theorem UW.ownL : ∀ (l : List Op3) {own : List Int}, UW own → (∀ o ∈ l, (Lit.int .u64 o.va).wf = true) → UW (ownL own l)
  | [], _, h, _ => h
  | o :: r, _, h, ho => UW.ownL r (h.ownOf (ho o (List.mem_cons_self ..))) (fun o' h' => ho o' (List.mem_cons_of_mem _ h'))
theorem UW.blockW {words : List Int} (h : UW words) {b : Bk} (hb : b.Fit) : UW (blockW b words) := by
  unfold Go.Proofs.Ytgjbhcnadenojaa.blockW
  split
  · exact h
  · exact UW.ownL _ h hb.ops
theorem wf_co {c : Int} (h : 0 ≤ c ∧ c < 4) : (Lit.int .i64 c).wf = true := by simp [Lit.wf, IntKind.min, IntKind.max, IntKind.signed, IntKind.bits]; omega
theorem wf_ad {a : Int} {N : Nat} (h : 0 ≤ a ∧ a < (N : Int)) (hN : N ≤ 1000) : (Lit.int .i64 a).wf = true := by simp [Lit.wf, IntKind.min, IntKind.max, IntKind.signed, IntKind.bits]; omega
theorem who_fit {b : Bk} {N : Nat} (hb : b.Ok N) {n k ad va cd : Int} (h1 : (Lit.int .i64 ad).wf = true) (h2 : (Lit.int .u64 va).wf = true) : (who b n k ad va cd).fit := ⟨wf_co hb.co, h1, h2⟩
theorem evs_fit {b : Bk} {N : Nat} (hb : b.Ok N) (hN : N ≤ 1000) {n : Int} : ∀ (l : List Op3) (own : List Int), UW own → (∀ o ∈ l, (0 ≤ o.ad ∧ o.ad < (N : Int)) ∧ (Lit.int .u64 o.va).wf = true) → ∀ e ∈ evsL b n own l, e.fit
  | [], _, _, _, e, he => by cases he
  | o :: r, own, hu, h, e, he => by
    have ho := h o (List.mem_cons_self ..)
    rcases List.mem_cons.1 he with rfl | he
    · unfold evOf
      split
      · exact who_fit hb (wf_ad ho.1 hN) ho.2
      · exact who_fit hb (wf_ad ho.1 hN) (hu.getD _)
    · exact evs_fit hb hN r _ (hu.ownOf ho.2) (fun o' h' => h o' (List.mem_cons_of_mem _ h')) e he
theorem ends_fit {b : Bk} {N : Nat} (hb : b.Ok N) (n : Int) : (endP b n).fit ∧ (endC b n).fit ∧ (who b n 1 0 0 0).fit := by
  have h0 : (Lit.int .i64 0).wf = true := by decide
  refine ⟨who_fit hb h0 wf_u0, ?_, who_fit hb h0 wf_u0⟩
  unfold endC
  split <;> exact who_fit hb h0 wf_u0
theorem block_fit {b : Bk} {words : List Int} (hb : b.Ok words.length) (hf : b.Fit) (hu : UW words) (hN : words.length ≤ 1000) (n : Int) : ∀ e ∈ blockE b n words, e.fit := by
  have h3 := ends_fit hb n
  intro e he
  unfold blockE bodyE at he
  rcases List.mem_cons.1 he with rfl | he
  · exact h3.2.2
  rcases List.mem_append.1 he with he | he
  · rcases List.mem_append.1 he with he | he
    · exact evs_fit hb hN b.ops words hu (fun o h => ⟨hb.ops o h, hf.ops o h⟩) e he
    · simp at he; subst he; exact h3.1
  · simp at he; subst he; exact h3.2.1

/-! ### They are explained -/
theorem Seg.nil : Seg [] Rd.zero := ⟨rfl, (fun _ h => by cases h), (fun _ h => by cases h)⟩
theorem Bk.Ok.at {b : Bk} {N M : Nat} (h : b.Ok N) (e : N = M) : b.Ok M := e ▸ h
theorem ser_ok : ∀ (l pre : List Bk) (words : List Int) (m : Wd), (∀ b ∈ l, b.Ok words.length ∧ b.Fit) → UW words → words.length ≤ 1000 → WR m words →
    ∃ s, Seg (serH pre words l) s ∧ judgeFrom m 0 (moments (serH pre words l) s) = none ∧ WR (finalM m (moments (serH pre words l) s)) (serW words l)
  | [], _, _, m, _, _, _, hm => ⟨Rd.zero, Seg.nil, rfl, hm⟩
  | b :: r, pre, words, m, h, hu, hN, hm => by
    have hb := h b (List.mem_cons_self ..)
    obtain ⟨s1, h1, h2, h3, h4⟩ := block_ok hb.1 (cnt_nn pre b.co) hm
    have hS1 : Seg (blockE b (cnt pre b.co) words) s1 := ⟨h1, h2, block_fit hb.1 hb.2 hu hN _⟩
    obtain ⟨s2, hS2, h5, h6⟩ := ser_ok r (pre ++ [b]) (blockW b words) _ (fun b' h' => ⟨(h b' (List.mem_cons_of_mem _ h')).1.at (blockW_len b words).symm, (h b' (List.mem_cons_of_mem _ h')).2⟩) (hu.blockW hb.2) (by rw [blockW_len]; exact hN) h4
    obtain ⟨s, hS, hj, hf⟩ := hS1.append hS2
    refine ⟨s, hS, ?_, ?_⟩
    · show judgeFrom m 0 (moments (blockE b (cnt pre b.co) words ++ serH (pre ++ [b]) (blockW b words) r) s) = none
      rw [hj m, h3]; simp only; rw [h5]; rfl
    · show WR (finalM m (moments (blockE b (cnt pre b.co) words ++ serH (pre ++ [b]) (blockW b words) r) s)) _
      rw [hf m]; exact h6

/-! ### With a load turned they are not -/
theorem evsL_split (b : Bk) (n : Int) : ∀ (l1 : List Op3) (own : List Int) (o : Op3) (l2 : List Op3), evsL b n own (l1 ++ o :: l2) = evsL b n own l1 ++ evOf b n (ownL own l1) o :: evsL b n (ownOf (ownL own l1) o) l2
  | [], _, _, _ => rfl
  | x :: r, own, o, l2 => by
    simp only [List.cons_append, evsL, ownL]
    rw [evsL_split b n r]
/-- No store to the address ahead, as far as the block goes. -/
def NoSt (h : List Ev) (i : Nat) (a : Int) : Prop := ∀ (j : Nat) (f : Ev), j < i → h[j]? = some f → (∀ (q : Nat) (g : Ev), j ≤ q → q < i → h[q]? = some g → g.k ≠ 1) → ¬ (f.k = 3 ∧ f.ad = a)
theorem evs_at (b : Bk) (n : Int) : ∀ (l : List Op3) (own : List Int) (k : Nat) (q : Op3), l[k]? = some q → (evsL b n own l)[k]? = some (evOf b n (ownL own (l.take k)) q)
  | [], _, _, _, h => by simp at h
  | o :: r, own, 0, q, h => by simp at h; subst h; rfl
  | o :: r, own, k + 1, q, h => by
    simp only [List.getElem?_cons_succ] at h
    simp only [evsL, List.getElem?_cons_succ, List.take_succ_cons, ownL]
    exact evs_at b n r _ k q h
theorem ser_bad : ∀ (l pre : List Bk) (words : List Int) (m : Wd) (i : Nat) (e : Ev) (v : Int), (∀ b ∈ l, b.Ok words.length ∧ b.Fit) → UW words → words.length ≤ 1000 → WR m words →
    (serH pre words l)[i]? = some e → e.k = 2 → NoSt (serH pre words l) i e.ad → v ≠ e.va → (Lit.int .u64 v).wf = true →
    ∃ s, Seg ((serH pre words l).set i { e with va := v }) s ∧ ∃ j, judgeFrom m 0 (moments ((serH pre words l).set i { e with va := v }) s) = some j
  | [], _, _, _, i, e, v, _, _, _, _, hi, _, _, _, _ => by simp [serH] at hi
  | b :: r, pre, words, m, i, e, v, h, hu, hN, hm, hi, hk, hno, hv, hvf => by
    have hb := h b (List.mem_cons_self ..)
    have hr : ∀ b' ∈ r, b'.Ok (blockW b words).length ∧ b'.Fit := fun b' h' => ⟨(h b' (List.mem_cons_of_mem _ h')).1.at (blockW_len b words).symm, (h b' (List.mem_cons_of_mem _ h')).2⟩
    obtain ⟨n, hn⟩ : ∃ n, n = cnt pre b.co := ⟨_, rfl⟩
    have hn0 : 0 ≤ n := hn ▸ cnt_nn pre b.co
    have hsp : serH pre words (b :: r) = blockE b n words ++ serH (pre ++ [b]) (blockW b words) r := by rw [hn]; rfl
    rw [hsp] at hi hno ⊢
    by_cases hlt : i < (blockE b n words).length
    · rw [List.getElem?_append_left hlt] at hi
      rw [List.set_append_left _ _ hlt]
      -- the first block
      obtain ⟨p, hp, hpe⟩ : ∃ p, i = p + 1 ∧ (evsL b n words b.ops)[p]? = some e := by
        unfold blockE bodyE at hi
        cases i with
        | zero => simp at hi; subst hi; exact absurd hk (by simp [who])
        | succ p =>
          rw [List.getElem?_cons_succ] at hi
          by_cases h1 : p < (evsL b n words b.ops).length
          · rw [List.getElem?_append_left (by simp; omega), List.getElem?_append_left h1] at hi
            exact ⟨p, rfl, hi⟩
          · by_cases h2 : p < (evsL b n words b.ops ++ [endP b n]).length
            · rw [List.getElem?_append_left h2, List.getElem?_append_right (by omega)] at hi
              have : p - (evsL b n words b.ops).length = 0 := by simp at h2; omega
              rw [this] at hi
              simp at hi; subst hi; exact absurd hk (by simp [endP, who])
            · rw [List.getElem?_append_right (by omega)] at hi
              have h4 := (List.getElem?_eq_some_iff.1 hi).1
              have : p - (evsL b n words b.ops ++ [endP b n]).length = 0 := by simp at h4 ⊢; omega
              rw [this] at hi
              simp at hi; subst hi
              rcases end_kinds b n with h5 | ⟨h5, _⟩ <;> omega
      subst hp
      have hpl : p < b.ops.length := by rw [← evsL_len b n b.ops words]; exact (List.getElem?_eq_some_iff.1 hpe).1
      obtain ⟨l1, o, l2, hops, hl1⟩ : ∃ l1 o l2, b.ops = l1 ++ o :: l2 ∧ l1.length = p := ⟨b.ops.take p, b.ops[p], b.ops.drop (p + 1), by rw [← List.drop_eq_getElem_cons hpl, List.take_append_drop], by rw [List.length_take]; omega⟩
      have hev := evsL_split b n l1 words o l2
      rw [← hops] at hev
      have hel : (evsL b n words l1).length = p := by rw [evsL_len, hl1]
      rw [hev, List.getElem?_append_right (by omega), hel, Nat.sub_self, List.getElem?_cons_zero] at hpe
      cases hpe
      have hst : o.st = false := by
        cases hs : o.st
        · rfl
        · unfold evOf at hk; rw [hs] at hk; simp [who] at hk
      have hee : evOf b n (ownL words l1) o = who b n 2 o.ad ((ownL words l1).getD o.ad.toNat 0) 0 := by unfold evOf; rw [hst]; rfl
      have hoo : ownOf (ownL words l1) o = ownL words l1 := by unfold ownOf; rw [hst]; rfl
      rw [hee] at hno hv ⊢
      have hlno : ∀ q ∈ l1, ¬ (q.st = true ∧ q.ad = o.ad) := by
        rintro q hq ⟨q1, q2⟩
        obtain ⟨k, hkq⟩ := List.getElem?_of_mem hq
        have hkl := (List.getElem?_eq_some_iff.1 hkq).1
        have hat := evs_at b n l1 words k q hkq
        have hget : ∀ (z : Nat) (g : Ev), (evsL b n words l1)[z]? = some g → (blockE b n words ++ serH (pre ++ [b]) (blockW b words) r)[z + 1]? = some g := fun z g hz => by
          have hzl := (List.getElem?_eq_some_iff.1 hz).1
          unfold blockE bodyE
          rw [List.getElem?_append_left (by simp [hev]; omega), List.getElem?_cons_succ, List.getElem?_append_left (by simp [hev]; omega), List.getElem?_append_left (by simp [hev]; omega), hev, List.getElem?_append_left hzl]
          exact hz
        refine hno (k + 1) _ (by omega) (hget k _ hat) (fun z g h1 h2 hg => ?_) ?_
        · obtain ⟨z', rfl⟩ : ∃ z', z = z' + 1 := ⟨z - 1, by omega⟩
          obtain ⟨g', hg'⟩ : ∃ g', (evsL b n words l1)[z']? = some g' := ⟨_, List.getElem?_eq_getElem (by omega)⟩
          have e2 : g' = g := by rw [hget z' g' hg'] at hg; simpa using hg
          rw [← e2]
          rcases (evs_mem (b := b) (n := n) l1 words (fun q hq => hb.1.ops q (by rw [hops]; exact List.mem_append_left _ hq)) g' (List.mem_of_getElem? hg')).2 with h | h <;> omega
        · unfold evOf; rw [q1]; exact ⟨rfl, q2⟩
      obtain ⟨s1, h1, h2, j, h3⟩ := block_bad hb.1 hn0 hm hops hst hlno hv
      have hset : (blockE b n words).set (p + 1) { who b n 2 o.ad ((ownL words l1).getD o.ad.toNat 0) 0 with va := v } = who b n 1 0 0 0 :: (((evsL b n words l1 ++ who b n 2 o.ad v 0 :: evsL b n (ownL words l1) l2) ++ [endP b n]) ++ [endC b n]) := by
        unfold blockE bodyE
        rw [List.set_cons_succ, List.set_append_left _ _ (by simp [hev]; omega), List.set_append_left _ _ (by simp [hev]; omega), hev, hee, hoo, List.set_append_right _ _ (by omega), hel, Nat.sub_self, List.set_cons_zero]
        rfl
      rw [hset]
      have hS1 : Seg (who b n 1 0 0 0 :: (((evsL b n words l1 ++ who b n 2 o.ad v 0 :: evsL b n (ownL words l1) l2) ++ [endP b n]) ++ [endC b n])) s1 := ⟨h1, h2, by
        rw [← hset]
        intro f hf
        rcases List.mem_or_eq_of_mem_set hf with hf | hf
        · exact block_fit hb.1 hb.2 hu hN n f hf
        · rw [hf]
          exact who_fit hb.1 (n := n) (k := 2) (cd := 0) (wf_ad (hb.1.ops o (by rw [hops]; exact List.mem_append_right _ (List.mem_cons_self ..))) hN) hvf⟩
      obtain ⟨s2, hS2, _, _⟩ := ser_ok r (pre ++ [b]) (blockW b words) ⟨blockW b words, Mp.none⟩ hr (hu.blockW hb.2) (by rw [blockW_len]; exact hN) (fun a ha => by simp [Wd.word, Mp.none, ha])
      obtain ⟨s, hS, hj, _⟩ := hS1.append hS2
      exact ⟨s, hS, j, by rw [hj m, h3]⟩
    · obtain ⟨q, hq⟩ : ∃ q, i = (blockE b n words).length + q := ⟨i - (blockE b n words).length, by omega⟩
      subst hq
      rw [List.getElem?_append_right (by omega), Nat.add_sub_cancel_left] at hi
      rw [List.set_append_right _ _ (by omega), Nat.add_sub_cancel_left]
      obtain ⟨s1, h1, h2, h3, h4⟩ := block_ok hb.1 hn0 hm
      have hS1 : Seg (blockE b n words) s1 := ⟨h1, h2, block_fit hb.1 hb.2 hu hN _⟩
      obtain ⟨s2, hS2, j, hj2⟩ := ser_bad r (pre ++ [b]) (blockW b words) _ q e v hr (hu.blockW hb.2) (by rw [blockW_len]; exact hN) h4 hi hk (fun z f hz hf hg => by
        refine hno ((blockE b n words).length + z) f (by omega) (by rw [List.getElem?_append_right (by omega), Nat.add_sub_cancel_left]; exact hf) (fun y g hy1 hy2 hyg => ?_)
        obtain ⟨y', rfl⟩ : ∃ y', y = (blockE b n words).length + y' := ⟨y - (blockE b n words).length, by omega⟩
        rw [List.getElem?_append_right (by omega), Nat.add_sub_cancel_left] at hyg
        exact hg y' g (by omega) (by omega) hyg) hv hvf
      obtain ⟨s, hS, hj, _⟩ := hS1.append hS2
      exact ⟨s, hS, _, by rw [hj m, h3]; simp only; rw [hj2]; rfl⟩

end Go.Proofs.Ytgjbhcnadenojaa
