/- Blocks one behind the other, plainly: a block alone; with a load turned; many. No conditions but those stated. -/
import Derived.Test.YtgjbhcnadenojaaSerB
namespace Go.Proofs.Ytgjbhcnadenojaa

/-! ### A load that tells something else -/
def Bad (m : Wd) (x : Kn) : Prop := x.odd = true ∨ ∃ p ∈ x.ld, m.word p.a ≠ p.v
theorem Bad.ans {m : Wd} {x : Kn} (h : Bad m x) : (!x.odd && m.has x.ld) = false := by
  rcases h with h | ⟨p, hp, hne⟩
  · rw [h]; rfl
  · have : m.has x.ld = false := by
      unfold Wd.has
      rw [List.all_eq_false]
      exact ⟨p, hp, by simpa using hne⟩
    rw [this, Bool.and_false]
theorem Bad.of_data {m : Wd} {x y : Kn} (h : Bad m x) (h1 : x.odd = true → y.odd = true) (h2 : ∀ p ∈ x.ld, p ∈ y.ld) : Bad m y := by
  rcases h with h | ⟨p, hp, hne⟩
  · exact .inl (h1 h)
  · exact .inr ⟨p, h2 p hp, hne⟩
theorem Kn.load_grows (x : Kn) (p : Pr) : (x.odd = true → (x.load p).odd = true) ∧ ∀ q ∈ x.ld, q ∈ (x.load p).ld := by
  unfold Kn.load
  repeat' split
  · exact ⟨id, fun _ h => h⟩
  · exact ⟨id, fun _ h => List.mem_append_left _ h⟩
  · exact ⟨id, fun _ h => h⟩
  · exact ⟨fun _ => rfl, fun _ h => h⟩
theorem Bad.add {m : Wd} {x : Kn} (h : Bad m x) (i : Int) (e : Ev) : Bad m (x.add i e) := by
  have hd := x.add_data i e
  have h0 : (x.odd = true → (x.add0 i e).odd = true) ∧ ∀ q ∈ x.ld, q ∈ (x.add0 i e).ld := by
    unfold Kn.add0
    split
    · exact x.load_grows _
    split
    · have := x.store_keeps ⟨e.ad, e.va⟩
      exact ⟨fun h => by rw [this.2.2.2.2.2.1]; exact h, fun q hq => by rw [this.2.2.2.2.1]; exact hq⟩
    split
    · exact ⟨id, fun _ h => h⟩
    split <;> exact ⟨id, fun _ h => h⟩
  exact h.of_data (fun ho => by rw [hd.2.2.1]; exact h0.1 ho) (fun q hq => by rw [hd.1]; exact h0.2 q hq)
theorem Bad.adds {m : Wd} : ∀ (es : List Ev) (x : Kn) (i : Nat), Bad m x → Bad m (addAll x i es)
  | [], _, _, h => h
  | e :: r, x, i, h => Bad.adds r _ (i + 1) (h.add i e)
theorem SI.bad {m : Wd} {N : Nat} {own : List Int} {x : Kn} (h : SI m N own x) {e : Ev} (h2 : e.k = 2) (hs : posL x.st e.ad = none) (hv : m.word e.ad ≠ e.va) (i : Int) : Bad m (x.add i e) := by
  have hd := x.add_data i e
  have h0 : Bad m (x.add0 i e) := by
    unfold Kn.add0
    rw [if_pos h2]
    unfold Kn.load
    simp only [hs]
    cases hl : posL x.ld e.ad with
    | none => exact .inr ⟨⟨e.ad, e.va⟩, by simp, hv⟩
    | some j =>
      simp only
      obtain ⟨y, hy, hya⟩ := posL_at hl
      have := h.ld y (List.mem_of_getElem? hy)
      rw [if_neg]
      · exact .inl rfl
      · rw [List.getD_eq_getElem?_getD, hy, Option.getD_some, ← this, hya]; exact hv
  exact h0.of_data (fun ho => by rw [hd.2.2.1]; exact ho) (fun q hq => by rw [hd.1]; exact hq)
/-- What was not stored to stands in no list of stores. -/
theorem st_names : ∀ (es : List Ev) (x : Kn) (i : Nat) (a : Int), posL x.st a = none → (∀ e ∈ es, ¬ (e.k = 3 ∧ e.ad = a)) → posL (addAll x i es).st a = none
  | [], _, _, _, h, _ => h
  | e :: r, x, i, a, h, hn => by
    refine st_names r _ (i + 1) a ?_ (fun e' h' => hn e' (List.mem_cons_of_mem _ h'))
    rw [(x.add_data i e).2.1]
    have he := hn e (List.mem_cons_self ..)
    unfold Kn.add0
    split
    · rw [(x.load_keeps _).2.2.2.2.1]; exact h
    split
    · rename_i h3
      unfold Kn.store
      simp only
      cases hp : posL x.st e.ad with
      | none =>
        simp only
        rw [posL_snoc, h]
        simp only
        rw [if_neg (fun e2 => he ⟨h3, e2⟩)]
      | some j =>
        simp only
        obtain ⟨y, hy, hya⟩ := posL_at hp
        rw [← hya, posL_set hy]; exact h
    split
    · exact h
    split <;> exact h

theorem addAll_com : ∀ (es : List Ev) (x : Kn) (i : Nat), (∀ e ∈ es, e.k ≠ 5) → (addAll x i es).com = x.com
  | [], _, _, _ => rfl
  | e :: r, x, i, h => by
    rw [addAll, addAll_com r _ (i + 1) (fun e' h' => h e' (List.mem_cons_of_mem _ h')), (x.add_data i e).2.2.2.1]
    have h5 := h e (List.mem_cons_self ..)
    unfold Kn.add0
    split
    · exact (x.load_keeps _).2.2.2.2.2.2.1
    split
    · exact (x.store_keeps _).2.2.2.2.2.2.2.1
    first
      | rw [if_neg h5]
      | skip
    split <;> rfl

/-! ### A block alone -/
theorem SI.begun {m : Wd} {words : List Int} (hm : WR m words) (b : Ev) : SI m words.length words (Kn.begun 0 b) :=
  ⟨rfl, (fun p hp => by cases hp), (fun i j x y hi => by simp [Kn.begun] at hi), (fun a ha => (hm a ha).symm), rfl⟩
theorem evs_mem {b : Bk} {n : Int} {N : Nat} : ∀ (l : List Op3) (own : List Int), (∀ o ∈ l, 0 ≤ o.ad ∧ o.ad < (N : Int)) → ∀ e ∈ evsL b n own l, InE (Kn.begun 0 (who b n 1 0 0 0)) e ∧ (e.k = 2 ∨ e.k = 3)
  | [], _, _, e, he => by cases he
  | o :: r, own, h, e, he => by
    rcases List.mem_cons.1 he with rfl | he
    · have ho := h o (List.mem_cons_self ..)
      unfold evOf
      split
      · exact ⟨⟨.inr (.inl rfl), rfl, rfl, rfl, ho.1⟩, .inr rfl⟩
      · exact ⟨⟨.inl rfl, rfl, rfl, rfl, ho.1⟩, .inl rfl⟩
    · exact evs_mem r _ (fun o' h' => h o' (List.mem_cons_of_mem _ h')) e he
theorem end_kinds (b : Bk) (n : Int) : (endC b n).k = 5 ∨ ((endC b n).k = 6 ∧ 1 ≤ (endC b n).cd ∧ (endC b n).cd ≤ 8) := by
  unfold endC; split
  · exact .inr ⟨rfl, (by show (1 : Int) ≤ 5; decide), (by show (5 : Int) ≤ 8; decide)⟩
  · exact .inl rfl
theorem end_same (b : Bk) (n : Int) : (endC b n).co = b.co ∧ (endC b n).bl = n ∧ (endC b n).tr = 0 := by
  unfold endC; split <;> exact ⟨rfl, rfl, rfl⟩
/-- What a history of a block, with these accesses, leaves: its reading. -/
theorem block_read {b : Bk} {N : Nat} (hb : b.Ok N) {n : Int} (hn : 0 ≤ n) {es : List Ev} (he : ∀ e ∈ es, InE (Kn.begun 0 (who b n 1 0 0 0)) e) :
    ∃ o, readH (who b n 1 0 0 0 :: ((es ++ [endP b n]) ++ [endC b n])) = some ⟨[addAll (Kn.begun 0 (who b n 1 0 0 0)) 1 ((es ++ [endP b n]) ++ [endC b n])], List.replicate (who b n 1 0 0 0 :: ((es ++ [endP b n]) ++ [endC b n])).length 0, o⟩ ∧
      ¬ (addAll (Kn.begun 0 (who b n 1 0 0 0)) 1 ((es ++ [endP b n]) ++ [endC b n])).to_ < 0 := by
  have hs := end_same b n
  obtain ⟨o, ho⟩ := read_alone (b := who b n 1 0 0 0) (c := endC b n) (es := es ++ [endP b n]) rfl (end_kinds b n) hb.co hb.la hn (Int.le_refl _)
    (fun e h => by
      rcases List.mem_append.1 h with h | h
      · exact he e h
      · simp at h; subst h; exact ⟨.inr (.inr rfl), rfl, rfl, rfl, Int.le_refl _⟩) ⟨hs.1, hs.2.1, hs.2.2⟩
  refine ⟨o, ho, ?_⟩
  rw [addAll_append]
  simp only [addAll]
  rw [((addAll (Kn.begun 0 (who b n 1 0 0 0)) 1 (es ++ [endP b n])).add_data _ (endC b n)).2.2.2.2]
  unfold Kn.add0
  rcases end_kinds b n with h | ⟨h, _⟩
  · rw [if_neg (by omega), if_neg (by omega), if_pos h]; simp only; omega
  · rw [if_neg (by omega), if_neg (by omega), if_neg (by omega), if_pos h]; simp only; omega
theorem block_plain {b : Bk} {n : Int} {es : List Ev} (he : ∀ e ∈ es, InE (Kn.begun 0 (who b n 1 0 0 0)) e) : ∀ e ∈ who b n 1 0 0 0 :: ((es ++ [endP b n]) ++ [endC b n]), e.k ≠ 7 ∧ e.k ≠ 8 := by
  intro e h
  rcases List.mem_cons.1 h with rfl | h
  · exact ⟨(by show (1 : Int) ≠ 7; decide), (by show (1 : Int) ≠ 8; decide)⟩
  rcases List.mem_append.1 h with h | h
  · rcases List.mem_append.1 h with h | h
    · rcases (he e h).kind with h | h | h <;> omega
    · simp at h; subst h; exact ⟨(by show (4 : Int) ≠ 7; decide), (by show (4 : Int) ≠ 8; decide)⟩
  · simp at h; subst h
    rcases end_kinds b n with h | ⟨h, _⟩ <;> omega

/-- A block by itself is explained, and memory behind it is as it is. -/
theorem block_ok {b : Bk} {words : List Int} (hb : b.Ok words.length) {n : Int} (hn : 0 ≤ n) {m : Wd} (hm : WR m words) :
    ∃ s, readH (blockE b n words) = some s ∧ (∀ x ∈ s.ks, ¬ x.to_ < 0) ∧ judgeFrom m 0 (moments (blockE b n words) s) = none ∧ WR (finalM m (moments (blockE b n words) s)) (blockW b words) := by
  have he := evs_mem (b := b) (n := n) b.ops words hb.ops
  obtain ⟨o, ho, hto⟩ := block_read hb hn (fun e h => (he e h).1)
  have hpl := block_plain (fun e h => (he e h).1)
  obtain ⟨x, hx⟩ : ∃ x, x = addAll (Kn.begun 0 (who b n 1 0 0 0)) 1 ((evsL b n words b.ops ++ [endP b n]) ++ [endC b n]) := ⟨_, rfl⟩
  have hsi : SI m words.length (ownL words b.ops) x := by
    rw [hx, addAll_append, addAll_append]
    have h1 := SI.adds b.ops words (Kn.begun 0 (who b n 1 0 0 0)) 1 b n (SI.begun hm _) hb.ops
    have h2 := h1.ends ((1 + (evsL b n words b.ops).length : Nat) : Int) (e := endP b n) (by show (4 : Int) ≠ 2; decide) (by show (4 : Int) ≠ 3; decide)
    have h3 := h2.ends ((1 + (evsL b n words b.ops ++ [endP b n]).length : Nat) : Int) (e := endC b n) (by rcases end_kinds b n with h | ⟨h, _⟩ <;> omega) (by rcases end_kinds b n with h | ⟨h, _⟩ <;> omega)
    exact h3
  have hcom : x.com = !b.ab := by
    rw [hx, addAll_append]
    simp only [addAll]
    rw [((addAll (Kn.begun 0 (who b n 1 0 0 0)) 1 (evsL b n words b.ops ++ [endP b n])).add_data _ (endC b n)).2.2.2.1]
    have h0 := addAll_com (evsL b n words b.ops ++ [endP b n]) (Kn.begun 0 (who b n 1 0 0 0)) 1 (fun e h => by
      rcases List.mem_append.1 h with h | h
      · rcases (he e h).2 with h | h <;> omega
      · simp at h; subst h; show (4 : Int) ≠ 5; decide)
    have h0' : (addAll (Kn.begun 0 (who b n 1 0 0 0)) 1 (evsL b n words b.ops ++ [endP b n])).com = false := h0
    generalize addAll (Kn.begun 0 (who b n 1 0 0 0)) 1 (evsL b n words b.ops ++ [endP b n]) = z at h0'
    unfold Kn.add0 endC
    cases hab : b.ab
    · simp [who]
    · simp [who, h0']
  have hpt : b.ab = false → 0 ≤ x.pt ∧ x.pt < ((who b n 1 0 0 0 :: ((evsL b n words b.ops ++ [endP b n]) ++ [endC b n])).length : Int) := fun hab => by
    have := addAll_may ((evsL b n words b.ops ++ [endP b n]) ++ [endC b n]) (Kn.begun 0 (who b n 1 0 0 0)) 1 (by
      by_cases hh : (Kn.begun 0 (who b n 1 0 0 0)).hard = true
      · refine ⟨endC b n, by simp, ?_⟩
        unfold Kn.may
        rw [if_pos hh]
        unfold endC
        rw [hab]
        rfl
      · refine ⟨endP b n, by simp, ?_⟩
        unfold Kn.may
        rw [if_neg hh]
        rfl)
    rw [← hx] at this
    simp only [List.length_cons] at this ⊢
    omega
  rw [← hx] at ho hto
  refine ⟨_, ho, fun y hy => by simp at hy; subst hy; exact hto, ?_, ?_⟩
  · show judgeFrom m 0 (moments (who b n 1 0 0 0 :: ((evsL b n words b.ops ++ [endP b n]) ++ [endC b n])) _) = none
    rw [moments_alone, judge_mos _ _ _ _ hpl, if_neg]
    rintro ⟨_, h⟩
    have : m.has x.ld = true := by
      unfold Wd.has
      rw [List.all_eq_true]
      exact fun p hp => by simpa using hsi.ld p hp
    rw [hsi.odd, this] at h
    cases h
  · show WR (finalM m (moments (who b n 1 0 0 0 :: ((evsL b n words b.ops ++ [endP b n]) ++ [endC b n])) _)) _
    rw [moments_alone, final_mos _ _ _ _ hpl]
    unfold blockW
    cases hab : b.ab
    · rw [if_pos ⟨by have := hpt hab; omega, by rw [hcom, hab]; rfl⟩, if_neg (by decide)]
      intro a ha
      rw [ownL_len] at ha
      rw [puts_word _ hsi.nd m a (by omega)]
      exact (hsi.tel a ha).symm
    · rw [if_neg (by rintro ⟨_, h⟩; rw [hcom, hab] at h; cases h), if_pos rfl]
      exact hm

theorem evs_no {b : Bk} {n a : Int} : ∀ (l : List Op3) (own : List Int), (∀ q ∈ l, ¬ (q.st = true ∧ q.ad = a)) → ∀ e ∈ evsL b n own l, ¬ (e.k = 3 ∧ e.ad = a)
  | [], _, _, e, he => by cases he
  | o :: r, own, h, e, he => by
    rcases List.mem_cons.1 he with rfl | he
    · have ho := h o (List.mem_cons_self ..)
      unfold evOf
      cases hs : o.st
      · simp [who]
      · simp only [if_true, who]
        rintro ⟨_, e2⟩
        exact ho ⟨hs, e2⟩
    · exact evs_no r _ (fun q hq => h q (List.mem_cons_of_mem _ hq)) e he
/-- With a load that tells something else (and is not its own) a block is not explained. -/
theorem block_bad {b : Bk} {words : List Int} (hb : b.Ok words.length) {n : Int} (hn : 0 ≤ n) {m : Wd} (hm : WR m words) {l1 l2 : List Op3} {o : Op3} (hops : b.ops = l1 ++ o :: l2) (hst : o.st = false) (hno : ∀ q ∈ l1, ¬ (q.st = true ∧ q.ad = o.ad)) {v : Int} (hv : v ≠ (ownL words l1).getD o.ad.toNat 0) :
    ∃ s, readH (who b n 1 0 0 0 :: (((evsL b n words l1 ++ who b n 2 o.ad v 0 :: evsL b n (ownL words l1) l2) ++ [endP b n]) ++ [endC b n])) = some s ∧ (∀ x ∈ s.ks, ¬ x.to_ < 0) ∧
      ∃ j, judgeFrom m 0 (moments (who b n 1 0 0 0 :: (((evsL b n words l1 ++ who b n 2 o.ad v 0 :: evsL b n (ownL words l1) l2) ++ [endP b n]) ++ [endC b n])) s) = some j := by
  have ho1 : ∀ q ∈ l1, 0 ≤ q.ad ∧ q.ad < (words.length : Int) := fun q h => hb.ops q (by rw [hops]; exact List.mem_append_left _ h)
  have ho2 : ∀ q ∈ l2, 0 ≤ q.ad ∧ q.ad < (words.length : Int) := fun q h => hb.ops q (by rw [hops]; exact List.mem_append_right _ (List.mem_cons_of_mem _ h))
  have hoo : 0 ≤ o.ad ∧ o.ad < (words.length : Int) := hb.ops o (by rw [hops]; exact List.mem_append_right _ (List.mem_cons_self ..))
  have he : ∀ e ∈ evsL b n words l1 ++ who b n 2 o.ad v 0 :: evsL b n (ownL words l1) l2, InE (Kn.begun 0 (who b n 1 0 0 0)) e := by
    intro e h
    rcases List.mem_append.1 h with h | h
    · exact (evs_mem l1 words ho1 e h).1
    · rcases List.mem_cons.1 h with rfl | h
      · exact ⟨.inl rfl, rfl, rfl, rfl, hoo.1⟩
      · exact (evs_mem l2 _ ho2 e h).1
  obtain ⟨oo, hr, hto⟩ := block_read hb hn he
  have hpl := block_plain he
  obtain ⟨x, hx⟩ : ∃ x, x = addAll (Kn.begun 0 (who b n 1 0 0 0)) 1 (((evsL b n words l1 ++ who b n 2 o.ad v 0 :: evsL b n (ownL words l1) l2) ++ [endP b n]) ++ [endC b n]) := ⟨_, rfl⟩
  have hbad : Bad m x := by
    rw [hx, addAll_append, addAll_append, addAll_append]
    refine Bad.adds _ _ _ (Bad.adds _ _ _ ?_)
    simp only [addAll]
    refine Bad.adds _ _ _ ?_
    have h1 := SI.adds l1 words (Kn.begun 0 (who b n 1 0 0 0)) 1 b n (SI.begun hm _) ho1
    have hs := st_names (evsL b n words l1) (Kn.begun 0 (who b n 1 0 0 0)) 1 o.ad rfl (evs_no l1 words hno)
    have hw := h1.tel o.ad.toNat (by omega)
    rw [show ((o.ad.toNat : Nat) : Int) = o.ad from by omega, hs] at hw
    exact h1.bad (e := who b n 2 o.ad v 0) rfl hs (fun e => hv (by rw [hw]; exact e.symm)) _
  have hpt := addAll_may (((evsL b n words l1 ++ who b n 2 o.ad v 0 :: evsL b n (ownL words l1) l2) ++ [endP b n]) ++ [endC b n]) (Kn.begun 0 (who b n 1 0 0 0)) 1 (by
    by_cases hh : (Kn.begun 0 (who b n 1 0 0 0)).hard = true
    · refine ⟨who b n 2 o.ad v 0, by simp, ?_⟩
      unfold Kn.may
      rw [if_pos hh]; rfl
    · refine ⟨endP b n, by simp, ?_⟩
      unfold Kn.may
      rw [if_neg hh]; rfl)
  rw [← hx] at hr hto hpt
  refine ⟨_, hr, fun y hy => by simp at hy; subst hy; exact hto, x.pt.toNat, ?_⟩
  rw [moments_alone, judge_mos _ _ _ _ hpl, if_pos]
  refine ⟨⟨by omega, ?_⟩, hbad.ans⟩
  simp only [List.length_cons] at hpt ⊢
  omega

/-! ### Histories one behind the other -/
theorem final_map {f : Mo → Mo} (hp : ∀ m x, Wd.pass m (f x) = Wd.pass m x) : ∀ (L : List Mo) (m : Wd), (L.map f).foldl Wd.pass m = L.foldl Wd.pass m
  | [], _ => rfl
  | x :: r, m => by rw [List.map_cons, List.foldl_cons, List.foldl_cons, hp, final_map hp r]
structure Seg (h : List Ev) (s : Rd) : Prop where
  read : readH h = some s
  over : ∀ x ∈ s.ks, ¬ x.to_ < 0
  fit : ∀ e ∈ h, e.fit
theorem Seg.append {A B : List Ev} {sa sb : Rd} (ha : Seg A sa) (hb : Seg B sb) : ∃ s, Seg (A ++ B) s ∧
    (∀ m, judgeFrom m 0 (moments (A ++ B) s) = match judgeFrom m 0 (moments A sa) with | some i => some i | none => (judgeFrom (finalM m (moments A sa)) 0 (moments B sb)).map (A.length + ·)) ∧
    (∀ m, finalM m (moments (A ++ B) s) = finalM (finalM m (moments A sa)) (moments B sb)) := by
  obtain ⟨s, hs, hsim⟩ := parts_read ha.read ha.over hb.read
  have hm := moments_append (read_RI ha.read ha.fit) (read_RI hb.read hb.fit) hsim
  refine ⟨s, ⟨hs, ?_, fun e he => (List.mem_append.1 he).elim (ha.fit e) (hb.fit e)⟩, fun m => ?_, fun m => ?_⟩
  · intro x hx
    rw [hsim.ks, List.mem_append] at hx
    rcases hx with hx | hx
    · exact ha.over x hx
    · obtain ⟨y, hy, rfl⟩ := List.mem_map.1 hx
      have := hb.over y hy
      simp only [Kn.sh, shI]
      split <;> omega
  · rw [hm, judge_append]
    cases judgeFrom m 0 (moments A sa) with
    | some i => rfl
    | none =>
      simp only
      rw [judge_map (fun m x => explains_sh _ _ m x) (fun m x => pass_sh _ _ m x), moments_len, Nat.zero_add, show A.length = A.length + 0 from rfl, judge_shift]
      rfl
  · rw [hm, finalM, List.foldl_append]
    exact final_map (fun m x => pass_sh _ _ m x) _ _

end Go.Proofs.Ytgjbhcnadenojaa
