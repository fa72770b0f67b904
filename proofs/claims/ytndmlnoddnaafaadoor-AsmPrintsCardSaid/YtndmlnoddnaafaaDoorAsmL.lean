/- Labels, plainly: they come in the order of their places, none twice, none behind the end. No conditions but those stated. -/
import Derived.Test.YtndmlnoddnaafaaDoorAsmI
namespace Go.Proofs.YtndmlnoddnaafaaDoor

theorem namesL_words : namesL [] = (wordsM, 0) := rfl
/-- What a name says of its line. -/
theorem names_tell : ∀ (k : Nat) (l : List Ln), l.length = k → ∀ s n p, (namesL l).1 s = some (n, p) → n ≠ 0 → ∃ pre x rest, l = pre ++ x :: rest ∧ x.n = n ∧ colonP x.s = some s ∧ p = (namesL pre).2 := by
  intro k
  induction k with
  | zero =>
    intro l hl s n p h hn
    obtain rfl := List.eq_nil_of_length_eq_zero hl
    rw [namesL_words] at h
    simp only [wordsM, wordsTo] at h
    split at h
    · cases h; exact absurd rfl hn
    · cases h
  | succ k ih =>
    intro l hl s n p h hn
    obtain ⟨r, x, rfl⟩ : ∃ r x, l = r ++ [x] := ⟨l.dropLast, l.getLast (by intro e; subst e; simp at hl), (List.dropLast_concat_getLast _).symm⟩
    have hr : r.length = k := by simp at hl; omega
    rw [namesL_snoc] at h
    have old : (namesL r).1 s = some (n, p) → ∃ pre x' rest, r ++ [x] = pre ++ x' :: rest ∧ x'.n = n ∧ colonP x'.s = some s ∧ p = (namesL pre).2 := fun h => by
      obtain ⟨pre, x', rest, h1, h2⟩ := ih r hr s n p h hn
      exact ⟨pre, x', rest ++ [x], by rw [h1]; simp, h2⟩
    unfold stepN at h
    cases hc : colonP x.s with
    | none => rw [hc] at h; exact old h
    | some nm =>
      rw [hc] at h
      simp only at h
      split at h
      · unfold Nms.put at h
        simp only at h
        split at h
        · rename_i he
          cases h
          exact ⟨r, x, [], rfl, rfl, by rw [hc, he], rfl⟩
        · exact old h
      · exact old h
theorem split_one {l pre pre' rest rest' : List Ln} {x x' : Ln} (hp : l.Pairwise (fun x y => x.n < y.n)) (h : l = pre ++ x :: rest) (h' : l = pre' ++ x' :: rest') (hn : x.n = x'.n) : pre = pre' := by
  have g1 : l[pre.length]? = some x := by rw [h]; simp
  have g2 : l[pre'.length]? = some x' := by rw [h']; simp
  have key : ∀ i j (a b : Ln), l[i]? = some a → l[j]? = some b → i < j → a.n < b.n := fun i j a b ha hb hij => by
    obtain ⟨hi, rfl⟩ := List.getElem?_eq_some_iff.1 ha
    obtain ⟨hj, rfl⟩ := List.getElem?_eq_some_iff.1 hb
    exact List.pairwise_iff_getElem.1 hp i j hi hj hij
  have hlen : pre.length = pre'.length := by
    rcases Nat.lt_trichotomy pre.length pre'.length with h1 | h1 | h1
    · have := key _ _ _ _ g1 g2 h1; omega
    · exact h1
    · have := key _ _ _ _ g2 g1 h1; omega
  have e1 : l.take pre.length = pre := by rw [h]; simp
  have e2 : l.take pre'.length = pre' := by rw [h']; simp
  rw [← e1, hlen, e2]

/-- What has been read of some lines. -/
structure Taken (m : Nms) (pre : List Ln) (y : Rs) : Prop where
  len : y.code.length = (namesL pre).2
  names : ∀ q ∈ y.labels, ∃ x ∈ pre, lineOf m q.1 = x.n
  apart : y.labels.Pairwise (fun a b => a.1 ≠ b.1 ∧ a.2 ≤ b.2)
  inside : ∀ q ∈ y.labels, q.2 ≤ y.code.length
theorem lineOf_some {m : Nms} {s : By} {n : Nat} (h : lineOf m s = n) (hn : n ≠ 0) : m s = some (n, placeOf m s) := by
  unfold lineOf placeOf at *
  cases hm : m s with
  | none => rw [hm] at h; simp at h; omega
  | some v => rw [hm] at h; simp at h; subst h; rfl
theorem taken {l : List Ln} (hp : l.Pairwise (fun x y => x.n < y.n)) (hn : ∀ x ∈ l, x.n ≠ 0) : ∀ (k : Nat) (pre rest : List Ln) (y : Rs), pre.length = k → l = pre ++ rest → takesP (namesL l).1 ⟨[], []⟩ pre = some y → Taken (namesL l).1 pre y := by
  intro k
  induction k with
  | zero =>
    intro pre rest y hl h hy
    obtain rfl := List.eq_nil_of_length_eq_zero hl
    simp only [takesP, Option.some.injEq] at hy
    subst hy
    exact ⟨rfl, by simp, by simp, by simp⟩
  | succ k ih =>
    intro pre rest y hl h hy
    obtain ⟨r, x, rfl⟩ : ∃ r x, pre = r ++ [x] := ⟨pre.dropLast, pre.getLast (by intro e; subst e; simp at hl), (List.dropLast_concat_getLast _).symm⟩
    have hr : r.length = k := by simp at hl; omega
    have hl2 : l = r ++ x :: rest := by rw [h]; simp
    have split : ∃ z, takesP (namesL l).1 ⟨[], []⟩ r = some z ∧ takeP (namesL l).1 z x = some y := by
      cases hz : takesP (namesL l).1 ⟨[], []⟩ r with
      | some z => rw [takes_snoc r hz] at hy; exact ⟨z, rfl, hy⟩
      | none =>
        exfalso
        have key : ∀ (a : List Ln) (st : Rs), takesP (namesL l).1 st a = none → takesP (namesL l).1 st (a ++ [x]) = none := by
          intro a
          induction a with
          | nil => intro st h; simp [takesP] at h
          | cons u a ih2 =>
            intro st h
            simp only [takesP, List.cons_append] at h ⊢
            cases hu : takeP (namesL l).1 st u with
            | none => rfl
            | some st' => rw [hu] at h; exact ih2 st' h
        rw [key r _ hz] at hy; cases hy
    obtain ⟨z, hz, hx⟩ := split
    have T := ih r (x :: rest) z hr hl2 hz
    have hxl : x ∈ l := by rw [hl2]; simp
    unfold takeP at hx
    cases hc : colonP x.s with
    | none =>
      rw [hc] at hx
      simp only at hx
      split at hx
      · split at hx
        · cases hx
        · cases hx
          refine ⟨?_, fun q hq => ?_, T.apart, fun q hq => ?_⟩
          · rw [namesL_snoc]; unfold stepN; rw [hc]; simp [T.len]
          · obtain ⟨u, hu, h2⟩ := T.names q hq; exact ⟨u, by simp [hu], h2⟩
          · have := T.inside q hq; simp; omega
      · cases hx
    | some s =>
      rw [hc] at hx
      simp only at hx
      split at hx
      · rename_i hls
        cases hx
        have hm := lineOf_some hls (hn x hxl)
        obtain ⟨pre', x', rest', g1, g2, g3, g4⟩ := names_tell _ l rfl s _ _ hm (hn x hxl)
        have hpre := split_one hp hl2 g1 g2.symm
        subst hpre
        have hlt : ∀ u ∈ r, u.n < x.n := fun u hu => by
          rw [hl2, List.pairwise_append] at hp
          exact hp.2.2 u hu x (by simp)
        have hplace : placeOf (namesL l).1 s = z.code.length := g4.trans T.len.symm
        have hst : (namesL (r ++ [x])).2 = (namesL r).2 := by
          rw [namesL_snoc]; unfold stepN; rw [hc]; simp only; split <;> rfl
        refine ⟨by rw [hst]; exact T.len, fun q hq => ?_, ?_, fun q hq => ?_⟩
        · rcases List.mem_append.1 hq with hq | hq
          · obtain ⟨u, hu, h2⟩ := T.names q hq; exact ⟨u, by simp [hu], h2⟩
          · rw [List.mem_singleton] at hq; subst hq; exact ⟨x, by simp, hls⟩
        · rw [List.pairwise_append]
          refine ⟨T.apart, by simp, fun a ha b hb => ?_⟩
          rw [List.mem_singleton] at hb; subst hb
          refine ⟨fun e => ?_, ?_⟩
          · obtain ⟨u, hu, h2⟩ := T.names a ha
            have := hlt u hu
            simp only at e
            rw [e, hls] at h2; omega
          · have := T.inside a ha; simp only; omega
        · rcases List.mem_append.1 hq with hq | hq
          · exact T.inside q hq
          · rw [List.mem_singleton] at hq; subst hq; simp only; omega
      · cases hx
theorem read_zero {m : Nms} {y : Rs} : ∀ (l : List Ln) {st : Rs}, (∀ x ∈ l, x.n ≠ 0) → readL m st l = (y, 0) → takesP m st l = some y
  | [], st, _, h => by simp only [readL, Prod.mk.injEq] at h; rw [takesP, h.1]
  | x :: r, st, hn, h => by
    simp only [readL, takesP] at h ⊢
    cases hx : takeP m st x with
    | some st' => rw [hx] at h; exact read_zero r (fun u hu => hn u (by simp [hu])) h
    | none => rw [hx] at h; simp only [Prod.mk.injEq] at h; exact absurd h.2 (hn x (by simp))
theorem read_labels {tx : By} (h : (readP tx).2 = 0) : (readP tx).1.labels.Pairwise (fun a b => a.1 ≠ b.1 ∧ a.2 ≤ b.2) ∧ ∀ q ∈ (readP tx).1.labels, q.2 ≤ (readP tx).1.code.length := by
  have hn : ∀ x ∈ linesP 1 tx, x.n ≠ 0 := fun x hx => by have := (lines_mem _ 1 tx (Nat.le_refl _) x hx).1; omega
  have hr : readL (namesP tx) ⟨[], []⟩ (linesP 1 tx) = ((readP tx).1, 0) := by rw [← h]; rfl
  have ht := read_zero _ hn hr
  have T := taken (lines_rise _ 1 tx (Nat.le_refl _)) hn _ (linesP 1 tx) [] (readP tx).1 rfl (by simp) ht
  exact ⟨T.apart, T.inside⟩

theorem read_many {m : Nms} : ∀ (l : List Ln) (st : Rs), st.code.length ≤ 1024 → (readL m st l).1.labels.length ≤ st.labels.length + l.length ∧ (readL m st l).1.code.length ≤ 1024
  | [], st, h => ⟨by simp [readL], h⟩
  | x :: r, st, h => by
    simp only [readL]
    cases hx : takeP m st x with
    | none => exact ⟨by simp, h⟩
    | some st' =>
      have hs : st'.labels.length ≤ st.labels.length + 1 ∧ st'.code.length ≤ 1024 := by
        unfold takeP at hx
        split at hx
        · split at hx
          · cases hx; exact ⟨by simp, h⟩
          · cases hx
        · split at hx
          · split at hx
            · cases hx
            · cases hx; exact ⟨by simp, by simp; omega⟩
          · cases hx
      have := read_many (m := m) r st' hs.2
      simp only [List.length_cons]
      exact ⟨by have := this.1; omega, this.2⟩
theorem read_labels_len (tx : By) : (readP tx).1.labels.length ≤ tx.length := by
  have h := (read_many (m := namesP tx) (linesP 1 tx) ⟨[], []⟩ (by simp)).1
  have := lines_count _ 1 tx (Nat.le_refl _)
  unfold readP
  simp only [List.length_nil] at h
  omega

end Go.Proofs.YtndmlnoddnaafaaDoor
