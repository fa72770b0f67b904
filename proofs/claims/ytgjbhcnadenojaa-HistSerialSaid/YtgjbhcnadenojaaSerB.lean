/- Blocks one behind the other, plainly: they are explained; with a load turned they are not. No conditions but those stated. -/
import Derived.Test.YtgjbhcnadenojaaSerA
namespace Go.Proofs.Ytgjbhcnadenojaa

structure Op3 where
  ad : Int
  st : Bool
  va : Int
structure Bk where
  co : Int
  la : Int
  ops : List Op3
  ab : Bool
def who (b : Bk) (n k ad va cd : Int) : Ev := ⟨k, 0, b.co, n, 0, b.la, ad, va, cd⟩
def ownOf (own : List Int) (o : Op3) : List Int := if o.st then own.set o.ad.toNat o.va else own
def evOf (b : Bk) (n : Int) (own : List Int) (o : Op3) : Ev := if o.st then who b n 3 o.ad o.va 0 else who b n 2 o.ad (own.getD o.ad.toNat 0) 0
def ownL (own : List Int) : List Op3 → List Int
  | [] => own
  | o :: r => ownL (ownOf own o) r
def evsL (b : Bk) (n : Int) (own : List Int) : List Op3 → List Ev
  | [] => []
  | o :: r => evOf b n own o :: evsL b n (ownOf own o) r
theorem ownL_snoc : ∀ (l : List Op3) (own : List Int) (o : Op3), ownL own (l ++ [o]) = ownOf (ownL own l) o
  | [], _, _ => rfl
  | _ :: r, own, o => ownL_snoc r _ o
theorem evsL_snoc : ∀ (b : Bk) (n : Int) (l : List Op3) (own : List Int) (o : Op3), evsL b n own (l ++ [o]) = evsL b n own l ++ [evOf b n (ownL own l) o]
  | _, _, [], _, _ => rfl
  | b, n, x :: r, own, o => by
    simp only [List.cons_append, evsL, ownL]
    rw [evsL_snoc b n r]
theorem ownOf_len (own : List Int) (o : Op3) : (ownOf own o).length = own.length := by unfold ownOf; split <;> simp
theorem ownL_len : ∀ (l : List Op3) (own : List Int), (ownL own l).length = own.length
  | [], _ => rfl
  | o :: r, own => by rw [ownL, ownL_len r, ownOf_len]
theorem evsL_len : ∀ (b : Bk) (n : Int) (l : List Op3) (own : List Int), (evsL b n own l).length = l.length
  | _, _, [], _ => rfl
  | b, n, _ :: r, own => by simp [evsL, evsL_len b n r]
/-- How a block ends. -/
def endP (b : Bk) (n : Int) : Ev := who b n 4 0 0 0
def endC (b : Bk) (n : Int) : Ev := if b.ab then who b n 6 0 0 5 else who b n 5 0 0 0
def bodyE (b : Bk) (n : Int) (words : List Int) : List Ev := evsL b n words b.ops ++ [endP b n]
def blockE (b : Bk) (n : Int) (words : List Int) : List Ev := who b n 1 0 0 0 :: (bodyE b n words ++ [endC b n])
def blockW (b : Bk) (words : List Int) : List Int := if b.ab then words else ownL words b.ops
structure Bk.Ok (b : Bk) (N : Nat) : Prop where
  co : 0 ≤ b.co ∧ b.co < 4
  la : 1 ≤ b.la ∧ b.la ≤ 4
  ops : ∀ o ∈ b.ops, 0 ≤ o.ad ∧ o.ad < (N : Int)

/-- Memory has these words. -/
def WR (m : Wd) (words : List Int) : Prop := ∀ a : Nat, a < words.length → m.word (a : Int) = words.getD a 0
def Nd (l : List Pr) : Prop := ∀ (i j : Nat) (x y : Pr), l[i]? = some x → l[j]? = some y → x.a = y.a → i = j
theorem Nd.snoc {l : List Pr} (h : Nd l) {p : Pr} (hp : posL l p.a = none) : Nd (l ++ [p]) := by
  have hn := posL_none.1 hp
  intro i j x y hi hj e
  rcases Nat.lt_trichotomy i l.length with h1 | h1 | h1
  · rw [List.getElem?_append_left h1] at hi
    rcases Nat.lt_trichotomy j l.length with h2 | h2 | h2
    · rw [List.getElem?_append_left h2] at hj
      exact h i j x y hi hj e
    · rw [List.getElem?_append_right (by omega), h2, Nat.sub_self] at hj
      simp at hj; subst hj
      exact absurd e (hn x (List.mem_of_getElem? hi))
    · rw [List.getElem?_append_right (by omega)] at hj
      have := (List.getElem?_eq_some_iff.1 hj).1
      simp at this; omega
  · rw [List.getElem?_append_right (by omega), h1, Nat.sub_self] at hi
    simp at hi; subst hi
    rcases Nat.lt_trichotomy j l.length with h2 | h2 | h2
    · rw [List.getElem?_append_left h2] at hj
      exact absurd e.symm (hn y (List.mem_of_getElem? hj))
    · omega
    · rw [List.getElem?_append_right (by omega)] at hj
      have := (List.getElem?_eq_some_iff.1 hj).1
      simp at this; omega
  · rw [List.getElem?_append_right (by omega)] at hi
    have := (List.getElem?_eq_some_iff.1 hi).1
    simp at this; omega
theorem Nd.set {l : List Pr} (h : Nd l) {k : Nat} {x : Pr} (hk : l[k]? = some x) (v : Int) : Nd (l.set k ⟨x.a, v⟩) := by
  have g : ∀ (i : Nat) (y : Pr), (l.set k ⟨x.a, v⟩)[i]? = some y → ∃ z, l[i]? = some z ∧ z.a = y.a := by
    intro i y hi
    by_cases e : k = i
    · subst e
      rw [List.getElem?_set_self (List.getElem?_eq_some_iff.1 hk).1] at hi
      cases hi
      exact ⟨x, hk, rfl⟩
    · rw [List.getElem?_set_ne e] at hi
      exact ⟨y, hi, rfl⟩
  intro i j y z hi hj e
  obtain ⟨y', h1, e1⟩ := g i y hi
  obtain ⟨z', h2, e2⟩ := g j z hj
  exact h i j y' z' h1 h2 (by rw [e1, e2, e])
/-- What is written, one behind the other. -/
theorem puts_word : ∀ (l : List Pr), Nd l → ∀ (m : Wd) (a : Int), 0 ≤ a → ({ m with later := Wd.puts m.later l } : Wd).word a = match posL l a with | some j => (l.getD j Pr.zero).v | none => m.word a := by
  have key : ∀ (n : Nat) (l : List Pr), l.length = n → Nd l → ∀ (m : Wd) (a : Int), 0 ≤ a → ({ m with later := Wd.puts m.later l } : Wd).word a = match posL l a with | some j => (l.getD j Pr.zero).v | none => m.word a := by
   intro n
   induction n with
   | zero =>
    intro l hl _ m a _
    obtain rfl := List.eq_nil_of_length_eq_zero hl
    rfl
   | succ n ih0 =>
    intro l hl hn m a ha
    obtain ⟨r, p, rfl⟩ : ∃ r p, l = r ++ [p] := by
      rcases List.eq_nil_or_concat l with rfl | ⟨r, p, h⟩
      · simp at hl
      · exact ⟨r, p, by rw [h]; simp⟩
    have ih := ih0 r (by simp at hl; omega)
    have hr : Nd r := fun i j x y hi hj e => hn i j x y (by rw [List.getElem?_append_left (List.getElem?_eq_some_iff.1 hi).1]; exact hi) (by rw [List.getElem?_append_left (List.getElem?_eq_some_iff.1 hj).1]; exact hj) e
    have h1 : Wd.puts m.later (r ++ [p]) = (Wd.puts m.later r).put p.a p.v := by unfold Wd.puts; rw [List.foldl_append]; rfl
    rw [h1, posL_snoc]
    have hw := word_put { m with later := Wd.puts m.later r } p.a p.v a
    have hih := ih hr m a ha
    simp only at hw
    rw [hw, hih]
    by_cases e : a = p.a
    · subst e
      have hz : posL r p.a = none := posL_none.2 (fun x hx e2 => by
        obtain ⟨i, hi⟩ := List.getElem?_of_mem hx
        have := hn i r.length x p (by rw [List.getElem?_append_left (List.getElem?_eq_some_iff.1 hi).1]; exact hi) (by simp) e2
        have h3 := (List.getElem?_eq_some_iff.1 hi).1
        omega)
      rw [hz, if_pos rfl]
      simp
    · rw [if_neg e]
      cases hq : posL r a with
      | some j =>
        have hj := posL_lt hq
        simp [List.getD_eq_getElem?_getD, List.getElem?_append_left hj]
      | none =>
        have : ¬ p.a = a := fun h => e h.symm
        simp [this]
  exact fun l hn m a ha => key l.length l rfl hn m a ha

/-- What an attempt knows that has told the truth so far. -/
structure SI (m : Wd) (N : Nat) (own : List Int) (x : Kn) : Prop where
  odd : x.odd = false
  ld : ∀ p ∈ x.ld, m.word p.a = p.v
  nd : Nd x.st
  tel : ∀ a : Nat, a < N → own.getD a 0 = match posL x.st (a : Int) with | some j => (x.st.getD j Pr.zero).v | none => m.word (a : Int)
  len : own.length = N

theorem SI.load {m : Wd} {N : Nat} {own : List Int} {x : Kn} (h : SI m N own x) {ad : Int} (ha : 0 ≤ ad ∧ ad < N) : SI m N own (x.load ⟨ad, own.getD ad.toNat 0⟩) := by
  have ho := h.tel ad.toNat (by omega)
  rw [show ((ad.toNat : Nat) : Int) = ad from by omega] at ho
  unfold Kn.load
  simp only
  cases hs : posL x.st ad with
  | some j => simpa using h
  | none =>
    rw [hs] at ho
    simp only at ho
    cases hl : posL x.ld ad with
    | none =>
      simp only
      refine ⟨h.odd, fun p hp => ?_, h.nd, h.tel, h.len⟩
      rw [List.mem_append] at hp
      rcases hp with hp | hp
      · exact h.ld p hp
      · simp at hp; subst hp; exact ho.symm
    | some j =>
      simp only
      obtain ⟨y, hy, hya⟩ := posL_at hl
      have hv := h.ld y (List.mem_of_getElem? hy)
      have hg : (x.ld.getD j Pr.zero).v = own.getD ad.toNat 0 := by rw [List.getD_eq_getElem?_getD, hy, Option.getD_some, ho, ← hv, hya]
      rw [if_pos hg]
      exact h
theorem SI.store {m : Wd} {N : Nat} {own : List Int} {x : Kn} (h : SI m N own x) {ad va : Int} (ha : 0 ≤ ad ∧ ad < N) : SI m N (own.set ad.toNat va) (x.store ⟨ad, va⟩) := by
  have hlt : ad.toNat < own.length := by rw [h.len]; omega
  have hset : ∀ a : Nat, a < N → (own.set ad.toNat va).getD a 0 = if (a : Int) = ad then va else own.getD a 0 := fun a hN => by
    rw [List.getD_eq_getElem?_getD, List.getD_eq_getElem?_getD]
    by_cases e : (a : Int) = ad
    · rw [if_pos e, show a = ad.toNat from by omega, List.getElem?_set_self hlt]; rfl
    · rw [if_neg e, List.getElem?_set_ne (by omega)]
  unfold Kn.store
  simp only
  cases hs : posL x.st ad with
  | none =>
    simp only
    refine ⟨h.odd, h.ld, h.nd.snoc hs, fun a hN => ?_, by rw [List.length_set]; exact h.len⟩
    rw [hset a hN, posL_snoc]
    by_cases e : (a : Int) = ad
    · rw [if_pos e, e, hs]
      simp
    · rw [if_neg e, h.tel a hN]
      cases hq : posL x.st (a : Int) with
      | some j =>
        have hj := posL_lt hq
        simp [List.getD_eq_getElem?_getD, List.getElem?_append_left hj]
      | none =>
        have : ¬ ad = (a : Int) := fun h => e h.symm
        simp [this]
  | some j =>
    simp only
    obtain ⟨y, hy, hya⟩ := posL_at hs
    subst hya
    refine ⟨h.odd, h.ld, h.nd.set hy va, fun a hN => ?_, by rw [List.length_set]; exact h.len⟩
    rw [hset a hN, posL_set hy]
    have hj := (List.getElem?_eq_some_iff.1 hy).1
    by_cases e : (a : Int) = y.a
    · rw [if_pos e, e, hs]
      simp [List.getD_eq_getElem?_getD, List.getElem?_set_self hj]
    · rw [if_neg e, h.tel a hN]
      cases hq : posL x.st (a : Int) with
      | none => rfl
      | some k =>
        have hne : j ≠ k := fun e2 => by
          subst e2
          obtain ⟨z, hz, hza⟩ := posL_at hq
          rw [hy] at hz; cases hz
          exact e hza.symm
        simp [List.getD_eq_getElem?_getD, List.getElem?_set_ne hne]
theorem SI.of_data {m : Wd} {N : Nat} {own : List Int} {x y : Kn} (h : SI m N own x) (h1 : y.odd = x.odd) (h2 : y.ld = x.ld) (h3 : y.st = x.st) : SI m N own y :=
  ⟨h1.trans h.odd, by rw [h2]; exact h.ld, by rw [h3]; exact h.nd, by rw [h3]; exact h.tel, h.len⟩
theorem SI.add {m : Wd} {N : Nat} {own : List Int} {x : Kn} (h : SI m N own x) {o : Op3} (ho : 0 ≤ o.ad ∧ o.ad < N) (b : Bk) (n i : Int) : SI m N (ownOf own o) (x.add i (evOf b n own o)) := by
  have hd := x.add_data i (evOf b n own o)
  refine SI.of_data (x := x.add0 i (evOf b n own o)) ?_ hd.2.2.1 hd.1 hd.2.1
  unfold evOf ownOf
  cases hs : o.st
  · simp only [Bool.false_eq_true, if_false]
    unfold Kn.add0 who
    simp only [if_pos]
    exact h.load ho
  · simp only [if_true]
    unfold Kn.add0 who
    simp only
    rw [if_neg (by decide), if_pos trivial]
    exact h.store ho
theorem SI.adds {m : Wd} {N : Nat} : ∀ (l : List Op3) (own : List Int) (x : Kn) (i : Nat) (b : Bk) (n : Int), SI m N own x → (∀ o ∈ l, 0 ≤ o.ad ∧ o.ad < (N : Int)) → SI m N (ownL own l) (addAll x i (evsL b n own l))
  | [], own, x, i, b, n, h, _ => h
  | o :: r, own, x, i, b, n, h, ho => SI.adds r _ _ (i + 1) b n (h.add (ho o (List.mem_cons_self ..)) b n i) (fun o' h' => ho o' (List.mem_cons_of_mem _ h'))
/-- Ends turn neither list. -/
theorem Kn.add0_ends (x : Kn) (i : Int) {e : Ev} (h2 : e.k ≠ 2) (h3 : e.k ≠ 3) : (x.add0 i e).odd = x.odd ∧ (x.add0 i e).ld = x.ld ∧ (x.add0 i e).st = x.st := by
  unfold Kn.add0
  rw [if_neg h2, if_neg h3]
  split
  · exact ⟨rfl, rfl, rfl⟩
  · split
    · exact ⟨rfl, rfl, rfl⟩
    · exact ⟨rfl, rfl, rfl⟩
theorem SI.ends {m : Wd} {N : Nat} {own : List Int} {x : Kn} (h : SI m N own x) (i : Int) {e : Ev} (h2 : e.k ≠ 2) (h3 : e.k ≠ 3) : SI m N own (x.add i e) := by
  have hd := x.add_data i e
  have h0 := x.add0_ends i h2 h3
  exact h.of_data (hd.2.2.1.trans h0.1) (hd.1.trans h0.2.1) (hd.2.1.trans h0.2.2)

end Go.Proofs.Ytgjbhcnadenojaa
