/- Plain functions of a program's parts: where instructions go, where parts begin, what is reached. Conditions: those stated in each theorem. -/
import Derived.Test.YtehnailokgoekaaDoorIsaB0
namespace Go.Proofs.YtehnailokgoekaaDoor
open Go.RowKit

/-- Where an instruction goes: to its place, to the place behind. -/
def wayP (i : In) : Bool × Bool :=
  if legalP i = false then (false, false) else if i.op = 1 then (false, false) else if i.op = 13 then (true, false)
  else if i.op = 14 ∨ i.op = 15 ∨ i.op = 16 then (true, true) else (false, true)
def endsP (i : In) : Bool := (wayP i).1 || !(wayP i).2
/-- The places to which the instruction at a place goes. -/
def gosI (c : List In) (k : Nat) (i : In) : List Nat :=
  (if (wayP i).1 && (decide (0 ≤ i.imm) && decide (i.imm < c.length)) then [i.imm.toNat] else []) ++ (if (wayP i).2 && decide (k + 1 < c.length) then [k + 1] else [])
def gosP (c : List In) (k : Nat) : List Nat := match c[k]? with | none => [] | some i => gosI c k i
def endsAt (c : List In) (k : Nat) : Bool := match c[k]? with | none => false | some i => endsP i
theorem gosP_some {c : List In} {k : Nat} {i : In} (h : c[k]? = some i) : gosP c k = gosI c k i := by simp [gosP, h]
theorem endsAt_some {c : List In} {k : Nat} {i : In} (h : c[k]? = some i) : endsAt c k = endsP i := by simp [endsAt, h]
theorem gosP_lt {c : List In} {k x : Nat} (h : x ∈ gosP c k) : x < c.length := by
  unfold gosP at h
  split at h
  · cases h
  · rename_i i _
    unfold gosI at h
    rcases List.mem_append.1 h with h | h
    · split at h
      · rename_i hc
        simp only [Bool.and_eq_true, decide_eq_true_eq] at hc
        simp only [List.mem_singleton] at h
        omega
      · cases h
    · split at h
      · rename_i hc
        simp only [Bool.and_eq_true, decide_eq_true_eq] at hc
        simp only [List.mem_singleton] at h
        omega
      · cases h
theorem gosP_len (c : List In) (k : Nat) : (gosP c k).length ≤ 2 := by
  unfold gosP; split
  · simp
  · unfold gosI; split <;> split <;> simp
/-- To which places those ahead of k that end a part go. -/
def goneP (c : List In) (k p : Nat) : Bool := (List.range k).any fun j => endsAt c j && (gosP c j).contains p
theorem goneP_succ (c : List In) (k p : Nat) : goneP c (k + 1) p = (goneP c k p || (endsAt c k && (gosP c k).contains p)) := by
  simp [goneP, List.range_succ]
def firstP (c : List In) (p : Nat) : Bool := p == 0 || goneP c c.length p || endsAt c (p - 1)
def begsP (c : List In) : List Nat := (List.range c.length).filter (firstP c)
theorem begs_lt {c : List In} {p : Nat} (h : p ∈ begsP c) : p < c.length := List.mem_range.1 (List.mem_filter.1 h).1
theorem begs_first {c : List In} {p : Nat} (h : p ∈ begsP c) : firstP c p = true := (List.mem_filter.1 h).2
theorem begs_sorted (c : List In) : (begsP c).Pairwise (· < ·) := List.Pairwise.filter _ List.pairwise_lt_range
/-- The parts' borders: each goes up to the next one's beginning. -/
def spansP (len : Nat) : List Nat → List (Nat × Nat)
  | [] => []
  | [a] => [(a, len)]
  | a :: b :: r => (a, b) :: spansP len (b :: r)
theorem spans_len (len : Nat) : ∀ l, (spansP len l).length = l.length
  | [] => rfl
  | [_] => rfl
  | _ :: b :: r => by simp [spansP, spans_len len (b :: r)]
theorem spans_snoc (len : Nat) : ∀ (l : List Nat) (x : Nat), spansP len (l ++ [x]) = (spansP x l) ++ [(x, len)]
  | [], _ => rfl
  | [_], _ => rfl
  | a :: b :: r, x => by
    have := spans_snoc len (b :: r) x
    simp only [List.cons_append] at this ⊢
    simp [spansP, this]
/-- Of a list's last one the border alone turns. -/
theorem spans_last (x : Nat) : ∀ (l : List Nat) (a : Nat), spansP x (l ++ [a]) = spansP a l ++ [(a, x)] := fun l a => spans_snoc x l a
theorem spans_fst (len : Nat) : ∀ (l : List Nat), (spansP len l).map Prod.fst = l
  | [] => rfl
  | [_] => rfl
  | a :: b :: r => by simp [spansP, spans_fst len (b :: r)]
theorem spans_snd (len : Nat) : ∀ (l : List Nat), (spansP len l).map Prod.snd = l.tail ++ (if l = [] then [] else [len])
  | [] => rfl
  | [_] => rfl
  | a :: b :: r => by
    have := spans_snd len (b :: r)
    simp only [List.tail_cons] at this
    simp [spansP, this]
/-- The number of the part that has a place: how many end up to it. -/
def numS (sp : List (Nat × Nat)) (p : Nat) : Nat := sp.countP fun x => decide (x.2 ≤ p)
def numP (c : List In) (p : Nat) : Nat := numS (spansP c.length (begsP c)) p
/-- A part. -/
structure Pt where
  lo : Nat
  hi : Nat
  nx : List Nat
deriving DecidableEq
def nextP (c : List In) (hi : Nat) : List Nat := (List.range (begsP c).length).filter fun m => ((gosP c (hi - 1)).map (numP c)).contains m
def partsP (c : List In) : List Pt := (spansP c.length (begsP c)).map fun x => ⟨x.1, x.2, nextP c x.2⟩
theorem parts_len (c : List In) : (partsP c).length = (begsP c).length := by simp [partsP, spans_len]
/-! ### Numbers of parts -/
theorem countP_le_mono (l : List Nat) {p q : Nat} (h : p ≤ q) : l.countP (fun x => decide (x ≤ p)) ≤ l.countP (fun x => decide (x ≤ q)) := by
  refine List.countP_mono_left (fun x _ hx => ?_)
  simp only [decide_eq_true_eq] at hx ⊢; omega
theorem num_begs (len : Nat) : ∀ (l : List Nat) (p : Nat), p < len → numS (spansP len l) p = l.tail.countP (fun x => decide (x ≤ p))
  | [], _, _ => rfl
  | [a], p, h => by simp [spansP, numS]; omega
  | a :: b :: r, p, h => by
    have := num_begs len (b :: r) p h
    unfold numS at this ⊢
    simp only [spansP, List.countP_cons, this, List.tail_cons]
theorem begs_zero {c : List In} (h : 0 < c.length) : ∃ r, begsP c = 0 :: r := by
  unfold begsP
  obtain ⟨n, hn⟩ : ∃ n, c.length = n + 1 := ⟨c.length - 1, by omega⟩
  rw [hn, List.range_succ_eq_map, List.filter_cons]
  simp [firstP]
theorem num_count {c : List In} {p : Nat} (h : p < c.length) : numP c p + 1 = (begsP c).countP (fun x => decide (x ≤ p)) := by
  obtain ⟨r, hr⟩ := begs_zero (c := c) (by omega)
  unfold numP
  rw [num_begs _ _ _ h, hr]; simp
/-- Which part has a place. -/
theorem num_in : ∀ (len : Nat) (l : List Nat) (p : Nat), l.Pairwise (· < ·) → (∀ x ∈ l, x < len) → (∃ a r, l = a :: r ∧ a ≤ p) → p < len → ∃ x, (spansP len l)[numS (spansP len l) p]? = some x ∧ x.1 ≤ p ∧ p < x.2
  | len, [], p, _, _, ⟨a, r, e, _⟩, _ => by cases e
  | len, [a], p, _, _, ⟨_, _, e, h⟩, hp => by
    cases e
    have : numS (spansP len [a]) p = 0 := by simp [spansP, numS]; omega
    rw [this]; exact ⟨(a, len), rfl, h, hp⟩
  | len, a :: b :: r, p, hs, hl, ⟨_, _, e, h⟩, hp => by
    cases e
    have hs2 := (List.pairwise_cons.1 hs).2
    by_cases hb : b ≤ p
    · obtain ⟨x, h1, h2⟩ := num_in len (b :: r) p hs2 (fun x hx => hl x (List.mem_cons_of_mem _ hx)) ⟨b, r, rfl, hb⟩ hp
      refine ⟨x, ?_, h2⟩
      have : numS (spansP len (a :: b :: r)) p = numS (spansP len (b :: r)) p + 1 := by simp [spansP, numS, hb]
      rw [this]; simpa [spansP] using h1
    · have : numS (spansP len (a :: b :: r)) p = 0 := by
        rw [num_begs _ _ _ hp]
        rw [List.countP_eq_zero]
        intro x hx
        simp only [List.tail_cons] at hx
        simp only [decide_eq_true_eq]
        rcases List.mem_cons.1 hx with rfl | hx
        · exact hb
        · have := (List.pairwise_cons.1 hs2).1 x hx; omega
      rw [this]
      exact ⟨(a, b), rfl, h, by omega⟩
theorem num_part {c : List In} {p : Nat} (h : p < c.length) : ∃ x, (partsP c)[numP c p]? = some x ∧ x.lo ≤ p ∧ p < x.hi := by
  obtain ⟨r, hr⟩ := begs_zero (c := c) (by omega)
  obtain ⟨x, h1, h2⟩ := num_in c.length (begsP c) p (begs_sorted c) (fun x => begs_lt) ⟨0, r, hr, Nat.zero_le _⟩ h
  unfold partsP
  rw [List.getElem?_map]
  have h1' : (spansP c.length (begsP c))[numP c p]? = some x := h1
  rw [h1']
  exact ⟨_, rfl, h2⟩
theorem num_lt {c : List In} {p : Nat} (h : p < c.length) : numP c p < (begsP c).length := by
  obtain ⟨x, hx, _⟩ := num_part h
  have := (List.getElem?_eq_some_iff.1 hx).1
  rwa [parts_len] at this
/-- Spans, one behind the other. -/
theorem spans_chain (len : Nat) : ∀ (l : List Nat) (k : Nat) (x y : Nat × Nat), (spansP len l)[k]? = some x → (spansP len l)[k + 1]? = some y → x.2 = y.1
  | [], _, _, _, h, _ => by simp [spansP] at h
  | [_], k, _, _, _, h => by simp [spansP] at h
  | a :: b :: r, 0, x, y, hx, hy => by
    simp [spansP] at hx; subst hx
    cases r with
    | nil => simp [spansP] at hy; subst hy; rfl
    | cons c r => simp [spansP] at hy; subst hy; rfl
  | a :: b :: r, k + 1, x, y, hx, hy => by
    simp only [spansP, List.getElem?_cons_succ] at hx hy
    exact spans_chain len (b :: r) k x y hx hy
theorem spans_end (len : Nat) : ∀ (l : List Nat) (x : Nat × Nat), (spansP len l)[l.length - 1]? = some x → x.2 = len
  | [], _, h => by simp [spansP] at h
  | [a], x, h => by simp [spansP] at h; rw [← h]
  | a :: b :: r, x, h => spans_end len (b :: r) x (by simpa [spansP] using h)
theorem spans_lt (len : Nat) : ∀ (l : List Nat), l.Pairwise (· < ·) → (∀ x ∈ l, x < len) → ∀ x ∈ spansP len l, x.1 < x.2 ∧ x.2 ≤ len
  | [], _, _, _, h => by cases h
  | [a], _, hl, x, h => by simp [spansP] at h; subst h; have := hl a (by simp); simp; omega
  | a :: b :: r, hs, hl, x, h => by
    simp only [spansP] at h
    rcases List.mem_cons.1 h with rfl | h
    · have := (List.pairwise_cons.1 hs).1 b (by simp); have := hl b (by simp); simp; omega
    · exact spans_lt len (b :: r) (List.pairwise_cons.1 hs).2 (fun x hx => hl x (List.mem_cons_of_mem _ hx)) x h
theorem spans_mem (len : Nat) (l : List Nat) : ∀ x ∈ spansP len l, x.1 ∈ l := fun x hx => by
  rw [← spans_fst len l]; exact List.mem_map_of_mem hx
/-- Of spans those that end up to a place come first. -/
theorem spans_mono (len : Nat) (l : List Nat) (hs : l.Pairwise (· < ·)) (hl : ∀ x ∈ l, x < len) : (spansP len l).Pairwise (fun x y => x.2 ≤ y.2) := by
  induction l with
  | nil => exact List.Pairwise.nil
  | cons a r ih =>
    cases r with
    | nil => simp [spansP]
    | cons b r =>
      have hs2 := (List.pairwise_cons.1 hs).2
      have ih := ih hs2 (fun x hx => hl x (List.mem_cons_of_mem _ hx))
      simp only [spansP, List.pairwise_cons]
      refine ⟨fun y hy => ?_, ih⟩
      have h1 := spans_lt len (b :: r) hs2 (fun x hx => hl x (List.mem_cons_of_mem _ hx)) y hy
      have h2 := spans_mem len (b :: r) y hy
      rcases List.mem_cons.1 h2 with h2 | h2
      · show b ≤ y.2; omega
      · have := (List.pairwise_cons.1 hs2).1 _ h2
        show b ≤ y.2; omega
/-- A list of at most two, sorted, each once. -/
def tidy : List Nat → List Nat
  | [a, b] => if a < b then [a, b] else if b < a then [b, a] else [a]
  | l => l
theorem filter_one (m a : Nat) (h : a < m) : (List.range m).filter (fun x => x == a) = [a] := by
  induction m with
  | zero => omega
  | succ m ih =>
    rw [List.range_succ, List.filter_append]
    by_cases e : a = m
    · subst e
      have : (List.range a).filter (fun x => x == a) = [] := by
        rw [List.filter_eq_nil_iff]; intro x hx; have := List.mem_range.1 hx; simp; omega
      simp [this]
    · have : ¬ m = a := fun h => e h.symm
      rw [ih (by omega)]; simp [this]
theorem filter_two (m a b : Nat) (h : a < b) (hb : b < m) : (List.range m).filter (fun x => x == a || x == b) = [a, b] := by
  induction m with
  | zero => omega
  | succ m ih =>
    rw [List.range_succ, List.filter_append]
    by_cases e : b = m
    · subst e
      have : (List.range b).filter (fun x => x == a || x == b) = (List.range b).filter (fun x => x == a) := by
        apply List.filter_congr; intro x hx; have := List.mem_range.1 hx; simp; omega
      rw [this, filter_one b a h]; simp
    · rw [ih (by omega)]
      have e1 : ¬ m = a := by omega
      have e2 : ¬ m = b := by omega
      simp [e1, e2]
theorem tidy_filter : ∀ (l : List Nat) (m : Nat), l.length ≤ 2 → (∀ x ∈ l, x < m) → (List.range m).filter (fun x => l.contains x) = tidy l
  | [], m, _, _ => by simp [tidy]
  | [a], m, _, h => by
    have := filter_one m a (h a (by simp))
    show _ = [a]
    refine Eq.trans ?_ this
    apply List.filter_congr; intro x _; simp only [List.contains_cons, List.contains_nil, Bool.or_false]
  | [a, b], m, _, h => by
    have ha := h a (by simp)
    have hb := h b (by simp)
    unfold tidy
    simp only [List.contains_cons, List.contains_nil, Bool.or_false]
    split
    · exact filter_two m a b ‹_› hb
    · split
      · rw [← filter_two m b a ‹_› ha]; apply List.filter_congr; intro x _; exact Bool.or_comm _ _
      · obtain rfl : a = b := by omega
        simpa using filter_one m a ha
  | _ :: _ :: _ :: _, _, h, _ => by simp at h
theorem next_tidy (c : List In) (hi : Nat) : nextP c hi = tidy ((gosP c (hi - 1)).map (numP c)) := by
  unfold nextP
  exact tidy_filter _ _ (by rw [List.length_map]; exact gosP_len c _) (fun x hx => by
    obtain ⟨p, hp, rfl⟩ := List.mem_map.1 hx
    exact num_lt (gosP_lt hp))
theorem next_lt {c : List In} {hi m : Nat} (h : m ∈ nextP c hi) : m < (begsP c).length := List.mem_range.1 (List.mem_filter.1 h).1
theorem next_len (c : List In) (hi : Nat) : (nextP c hi).length ≤ 2 := by
  rw [next_tidy]
  have := gosP_len c (hi - 1)
  generalize gosP c (hi - 1) = l at *
  match l, this with
  | [], _ => simp [tidy]
  | [a], _ => simp [tidy]
  | [a, b], _ => simp only [List.map_cons, List.map_nil, tidy]; split <;> (try split) <;> simp
  | _ :: _ :: _ :: _, h => simp at h
/-! ### What is reached -/
def nxOf (ps : List Pt) (n : Nat) : List Nat := match ps[n]? with | none => [] | some x => x.nx
/-- Reached, without a part. -/
inductive Rch (ps : List Pt) (wo : Int) : Nat → Prop
  | zero : 0 < ps.length → wo ≠ 0 → Rch ps wo 0
  | step {n m : Nat} : Rch ps wo n → m ∈ nxOf ps n → (m : Int) ≠ wo → Rch ps wo m
def isAt (l : List Bool) (n : Nat) : Bool := match l[n]? with | none => false | some b => b
theorem isAt_some {l : List Bool} {n : Nat} {b : Bool} (h : l[n]? = some b) : isAt l n = b := by simp [isAt, h]
theorem isAt_lt {l : List Bool} {n : Nat} (h : isAt l n = true) : n < l.length := by
  unfold isAt at h; split at h
  · cases h
  · exact (List.getElem?_eq_some_iff.1 ‹_›).1
theorem isAt_set {l : List Bool} {n : Nat} (h : n < l.length) (k : Nat) : isAt (l.set n true) k = (k == n || isAt l k) := by
  unfold isAt
  rw [List.getElem?_set]
  by_cases e : n = k
  · subst e; simp [h]
  · have : ¬ k = n := fun h => e h.symm
    simp [e, this]
theorem isAt_get {l : List Bool} {n : Nat} (h : n < l.length) : l[n]? = some (isAt l n) := by
  unfold isAt; rw [List.getElem?_eq_getElem h]
theorem isAt_ext {l r : List Bool} (hl : l.length = r.length) (h : ∀ n, isAt l n = true ↔ isAt r n = true) : l = r := by
  apply List.ext_getElem? ; intro n
  by_cases e : n < l.length
  · rw [isAt_get e, isAt_get (by omega)]
    have := h n
    cases h1 : isAt l n <;> cases h2 : isAt r n <;> simp_all
  · rw [List.getElem?_eq_none (by omega), List.getElem?_eq_none (by omega)]
/-- A list that says which are reached. -/
def IsRch (ps : List Pt) (wo : Int) (l : List Bool) : Prop := l.length = ps.length ∧ ∀ n, isAt l n = true ↔ Rch ps wo n
theorem IsRch.eq {ps : List Pt} {wo : Int} {l r : List Bool} (h : IsRch ps wo l) (k : IsRch ps wo r) : l = r :=
  isAt_ext (h.1.trans k.1.symm) (fun n => (h.2 n).trans (k.2 n).symm)
/-- Where numbers of parts stand among the next ones. -/
def NxOk (ps : List Pt) : Prop := ∀ n m, m ∈ nxOf ps n → m < ps.length
theorem nxOf_lt {ps : List Pt} {n m : Nat} (h : m ∈ nxOf ps n) : n < ps.length := by
  unfold nxOf at h; split at h
  · cases h
  · exact (List.getElem?_eq_some_iff.1 ‹_›).1
theorem rch_lt {ps : List Pt} {wo : Int} {n : Nat} (h : Rch ps wo n) (hk : NxOk ps) : n < ps.length := by
  cases h with
  | zero h _ => exact h
  | step _ h _ => exact hk _ _ h
/-- What is marked is reached. -/
def Snd (ps : List Pt) (wo : Int) (l : List Bool) : Prop := ∀ n, isAt l n = true → Rch ps wo n
theorem Snd.set {ps : List Pt} {wo : Int} {l : List Bool} (h : Snd ps wo l) {n : Nat} (hn : n < l.length) (hr : Rch ps wo n) : Snd ps wo (l.set n true) := fun k hk => by
  rw [isAt_set hn] at hk
  simp only [Bool.or_eq_true, beq_iff_eq] at hk
  rcases hk with rfl | hk
  · exact hr
  · exact h k hk
/-- All behind a part that is marked are marked. -/
def Shut (ps : List Pt) (wo : Int) (l : List Bool) (n : Nat) : Prop := isAt l n = true → ∀ m, m ∈ nxOf ps n → (m : Int) ≠ wo → isAt l m = true
theorem rch_of_shut {ps : List Pt} {wo : Int} {l : List Bool} (hl : l.length = ps.length) (hs : Snd ps wo l) (h0 : 0 < ps.length → wo ≠ 0 → isAt l 0 = true) (hc : ∀ n, Shut ps wo l n) : IsRch ps wo l :=
  ⟨hl, fun n => ⟨hs n, fun h => by
    induction h with
    | zero h w => exact h0 h w
    | step _ h w ih => exact hc _ ih _ h w⟩⟩
theorem isAt_rep (k n : Nat) : isAt (List.replicate k false) n = false := by
  unfold isAt; rw [List.getElem?_replicate]; split <;> split at * <;> simp_all
theorem rch_none (ps : List Pt) {wo : Int} (h : ps.length = 0 ∨ wo = 0) : IsRch ps wo (List.replicate ps.length false) := by
  refine rch_of_shut (by simp) (fun n hn => by rw [isAt_rep] at hn; cases hn) (fun h0 hw => ?_) (fun n hn => by rw [isAt_rep] at hn; cases hn)
  rcases h with h | h
  · omega
  · exact absurd h hw
/-- Rounds: more is marked, or all is shut. -/
def cntB (l : List Bool) : Nat := l.countP id
theorem cntB_set {l : List Bool} {n : Nat} (h : n < l.length) (hf : isAt l n = false) : cntB (l.set n true) = cntB l + 1 := by
  unfold cntB
  induction l generalizing n with
  | nil => simp at h
  | cons a r ih =>
    cases n with
    | zero => simp [isAt] at hf; subst hf; simp
    | succ n =>
      have := ih (n := n) (by simpa using h) (by simpa [isAt] using hf)
      simp only [List.set_cons_succ, List.countP_cons, this]; omega
theorem cntB_le (l : List Bool) : cntB l ≤ l.length := List.countP_le_length
theorem set_same {l : List Bool} {n : Nat} (h : n < l.length) (hf : isAt l n = true) : l.set n true = l := by
  apply List.ext_getElem?; intro k
  rw [List.getElem?_set]
  split
  · rename_i e; subst e
    rw [isAt_get h, hf]
  · rfl
/-- From one list to a later one: nothing is unmarked; what is the same has the same count, else more. -/
def Mrk (l r : List Bool) : Prop := r.length = l.length ∧ (∀ n, isAt l n = true → isAt r n = true) ∧ (r = l ∨ cntB l < cntB r)
theorem Mrk.refl (l : List Bool) : Mrk l l := ⟨rfl, fun _ h => h, .inl rfl⟩
theorem Mrk.set {l r : List Bool} (h : Mrk l r) {n : Nat} (hn : n < r.length) : Mrk l (r.set n true) := by
  refine ⟨by simp [h.1], fun k hk => by rw [isAt_set hn, h.2.1 k hk, Bool.or_true], ?_⟩
  cases hf : isAt r n with
  | true => rw [set_same hn hf]; exact h.2.2
  | false =>
    rw [cntB_set hn hf]
    rcases h.2.2 with e | e
    · subst e; exact .inr (by omega)
    · exact .inr (by omega)
/-- Dominates. -/
def domB (all : List Bool) (rows : Nat → List Bool) (a b : Nat) : Bool := isAt all b && !isAt (rows a) b
theorem dom_iff {ps : List Pt} {all row : List Bool} {a b : Nat} (h : IsRch ps (-1) all) (k : IsRch ps a row) : (isAt all b && !isAt row b) = true ↔ Rch ps (-1) b ∧ ¬ Rch ps a b := by
  rw [Bool.and_eq_true, h.2 b, Bool.not_eq_true', ← Bool.not_eq_true, k.2 b]
theorem rch_all {ps : List Pt} {wo : Int} {n : Nat} (h : Rch ps wo n) : Rch ps (-1) n := by
  induction h with
  | zero h _ => exact .zero h (by omega)
  | step _ h _ ih => exact .step ih h (by omega)
theorem rch_not {ps : List Pt} {n : Nat} : ¬ Rch ps n n := fun h => by
  cases h with
  | zero _ h => simp at h
  | step _ _ h => exact h rfl
/-- Without a, or by a: a way to b goes by a, or it goes without it. -/
theorem rch_by {ps : List Pt} {wo : Int} {b : Nat} (a : Nat) (h : Rch ps wo b) : Rch ps a b ∨ Rch ps wo a := by
  induction h with
  | zero h w =>
    by_cases e : a = 0
    · subst e; exact .inr (.zero h w)
    · exact .inl (.zero h (by omega))
  | @step n m hn h w ih =>
    rcases ih with ih | ih
    · by_cases e : m = a
      · subst e; exact .inr (.step hn h w)
      · exact .inl (.step ih h (by omega))
    · exact .inr ih
/-- Of two that dominate a third one, one dominates the other. -/
theorem dom_chain {ps : List Pt} {a b c : Nat} (ha : ¬ Rch ps a c) (hb : ¬ Rch ps b c) (hc : Rch ps (-1) c) : ¬ Rch ps a b ∨ ¬ Rch ps b a := by
  by_cases h1 : Rch ps a b
  · by_cases h2 : Rch ps b a
    · exfalso
      have : Rch ps a c ∨ Rch ps b c := by
        clear ha hb
        induction hc with
        | zero h _ =>
          by_cases e : a = 0
          · by_cases e2 : b = 0
            · subst e e2; exact absurd h1 rch_not
            · exact .inr (.zero h (by omega))
          · exact .inl (.zero h (by omega))
        | @step n m _ h _ ih =>
          rcases ih with ih | ih
          · by_cases e : m = a
            · subst e; exact .inr h2
            · exact .inl (.step ih h (by omega))
          · by_cases e : m = b
            · subst e; exact .inl h1
            · exact .inr (.step ih h (by omega))
      exact this.elim ha hb
    · exact .inr h2
  · exact .inl h1

end Go.Proofs.YtehnailokgoekaaDoor
