/- What is found in a program, as a plain list, and how much room is left to a walk of all ways. Conditions: those stated in each theorem. -/
import Derived.Test.YteijhcibdglkeaaGreatDoorLntP
namespace Go.Proofs.YteijhcibdglkeaaGreatDoor

/-! ### Room -/
def valM (o : Option Nat) : Nat := match o with | none => 0 | some m => m + 1
def spots : List Spot := (List.range 1025).flatMap fun p => [(p, false), (p, true)]
theorem mem_spots {s : Spot} (h : s.1 ≤ 1024) : s ∈ spots := by
  unfold spots
  rw [List.mem_flatMap]
  refine ⟨s.1, List.mem_range.2 (by omega), ?_⟩
  obtain ⟨p, w⟩ := s
  cases w <;> simp
theorem sum_lt {α : Type} {f g : α → Nat} : ∀ {l : List α}, (∀ x ∈ l, g x ≤ f x) → (∃ x ∈ l, g x < f x) → (l.map g).sum < (l.map f).sum
  | [], _, h => by obtain ⟨x, hx, _⟩ := h; cases hx
  | x :: r, h1, h2 => by
    have hle : ∀ {l : List α}, (∀ x ∈ l, g x ≤ f x) → (l.map g).sum ≤ (l.map f).sum := fun {l} h => by
      induction l with
      | nil => simp
      | cons y r ih =>
        have a := h y (by simp)
        have b := ih (fun z hz => h z (by simp [hz]))
        simp only [List.map_cons, List.sum_cons]; omega
    simp only [List.map_cons, List.sum_cons]
    obtain ⟨y, hy, hlt⟩ := h2
    rcases List.mem_cons.1 hy with rfl | hy
    · have := hle (fun z hz => h1 z (List.mem_cons_of_mem _ hz)); omega
    · have a := h1 x (by simp)
      have := sum_lt (fun z hz => h1 z (List.mem_cons_of_mem _ hz)) ⟨y, hy, hlt⟩
      omega
def room (f : MV) : Nat := (spots.map fun s => 256 - valM (f s)).sum
theorem room_put {f : MV} {t : Spot} {y : Nat} (ht : t.1 ≤ 1024) (hy : y < 256) (h : valM (f t) < y + 1) : room (f.put t y) < room f := by
  refine sum_lt (fun s _ => ?_) ⟨t, mem_spots ht, ?_⟩
  · unfold MV.put
    split
    · rename_i e; subst e; simp only [valM] at *; omega
    · omega
  · unfold MV.put
    rw [if_pos rfl]
    simp only [valM] at *; omega
theorem or_le (a b : Nat) : a ≤ a ||| b := Nat.left_le_or
theorem val_or {f : MV} {t : Spot} {b : Nat} (h : f t = none ∨ (f t).getD 0 ||| b ≠ (f t).getD 0) : valM (f t) < ((f t).getD 0 ||| b) + 1 := by
  cases e : f t with
  | none => simp [valM]
  | some m =>
    rw [e] at h
    simp only [Option.getD_some, reduceCtorEq, false_or] at h
    have := or_le m b
    simp only [valM, Option.getD_some]
    omega

/-! ### What is found -/
def isGo (i : In) : Bool := decide (13 ≤ i.op) && decide (i.op ≤ 16)
def findI (n k : Nat) (i : In) (s : Spot) : Bool :=
  match k with
  | 1 => !legalP i
  | 2 => i.op == 18 && !s.2
  | 3 => i.op == 17 && s.2
  | 4 => i.op == 1 && s.2
  | 5 => (lgoI i s).any fun t => t.2 && decide (n ≤ t.1)
  | 6 => legalP i && isGo i && !isPl i.imm
  | _ => false
/-- The registers that an instruction reads, as bits. -/
def readsM (i : In) : Nat :=
  if i.op = 3 ∨ i.op = 11 then 2 ^ i.b.toNat
  else if 4 ≤ i.op ∧ i.op ≤ 10 then 2 ^ i.b.toNat ||| 2 ^ i.c.toNat
  else if i.op = 12 ∨ i.op = 14 ∨ i.op = 15 ∨ i.op = 16 then 2 ^ i.a.toNat ||| 2 ^ i.b.toNat
  else 0
theorem bit_and {m r : Nat} : (2 ^ r &&& m ≠ 0) ↔ m.testBit r = true := by
  constructor
  · intro h
    obtain ⟨j, hj⟩ := Nat.exists_testBit_ne_of_ne h
    rw [Nat.zero_testBit, Nat.testBit_and, Nat.testBit_two_pow] at hj
    by_cases e : r = j
    · subst e; simpa using hj
    · simp [e] at hj
  · intro h e
    have : (2 ^ r &&& m).testBit r = true := by rw [Nat.testBit_and, Nat.testBit_two_pow_self, h]; rfl
    rw [e, Nat.zero_testBit] at this; cases this
theorem or_ne {a b : Nat} : (a ||| b ≠ 0) ↔ (a ≠ 0 ∨ b ≠ 0) := by
  rw [Ne, Nat.or_eq_zero_iff]; omega
theorem reads_and {i : In} {m : Nat} : (readsM i &&& m ≠ 0) ↔ ∃ r, r ∈ readsI i ∧ m.testBit r.toNat = true := by
  have two : ∀ a b : Nat, ((2 ^ a ||| 2 ^ b) &&& m ≠ 0) ↔ (m.testBit a = true ∨ m.testBit b = true) := fun a b => by
    rw [Nat.and_comm, Nat.and_or_distrib_left, or_ne, Nat.and_comm m, Nat.and_comm m, bit_and, bit_and]
  unfold readsM readsI
  by_cases h1 : i.op = 3 ∨ i.op = 11
  · rw [if_pos h1, if_pos h1, bit_and]; simp
  rw [if_neg h1, if_neg h1]
  by_cases h2 : 4 ≤ i.op ∧ i.op ≤ 10
  · rw [if_pos h2, if_pos h2, two]; simp
  rw [if_neg h2, if_neg h2]
  by_cases h3 : i.op = 12 ∨ i.op = 14 ∨ i.op = 15 ∨ i.op = 16
  · rw [if_pos h3, if_pos h3, two]; simp
  rw [if_neg h3, if_neg h3]; simp
/-- At a spot that was met, where these registers may be unset. -/
def fAt (n k : Nat) (i : In) (s : Spot) (m : Nat) : Bool := if k = 7 then legalP i && (readsM i &&& m != 0) else findI n k i s
def fWay (n k : Nat) (i : In) (f : MV) (s : Spot) : Bool := match f s with | none => false | some m => fAt n k i s m
def findP (n k : Nat) (i : In) (f : MV) (p : Nat) : Bool :=
  if k = 8 then (f (p, false)).isNone && (f (p, true)).isNone else fWay n k i f (p, false) || fWay n k i f (p, true)
def findB (c : List In) (f : MV) (k p : Nat) : Bool := match c[p]? with | none => false | some i => findP c.length k i f p
def rowB (c : List In) (f : MV) (k : Nat) : List (Nat × Nat) := ((List.range c.length).filter (findB c f k)).map fun p => (k, p)
def lookB (c : List In) (f : MV) : List (Nat × Nat) := (List.range 9).flatMap (rowB c f)
theorem mem_rowB {c : List In} {f : MV} {k : Nat} {x : Nat × Nat} : x ∈ rowB c f k ↔ x.1 = k ∧ x.2 < c.length ∧ findB c f k x.2 = true := by
  unfold rowB
  rw [List.mem_map]
  constructor
  · rintro ⟨p, hp, rfl⟩
    obtain ⟨h1, h2⟩ := List.mem_filter.1 hp
    exact ⟨rfl, List.mem_range.1 h1, h2⟩
  · rintro ⟨h0, h1, h2⟩
    exact ⟨x.2, List.mem_filter.2 ⟨List.mem_range.2 h1, h2⟩, by rw [← h0]⟩
theorem mem_lookB {c : List In} {f : MV} {x : Nat × Nat} : x ∈ lookB c f ↔ x.1 < 9 ∧ x.2 < c.length ∧ findB c f x.1 x.2 = true := by
  unfold lookB
  rw [List.mem_flatMap]
  constructor
  · rintro ⟨k, hk, hx⟩
    obtain ⟨h0, h1, h2⟩ := mem_rowB.1 hx
    subst h0
    exact ⟨List.mem_range.1 hk, h1, h2⟩
  · rintro ⟨h0, h1⟩
    exact ⟨x.1, List.mem_range.2 h0, mem_rowB.2 ⟨rfl, h1⟩⟩
def LexLt (x y : Nat × Nat) : Prop := x.1 < y.1 ∨ x.1 = y.1 ∧ x.2 < y.2
theorem rowB_sorted (c : List In) (f : MV) (k : Nat) : (rowB c f k).Pairwise LexLt := by
  unfold rowB
  rw [List.pairwise_map]
  exact (List.pairwise_lt_range.filter _).imp fun h => .inr ⟨rfl, h⟩
theorem lookB_sorted (c : List In) (f : MV) : (lookB c f).Pairwise LexLt := by
  unfold lookB
  rw [List.pairwise_flatMap]
  refine ⟨fun k _ => rowB_sorted c f k, List.pairwise_lt_range.imp fun {a b} h x hx y hy => .inl ?_⟩
  rw [(mem_rowB.1 hx).1, (mem_rowB.1 hy).1]; exact h
theorem lookB_len (c : List In) (f : MV) : (lookB c f).length ≤ 9 * c.length := by
  have : ∀ l : List Nat, (l.flatMap (rowB c f)).length ≤ l.length * c.length := fun l => by
    induction l with
    | nil => simp
    | cons k l ih =>
      have h1 : (rowB c f k).length ≤ c.length := by
        unfold rowB; rw [List.length_map]
        have := List.length_filter_le (findB c f k) (List.range c.length)
        rw [List.length_range] at this; exact this
      rw [List.flatMap_cons, List.length_append, List.length_cons, Nat.succ_mul]; omega
  have := this (List.range 9)
  rw [List.length_range] at this
  exact this

/-! ### What was met is one -/
theorem MetOf.eq {c : List In} {f g : MV} (hf : MetOf c f) (hg : ∀ s, ((g s).isSome = true ↔ Cm c none s) ∧ ∀ m, g s = some m → m < 256 ∧ ∀ r, r < 8 → (m.testBit r = true ↔ Cm c (some r) s)) : f = g := by
  funext s
  obtain ⟨a1, a2⟩ := hf s
  obtain ⟨b1, b2⟩ := hg s
  cases e1 : f s with
  | none =>
    cases e2 : g s with
    | none => rfl
    | some m => rw [e2] at b1; rw [e1] at a1; simp only [Option.isSome_some, Option.isSome_none, Bool.false_eq_true, true_iff, false_iff] at a1 b1; exact absurd b1 a1
  | some m =>
    cases e2 : g s with
    | none => rw [e2] at b1; rw [e1] at a1; simp only [Option.isSome_some, Option.isSome_none, Bool.false_eq_true, true_iff, false_iff] at a1 b1; exact absurd a1 b1
    | some m' =>
      obtain ⟨h1, h2⟩ := a2 m e1
      obtain ⟨h3, h4⟩ := b2 m' e2
      congr 1
      refine Nat.eq_of_testBit_eq fun r => ?_
      by_cases hr : r < 8
      · rw [Bool.eq_iff_iff, h2 r hr, h4 r hr]
      · have pw : 2 ^ 8 ≤ 2 ^ r := Nat.pow_le_pow_right (by omega) (by omega)
        rw [Nat.testBit_lt_two_pow (by omega), Nat.testBit_lt_two_pow (by omega)]

/-! ### What the laws want of it -/
section
variable {c : List In} {f : MV} {p : Nat} {i : In}
theorem findB_at (h : c[p]? = some i) (k : Nat) : findB c f k p = findP c.length k i f p := by unfold findB; rw [h]
theorem in_lookB (h : c[p]? = some i) {k : Nat} (hk : k < 9) (hf : findP c.length k i f p = true) : (k, p) ∈ lookB c f :=
  mem_lookB.2 ⟨hk, (List.getElem?_eq_some_iff.1 h).1, (findB_at h k).trans hf⟩
theorem of_lookB {x : Nat × Nat} (h : x ∈ lookB c f) : ∃ i, c[x.2]? = some i ∧ findP c.length x.1 i f x.2 = true := by
  obtain ⟨_, h1, h2⟩ := mem_lookB.1 h
  exact ⟨_, List.getElem?_eq_getElem h1, (findB_at (List.getElem?_eq_getElem h1) _).symm.trans h2⟩
theorem fWay_of (hm : MetOf c f) {k : Nat} {s : Spot} (h : fWay c.length k i f s = true) : ∃ m, f s = some m ∧ Cm c none s ∧ fAt c.length k i s m = true := by
  unfold fWay at h
  cases e : f s with
  | none => rw [e] at h; cases h
  | some m => rw [e] at h; exact ⟨m, rfl, (hm s).1.1 (by rw [e]; rfl), h⟩
theorem findP_way (hm : MetOf c f) {k : Nat} (hk : k ≠ 8) (h : findP c.length k i f p = true) : ∃ w m, f (p, w) = some m ∧ Cm c none (p, w) ∧ fAt c.length k i (p, w) m = true := by
  unfold findP at h
  rw [if_neg hk, Bool.or_eq_true] at h
  rcases h with h | h <;> exact ⟨_, fWay_of hm h⟩
theorem findP_of {k : Nat} (hk : k ≠ 8) {w : Bool} {m : Nat} (e : f (p, w) = some m) (h : fAt c.length k i (p, w) m = true) : findP c.length k i f p = true := by
  unfold findP
  rw [if_neg hk, Bool.or_eq_true]
  cases w
  · left; unfold fWay; rw [e]; exact h
  · right; unfold fWay; rw [e]; exact h
theorem met_some (hm : MetOf c f) {s : Spot} (h : Cm c none s) : ∃ m, f s = some m := Option.isSome_iff_exists.1 ((hm s).1.2 h)
/-- Where a way comes, nothing is never reached. -/
theorem not_never (hm : MetOf c f) {w : Bool} (h : Cm c none (p, w)) : (8, p) ∉ lookB c f := by
  intro hx
  obtain ⟨i, _, h2⟩ := of_lookB hx
  obtain ⟨m, e⟩ := met_some hm h
  unfold findP at h2
  rw [if_pos rfl, Bool.and_eq_true] at h2
  cases w
  · rw [e] at h2; simp at h2
  · rw [e] at h2; simp at h2
/-- A register that may be unset, and is read, is found. -/
theorem in_unset (hm : MetOf c f) (hi : c[p]? = some i) (hl : legalP i = true) {r : Nat} {w : Bool} (hr : (r : Int) ∈ readsI i) (h : Cm c (some r) (p, w)) : (7, p) ∈ lookB c f := by
  obtain ⟨m, e⟩ := met_some hm h.any
  refine in_lookB hi (by omega) (findP_of (by omega) e ?_)
  have hlt := legal_reads hl hr
  unfold fAt
  rw [if_pos rfl, hl, Bool.true_and, bne_iff_ne]
  exact reads_and.2 ⟨r, hr, ((((hm _).2 m e).2 r (by omega)).2 h)⟩
theorem in_wrong (hm : MetOf c f) (hi : c[p]? = some i) {k : Nat} (hk : k < 7) {w : Bool} (h : Cm c none (p, w)) (hf : findI c.length k i (p, w) = true) : (k, p) ∈ lookB c f := by
  obtain ⟨m, e⟩ := met_some hm h
  refine in_lookB hi (by omega) (findP_of (by omega) e ?_)
  unfold fAt
  rw [if_neg (by omega)]
  exact hf
/-- Of what is never reached nothing else is found. -/
theorem never_alone (hm : MetOf c f) (h8 : (8, p) ∈ lookB c f) {k : Nat} (h : (k, p) ∈ lookB c f) : k = 8 := by
  by_cases hk : k = 8
  · exact hk
  · obtain ⟨i, h1, h2⟩ := of_lookB h
    obtain ⟨w, m, _, hc, _⟩ := findP_way hm hk h2
    exact absurd h8 (not_never hm hc)
/-- What is found is of an instruction of its kind. -/
theorem fits (hm : MetOf c f) {k : Nat} (h : (k, p) ∈ lookB c f) : ∃ i, c[p]? = some i ∧ (k = 1 ∧ legalP i = false ∨ k = 2 ∧ i.op = 18 ∨ k = 3 ∧ i.op = 17 ∨ k = 4 ∧ i.op = 1 ∨ k = 5 ∧ legalP i = true ∧ i.op ≠ 1 ∨
    k = 6 ∧ legalP i = true ∧ 13 ≤ i.op ∧ i.op ≤ 16 ∧ (i.imm < 0 ∨ 1024 < i.imm) ∨ k = 7 ∧ legalP i = true ∨ k = 8 ∧ 0 < p) := by
  obtain ⟨h9, _⟩ := mem_lookB.1 h
  obtain ⟨i, h1, h2⟩ := of_lookB h
  refine ⟨i, h1, ?_⟩
  by_cases hk : k = 8
  · subst hk
    iterate 7 right
    refine ⟨rfl, ?_⟩
    cases p with
    | zero => exact absurd h (not_never hm .start)
    | succ p => omega
  · obtain ⟨w, m, _, _, h3⟩ := findP_way hm hk h2
    unfold fAt at h3
    simp only at h9 h3
    split at h3
    · rename_i e; subst e
      rw [Bool.and_eq_true] at h3
      iterate 6 right
      exact .inl ⟨rfl, h3.1⟩
    · unfold findI at h3
      split at h3
      · left; exact ⟨rfl, by simpa using h3⟩
      · right; left; simp only [Bool.and_eq_true, beq_iff_eq] at h3; exact ⟨rfl, h3.1⟩
      · right; right; left; simp only [Bool.and_eq_true, beq_iff_eq] at h3; exact ⟨rfl, h3.1⟩
      · right; right; right; left; simp only [Bool.and_eq_true, beq_iff_eq] at h3; exact ⟨rfl, h3.1⟩
      · iterate 4 right
        left
        rw [List.any_eq_true] at h3
        obtain ⟨t, ht, _⟩ := h3
        exact ⟨rfl, lgoI_legal ht⟩
      · iterate 5 right
        left
        simp only [isGo, isPl, Bool.and_eq_true, decide_eq_true_eq, Bool.not_eq_true', Bool.and_eq_false_iff, decide_eq_false_iff_not] at h3
        obtain ⟨⟨h4, h5, h6⟩, h7⟩ := h3
        exact ⟨rfl, h4, h5, h6, by omega⟩
      · cases h3
end
end Go.Proofs.YteijhcibdglkeaaGreatDoor
