/- Where ways come in a program, and what is found in it, as plain functions. Conditions: those stated in each theorem. -/
import Derived.Test.YteijhcibdglkeaaGreatDoorIsaP
namespace Go.Proofs.YteijhcibdglkeaaGreatDoor

/-! ### Ways -/
/-- A place, and whether it is within a block. -/
abbrev Spot := Nat × Bool
def isPl (n : Int) : Bool := decide (0 ≤ n) && decide (n ≤ 1024)
/-- Where a way goes on from a spot. -/
def lgoI (i : In) (s : Spot) : List Spot :=
  if legalP i = false ∨ i.op = 1 then []
  else if i.op = 17 then (if s.2 then [] else [(s.1 + 1, true)])
  else if i.op = 18 then (if s.2 then [(s.1 + 1, false)] else [])
  else if i.op = 13 then (if isPl i.imm then [(i.imm.toNat, s.2)] else [])
  else if i.op = 14 ∨ i.op = 15 ∨ i.op = 16 then (if isPl i.imm then [(i.imm.toNat, s.2)] else []) ++ [(s.1 + 1, s.2)]
  else [(s.1 + 1, s.2)]
/-- The register that an instruction sets; -1: none. -/
def setsI (i : In) : Int := if 2 ≤ i.op ∧ i.op ≤ 11 then i.a else -1
/-- Those that it reads. -/
def readsI (i : In) : List Int :=
  if i.op = 3 ∨ i.op = 11 then [i.b]
  else if 4 ≤ i.op ∧ i.op ≤ 10 then [i.b, i.c]
  else if i.op = 12 ∨ i.op = 14 ∨ i.op = 15 ∨ i.op = 16 then [i.a, i.b]
  else []
def kills (q : Option Nat) (i : In) : Bool := match q with | none => false | some r => decide (setsI i = (r : Int))
/-- A way comes to the spot, on which register q is not set (none: any way). -/
inductive Cm (c : List In) (q : Option Nat) : Spot → Prop
  | start : Cm c q (0, false)
  | step {s t : Spot} {i : In} : Cm c q s → c[s.1]? = some i → kills q i = false → t ∈ lgoI i s → Cm c q t
theorem lgoI_le {i : In} {s t : Spot} {n : Nat} (h : t ∈ lgoI i s) (hn : s.1 < n) (hm : n ≤ 1024) : t.1 ≤ 1024 := by
  have hp : ∀ (b : Bool), t ∈ (if isPl i.imm then [(i.imm.toNat, b)] else []) → t.1 ≤ 1024 := fun b h => by
    split at h
    · rename_i hh
      simp only [isPl, Bool.and_eq_true, decide_eq_true_eq] at hh
      simp only [List.mem_singleton] at h
      subst h; simp only; omega
    · cases h
  have hq : ∀ (b : Bool), t ∈ [(s.1 + 1, b)] → t.1 ≤ 1024 := fun b h => by
    simp only [List.mem_singleton] at h
    subst h; simp only; omega
  unfold lgoI at h
  by_cases h1 : legalP i = false ∨ i.op = 1
  · rw [if_pos h1] at h; cases h
  rw [if_neg h1] at h
  by_cases h2 : i.op = 17
  · rw [if_pos h2] at h
    split at h
    · cases h
    · exact hq _ h
  rw [if_neg h2] at h
  by_cases h3 : i.op = 18
  · rw [if_pos h3] at h
    split at h
    · exact hq _ h
    · cases h
  rw [if_neg h3] at h
  by_cases h4 : i.op = 13
  · rw [if_pos h4] at h; exact hp _ h
  rw [if_neg h4] at h
  by_cases h5 : i.op = 14 ∨ i.op = 15 ∨ i.op = 16
  · rw [if_pos h5] at h
    rcases List.mem_append.1 h with h | h
    · exact hp _ h
    · exact hq _ h
  rw [if_neg h5] at h
  exact hq _ h
theorem Cm.le {c : List In} {q : Option Nat} {s : Spot} (h : Cm c q s) (hc : c.length ≤ 1024) : s.1 ≤ 1024 := by
  cases h with
  | start => simp
  | step hs hi _ ht => exact lgoI_le ht (List.getElem?_eq_some_iff.1 hi).1 hc
theorem Cm.any {c : List In} {q : Option Nat} {s : Spot} (h : Cm c q s) : Cm c none s := by
  induction h with
  | start => exact .start
  | step _ hi _ ht ih => exact .step ih hi rfl ht
theorem lgoI_legal {i : In} {s t : Spot} (h : t ∈ lgoI i s) : legalP i = true ∧ i.op ≠ 1 := by
  unfold lgoI at h
  split at h
  · cases h
  · rename_i hh
    simp only [not_or, Bool.not_eq_false] at hh
    exact hh

theorem legal_sets {i : In} (h : legalP i = true) (h2 : 2 ≤ i.op) (h11 : i.op ≤ 11) : 0 ≤ i.a ∧ i.a < 8 := by
  simp only [legalP, Bool.and_eq_true, List.all_eq_true] at h
  obtain ⟨k, hk⟩ : ∃ k : Nat, i.op = k := ⟨i.op.toNat, by omega⟩
  have key : ∀ k : Fin 19, 2 ≤ k.val → k.val ≤ 11 → 1 ∈ regPl (mask k.val) := by decide
  have := h.2 1 (by rw [hk, Int.toNat_natCast]; exact key ⟨k, by omega⟩ (by simp only; omega) (by simp only; omega))
  simp only [regOk, In.get, Bool.and_eq_true, decide_eq_true_eq] at this
  exact this
theorem legal_reads {i : In} (h : legalP i = true) {r : Int} (hr : r ∈ readsI i) : 0 ≤ r ∧ r < 8 := by
  simp only [legalP, Bool.and_eq_true, decide_eq_true_eq, List.all_eq_true] at h
  obtain ⟨k, hk⟩ : ∃ k : Nat, i.op = k := ⟨i.op.toNat, by omega⟩
  have k1 : ∀ k : Fin 19, (k.val = 12 ∨ k.val = 14 ∨ k.val = 15 ∨ k.val = 16) → 1 ∈ regPl (mask k.val) := by decide
  have k2 : ∀ k : Fin 19, (3 ≤ k.val ∧ k.val ≤ 12 ∨ 14 ≤ k.val ∧ k.val ≤ 16) → 2 ∈ regPl (mask k.val) := by decide
  have k3 : ∀ k : Fin 19, (4 ≤ k.val ∧ k.val ≤ 10) → 3 ∈ regPl (mask k.val) := by decide
  have get : ∀ j, j ∈ regPl (mask k) → 0 ≤ i.get j ∧ i.get j < 8 := fun j hj => by
    have := h.2 j (by rw [hk, Int.toNat_natCast]; exact hj)
    simpa only [regOk, Bool.and_eq_true, decide_eq_true_eq] using this
  have hlt : k < 19 := by omega
  unfold readsI at hr
  split at hr
  · simp only [List.mem_singleton] at hr; subst hr; exact get 2 (k2 ⟨k, hlt⟩ (by simp only; omega))
  · split at hr
    · simp only [List.mem_cons, List.not_mem_nil, or_false] at hr
      rcases hr with rfl | rfl
      · exact get 2 (k2 ⟨k, hlt⟩ (by simp only; omega))
      · exact get 3 (k3 ⟨k, hlt⟩ (by simp only; omega))
    · split at hr
      · simp only [List.mem_cons, List.not_mem_nil, or_false] at hr
        rcases hr with rfl | rfl
        · exact get 1 (k1 ⟨k, hlt⟩ (by simp only; omega))
        · exact get 2 (k2 ⟨k, hlt⟩ (by simp only; omega))
      · cases hr

/-! ### What was met -/
def andn (m b : Nat) : Nat := m ^^^ (m &&& b)
theorem andn_bit (m b r : Nat) : (andn m b).testBit r = (m.testBit r && !b.testBit r) := by
  unfold andn; simp only [Nat.testBit_xor, Nat.testBit_and]; cases m.testBit r <;> cases b.testBit r <;> rfl
theorem andn_lt {m b : Nat} (h : m < 256) : andn m b < 256 := by
  have h1 : m &&& b < 2 ^ 8 := Nat.lt_of_le_of_lt Nat.and_le_left h
  exact Nat.xor_lt_two_pow (n := 8) h h1
/-- The registers that an instruction sets, as bits. -/
def setsM (i : In) : Nat := if 2 ≤ i.op ∧ i.op ≤ 11 then 2 ^ i.a.toNat else 0
abbrev MV := Spot → Option Nat
def MV.put (f : MV) (s : Spot) (m : Nat) : MV := fun t => if t = s then some m else f t
def mv0 : MV := fun t => if t = (0, false) then some 255 else none
/-- What a way brings that goes on from a spot, where these may be unset. -/
def brings (i : In) (m : Nat) : Nat := andn m (setsM i)
/-- All ways from a spot are gone on. -/
def Gone (c : List In) (f : MV) (s : Spot) (m : Nat) : Prop := ∀ i t, c[s.1]? = some i → t ∈ lgoI i s → ∃ m', f t = some m' ∧ m' ||| brings i m = m'
/-- What stands while the ways on the list L are not gone on. -/
structure MInv (c : List In) (f : MV) (L : List Spot) : Prop where
  first : f (0, false) = some 255
  in_ : ∀ s ∈ L, (f s).isSome = true
  lt : ∀ s m, f s = some m → m < 256
  came : ∀ s m, f s = some m → Cm c none s
  bits : ∀ s m r, f s = some m → m.testBit r = true → Cm c (some r) s
  gone : ∀ s m, f s = some m → s ∈ L ∨ Gone c f s m
theorem minv_start (c : List In) : MInv c mv0 [(0, false)] := by
  refine ⟨rfl, fun s h => ?_, fun s m h => ?_, fun s m h => ?_, fun s m r h _ => ?_, fun s m h => ?_⟩
  · simp only [List.mem_singleton] at h; subst h; rfl
  all_goals (unfold mv0 at h; split at h; rotate_left; (cases h); rename_i e; subst e; cases h)
  · omega
  · exact .start
  · exact .start
  · exact .inl (by simp)
theorem MInv.brought {c : List In} {f : MV} {L : List Spot} (h : MInv c f L) {s t : Spot} {m : Nat} {i : In} (hs : f s = some m) (hi : c[s.1]? = some i) (ht : t ∈ lgoI i s) (r : Nat) (hb : (brings i m).testBit r = true) : Cm c (some r) t := by
  unfold brings at hb
  rw [andn_bit, Bool.and_eq_true] at hb
  refine .step (h.bits s m r hs hb.1) hi ?_ ht
  have h2 := hb.2
  unfold setsM at h2
  unfold kills setsI
  split at h2
  · rename_i e
    rw [if_pos e, decide_eq_false_iff_not]
    intro e2
    have h0 := (legal_sets (lgoI_legal ht).1 e.1 e.2).1
    have : i.a.toNat = r := by omega
    rw [this, Nat.testBit_two_pow_self] at h2
    cases h2
  · rename_i e
    rw [if_neg e, decide_eq_false_iff_not]
    omega
/-- A spot is met with more. -/
theorem MInv.push {c : List In} {f : MV} {L : List Spot} (h : MInv c f L) {s t : Spot} {m : Nat} {i : In} (hs : f s = some m) (hi : c[s.1]? = some i) (ht : t ∈ lgoI i s) : MInv c (f.put t ((f t).getD 0 ||| brings i m)) (L ++ [t]) := by
  have hnew : ∀ x y, (f.put t ((f t).getD 0 ||| brings i m)) x = some y → (x = t ∧ y = (f t).getD 0 ||| brings i m) ∨ (x ≠ t ∧ f x = some y) := fun x y e => by
    unfold MV.put at e
    split at e
    · cases e; exact .inl ⟨‹_›, rfl⟩
    · exact .inr ⟨‹_›, e⟩
  have hgt : ∀ x, x < 256 → (f t).getD 0 ||| x < 256 := fun x hx => by
    refine Nat.or_lt_two_pow (n := 8) ?_ hx
    cases e : f t with
    | none => simp
    | some y => exact h.lt _ _ e
  have hkeep : ∀ x y, f x = some y → ∃ y', (f.put t ((f t).getD 0 ||| brings i m)) x = some y' ∧ y' ||| y = y' := fun x y e => by
    unfold MV.put
    by_cases hx : x = t
    · subst hx
      rw [if_pos rfl, e]
      refine ⟨_, rfl, ?_⟩
      simp only [Option.getD_some]
      rw [Nat.or_assoc, Nat.or_comm (brings i m) y, ← Nat.or_assoc, Nat.or_self]
    · rw [if_neg hx]; exact ⟨y, e, Nat.or_self y⟩
  refine ⟨?_, ?_, ?_, ?_, ?_, ?_⟩
  · unfold MV.put
    split
    · rename_i e
      rw [← e, h.first]
      simp only [Option.getD_some]
      congr 1
      have hb : brings i m < 256 := andn_lt (h.lt _ _ hs)
      generalize brings i m = b at hb
      have : ∀ x : Fin 256, 255 ||| x.val = 255 := by decide +kernel
      exact this ⟨b, hb⟩
    · exact h.first
  · intro x hx
    unfold MV.put
    split
    · rfl
    · rcases List.mem_append.1 hx with hx | hx
      · exact h.in_ x hx
      · simp only [List.mem_singleton] at hx; contradiction
  · intro x y e
    rcases hnew x y e with ⟨rfl, rfl⟩ | ⟨_, e⟩
    · exact hgt _ (andn_lt (h.lt _ _ hs))
    · exact h.lt _ _ e
  · intro x y e
    rcases hnew x y e with ⟨rfl, rfl⟩ | ⟨_, e⟩
    · exact .step (h.came _ _ hs) hi rfl ht
    · exact h.came _ _ e
  · intro x y r e hb
    rcases hnew x y e with ⟨rfl, rfl⟩ | ⟨_, e⟩
    · rw [Nat.testBit_or, Bool.or_eq_true] at hb
      rcases hb with hb | hb
      · cases e2 : f x with
        | none => rw [e2] at hb; simp at hb
        | some y => rw [e2] at hb; exact h.bits _ _ _ e2 hb
      · exact h.brought hs hi ht r hb
    · exact h.bits _ _ _ e hb
  · intro x y e
    rcases hnew x y e with ⟨rfl, rfl⟩ | ⟨hx, e⟩
    · exact .inl (by simp)
    · rcases h.gone x y e with h1 | h1
      · exact .inl (List.mem_append_left _ h1)
      · refine .inr fun j u hj hu => ?_
        obtain ⟨m', e1, e2⟩ := h1 j u hj hu
        obtain ⟨y', e3, e4⟩ := hkeep u m' e1
        refine ⟨y', e3, ?_⟩
        rw [← e4, Nat.or_assoc, e2]
/-- All ways from the last one are gone on. -/
theorem MInv.pop {c : List In} {f : MV} {L : List Spot} {s : Spot} (h : MInv c f (L ++ [s])) (hd : ∀ m, f s = some m → Gone c f s m) : MInv c f L := by
  refine ⟨h.first, fun x hx => h.in_ x (List.mem_append_left _ hx), h.lt, h.came, h.bits, fun x y e => ?_⟩
  rcases h.gone x y e with h1 | h1
  · rcases List.mem_append.1 h1 with h1 | h1
    · exact .inl h1
    · simp only [List.mem_singleton] at h1; subst h1; exact .inr (hd y e)
  · exact .inr h1
/-- The whole. -/
def MetOf (c : List In) (f : MV) : Prop := ∀ s, ((f s).isSome = true ↔ Cm c none s) ∧ ∀ m, f s = some m → m < 256 ∧ ∀ r, r < 8 → (m.testBit r = true ↔ Cm c (some r) s)
theorem MInv.done {c : List In} {f : MV} (h : MInv c f []) : MetOf c f := by
  have hall : ∀ q s, Cm c q s → ∃ m, f s = some m ∧ ∀ r, r < 8 → q = some r → m.testBit r = true := by
    intro q s hs
    induction hs with
    | start =>
      refine ⟨255, h.first, fun r hr _ => ?_⟩
      have : ∀ x : Fin 8, (255 : Nat).testBit x.val = true := by decide
      exact this ⟨r, hr⟩
    | @step s t i hs hi hk ht ih =>
      obtain ⟨m, e, hm⟩ := ih
      rcases h.gone s m e with h1 | h1
      · cases h1
      obtain ⟨m', e1, e2⟩ := h1 i t hi ht
      refine ⟨m', e1, fun r hr hq => ?_⟩
      rw [← e2, Nat.testBit_or]
      have : (brings i m).testBit r = true := by
        unfold brings
        rw [andn_bit, hm r hr hq, Bool.true_and]
        subst hq
        unfold kills setsI at hk
        rw [decide_eq_false_iff_not] at hk
        unfold setsM
        split
        · rename_i e3
          rw [if_pos e3] at hk
          rw [Nat.testBit_two_pow]
          simp only [Bool.not_eq_true', decide_eq_false_iff_not]
          intro e4
          by_cases h0 : 0 ≤ i.a
          · omega
          · have hl := (lgoI_legal ht).1
            exact absurd (legal_sets hl e3.1 e3.2).1 h0
        · simp
      rw [this, Bool.or_true]
  intro s
  refine ⟨⟨fun hs => ?_, fun hs => ?_⟩, fun m e => ⟨h.lt _ _ e, fun r hr => ⟨fun hb => h.bits _ _ _ e hb, fun hc => ?_⟩⟩⟩
  · obtain ⟨m, e⟩ := Option.isSome_iff_exists.1 hs
    exact h.came _ _ e
  · obtain ⟨m, e, _⟩ := hall _ _ hs
    rw [e]; rfl
  · obtain ⟨m', e', hm⟩ := hall _ _ hc
    rw [e] at e'; cases e'
    exact hm r hr rfl
end Go.Proofs.YteijhcibdglkeaaGreatDoor
