/- What is found in a closed program, reckoned. Conditions: those stated in each theorem. -/
import Derived.Test.YteijhcibdglkeaaGreatDoorLntQ
namespace Go.Proofs.YteijhcibdglkeaaGreatDoor

def moreR (c : List In) (q : Option Nat) (R : List Spot) : List Spot := R.flatMap fun s => match c[s.1]? with | none => [] | some i => if kills q i then [] else lgoI i s
def reachN (c : List In) (q : Option Nat) : Nat → List Spot
  | 0 => [(0, false)]
  | n + 1 => reachN c q n ++ (moreR c q (reachN c q n)).filter fun t => !(reachN c q n).contains t
theorem reach_sound (c : List In) (q : Option Nat) : ∀ (n : Nat) (s : Spot), s ∈ reachN c q n → Cm c q s
  | 0, s, h => by simp only [reachN, List.mem_singleton] at h; subst h; exact .start
  | n + 1, s, h => by
    unfold reachN at h
    rcases List.mem_append.1 h with h | h
    · exact reach_sound c q n s h
    · have h2 := (List.mem_filter.1 h).1
      unfold moreR at h2
      obtain ⟨t, ht, hs⟩ := List.mem_flatMap.1 h2
      split at hs
      · cases hs
      · rename_i i hi
        split at hs
        · cases hs
        · rename_i hk
          exact .step (reach_sound c q n t ht) hi (by simpa using hk) hs
def shutR (c : List In) (q : Option Nat) (R : List Spot) : Bool := R.contains (0, false) && (moreR c q R).all fun t => R.contains t
theorem reach_all {c : List In} {q : Option Nat} {R : List Spot} (h : shutR c q R = true) {s : Spot} (hs : Cm c q s) : s ∈ R := by
  unfold shutR at h
  rw [Bool.and_eq_true, List.all_eq_true] at h
  induction hs with
  | start => simpa using h.1
  | @step s t i _ hi hk ht ih =>
    have := h.2 t (by
      unfold moreR
      refine List.mem_flatMap.2 ⟨s, ih, ?_⟩
      rw [hi]
      simp only [hk, Bool.false_eq_true, if_false]
      exact ht)
    simpa using this
def maskB (b0 b1 b2 b3 b4 b5 b6 b7 : Bool) : Nat := (if b0 then 1 else 0) ||| (if b1 then 2 else 0) ||| (if b2 then 4 else 0) ||| (if b3 then 8 else 0) ||| (if b4 then 16 else 0) ||| (if b5 then 32 else 0) ||| (if b6 then 64 else 0) ||| (if b7 then 128 else 0)
theorem mask_lt256 : ∀ b0 b1 b2 b3 b4 b5 b6 b7 : Bool, maskB b0 b1 b2 b3 b4 b5 b6 b7 < 256 := by decide +kernel
theorem mask_bit : ∀ b0 b1 b2 b3 b4 b5 b6 b7 : Bool, ∀ r : Fin 8, (maskB b0 b1 b2 b3 b4 b5 b6 b7).testBit r.val = [b0, b1, b2, b3, b4, b5, b6, b7][r.val]! := by decide +kernel
def depth (c : List In) : Nat := 2 * c.length + 2
def inR (c : List In) (q : Option Nat) (s : Spot) : Bool := (reachN c q (depth c)).contains s
def fC (c : List In) : MV := fun s => if inR c none s then some (maskB (inR c (some 0) s) (inR c (some 1) s) (inR c (some 2) s) (inR c (some 3) s) (inR c (some 4) s) (inR c (some 5) s) (inR c (some 6) s) (inR c (some 7) s)) else none
def chkC (c : List In) : Bool := shutR c none (reachN c none (depth c)) && (List.range 8).all fun r => shutR c (some r) (reachN c (some r) (depth c))
theorem met_closed {c : List In} (h : chkC c = true) : MetOf c (fC c) := by
  unfold chkC at h
  rw [Bool.and_eq_true, List.all_eq_true] at h
  have hin : ∀ q, shutR c q (reachN c q (depth c)) = true → ∀ s, inR c q s = true ↔ Cm c q s := fun q hq s =>
    ⟨fun hs => reach_sound c q _ s (by simpa [inR] using hs), fun hs => by simpa [inR] using reach_all hq hs⟩
  have h8 : ∀ r, r < 8 → ∀ s, inR c (some r) s = true ↔ Cm c (some r) s := fun r hr => hin (some r) (h.2 r (List.mem_range.2 hr))
  intro s
  refine ⟨?_, fun m hm => ?_⟩
  · rw [← hin none h.1]
    unfold fC
    split
    · simp [*]
    · simp [*]
  · unfold fC at hm
    split at hm
    · cases hm
      refine ⟨mask_lt256 _ _ _ _ _ _ _ _, fun r hr => ?_⟩
      rw [mask_bit _ _ _ _ _ _ _ _ ⟨r, hr⟩, ← h8 r hr]
      match r, hr with
      | 0, _ | 1, _ | 2, _ | 3, _ | 4, _ | 5, _ | 6, _ | 7, _ => exact Iff.rfl
    · cases hm
theorem look_closed {c : List In} {L : List (Nat × Nat)} (h : chkC c = true ∧ lookB c (fC c) = L) {f : MV} (hf : MetOf c f) : lookB c f = L := by
  have : f = fC c := hf.eq (met_closed h.1)
  rw [this]; exact h.2
end Go.Proofs.YteijhcibdglkeaaGreatDoor
