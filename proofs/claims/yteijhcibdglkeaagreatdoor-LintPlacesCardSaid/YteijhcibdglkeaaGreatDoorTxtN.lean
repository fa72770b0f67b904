/- Decimal numerals: read again what was written. No conditions but those stated. -/
import Derived.Test.YteijhcibdglkeaaGreatDoorTxtA
import Derived.Lib.AtoiAll
import Derived.Lib.ItoaNum
namespace Go.Proofs.YteijhcibdglkeaaGreatDoor

theorem digit_nat {d : Nat} (h : d < 10) : (UInt8.ofNat (48 + d)).toNat = 48 + d := by
  simp [UInt8.toNat_ofNat']; omega
theorem parse_one {acc d : Nat} (hd : d < 10) (hu : acc * 10 + d < 18446744073709551616) (l : List UInt8) : Lib.parseUint10 acc (UInt8.ofNat (48 + d) :: l) = Lib.parseUint10 (acc * 10 + d) l := by
  rw [Lib.parseUint10, digit_nat hd, if_pos (by omega), if_neg (by omega), if_neg (by omega)]
  congr 1
  omega
theorem parse_digits (u : Nat) : u < 18446744073709551616 → ∀ l, Lib.parseUint10 0 (Lib.decDigits u ++ l) = Lib.parseUint10 u l := by
  induction u using Nat.strongRecOn with
  | ind u ih =>
    intro hu l
    rw [Lib.decDigits]
    split
    · rename_i h
      rw [List.singleton_append, parse_one h (by omega)]
      congr 1; omega
    · rename_i h
      rw [List.append_assoc, ih (u / 10) (by omega) (by omega), List.singleton_append, parse_one (by omega) (by omega)]
      congr 1; omega
theorem digits_ne (u : Nat) : Lib.decDigits u ≠ [] := by
  rw [Lib.decDigits]; split <;> simp
theorem digits_mem (u : Nat) : ∀ b ∈ Lib.decDigits u, 48 ≤ b.toNat ∧ b.toNat ≤ 57 := by
  induction u using Nat.strongRecOn with
  | ind u ih =>
    intro b hb
    rw [Lib.decDigits] at hb
    split at hb
    · rename_i h
      rw [List.mem_singleton.1 hb, digit_nat h]; omega
    · rename_i h
      rcases List.mem_append.1 hb with hb | hb
      · exact ih (u / 10) (by omega) b hb
      · rw [List.mem_singleton.1 hb, digit_nat (by omega)]; omega
theorem parse_mag {u : Nat} (hu : u < 18446744073709551616) : Lib.parseMag (Lib.decDigits u) = .ok u := by
  have := parse_digits u hu []
  rw [List.append_nil] at this
  rw [Lib.parseMag, if_neg (digits_ne u), this]; rfl
/-- What was written is read. -/
theorem atoi_itoa (n : Int) (h : I64 n) : Lib.atoiAll (Lib.itoa n) = .ok n := by
  obtain ⟨h0, h1⟩ := h
  unfold Lib.itoa
  split
  · rename_i hn
    have h45 : (45 : UInt8).toNat = 45 := rfl
    simp only [Lib.atoiAll, h45, or_true, if_true, parse_mag (u := n.natAbs) (by omega)]
    simp only [not_true, false_and, if_false, true_and]
    rw [if_neg (by omega)]
    congr 1; omega
  · rename_i hn
    have hp := parse_mag (u := n.toNat) (by omega)
    have hm := digits_mem n.toNat
    cases hd : Lib.decDigits n.toNat with
    | nil => exact absurd hd (digits_ne _)
    | cons c r =>
      rw [hd] at hp hm
      have hc := hm c (by simp)
      simp only [Lib.atoiAll]
      rw [if_neg (by omega), hp]
      simp only
      rw [if_neg (by omega), if_neg (by omega), if_neg (by omega)]
      congr 1; omega
theorem itoa_byte (n : Int) : ∀ b ∈ Lib.itoa n, b ≠ 32 := by
  intro b hb e
  subst e
  unfold Lib.itoa at hb
  split at hb
  · rcases List.mem_cons.1 hb with hb | hb
    · cases hb
    · have := digits_mem _ _ hb
      exact absurd this.1 (by decide)
  · have := digits_mem _ _ hb
    exact absurd this.1 (by decide)
theorem itoa_ne (n : Int) : Lib.itoa n ≠ [] := by
  unfold Lib.itoa; split
  · simp
  · exact digits_ne _

end Go.Proofs.YteijhcibdglkeaaGreatDoor
