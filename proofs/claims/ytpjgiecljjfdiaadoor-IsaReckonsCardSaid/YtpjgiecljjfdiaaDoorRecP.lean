/- Numbers modulo 2^64: what the law reckons, as plain facts. Conditions: those stated in each theorem. -/
import Derived.Test.YtpjgiecljjfdiaaDoorIsaC
import Derived.Laws.Bits64b
namespace Go.Proofs.YtpjgiecljjfdiaaDoor

theorem xor_and (n : Nat) : ∀ a b : Nat, a ≤ n → (a ^^^ b) + 2 * (a &&& b) = a + b := by
  induction n using Nat.strongRecOn with
  | ind n ih =>
    intro a b h
    by_cases h0 : a = 0
    · subst h0; simp
    · have h1 := ih (n / 2) (by omega) (a / 2) (b / 2) (by omega)
      have e1 := Nat.xor_div_two (a := a) (b := b)
      have e2 := Nat.and_div_two (a := a) (b := b)
      have e3 : (a ^^^ b) % 2 = (a % 2) ^^^ (b % 2) := by
        have := Nat.xor_mod_two_pow (a := a) (b := b) (n := 1)
        simpa only [Nat.pow_one] using this
      have e4 : (a &&& b) % 2 = (a % 2) &&& (b % 2) := by
        have := Nat.and_mod_two_pow (a := a) (b := b) (n := 1)
        simpa only [Nat.pow_one] using this
      have ha : a % 2 = 0 ∨ a % 2 = 1 := by omega
      have hb : b % 2 = 0 ∨ b % 2 = 1 := by omega
      rw [← e1, ← e2] at h1
      rcases ha with ha | ha <;> rcases hb with hb | hb <;> rw [ha, hb] at e3 e4
      · have e5 : (a ^^^ b) % 2 = 0 := e3
        have e6 : (a &&& b) % 2 = 0 := e4
        omega
      · have e5 : (a ^^^ b) % 2 = 1 := e3
        have e6 : (a &&& b) % 2 = 0 := e4
        omega
      · have e5 : (a ^^^ b) % 2 = 1 := e3
        have e6 : (a &&& b) % 2 = 0 := e4
        omega
      · have e5 : (a ^^^ b) % 2 = 0 := e3
        have e6 : (a &&& b) % 2 = 1 := e4
        omega

theorem w64 (n : Int) : U64 (IntKind.u64.wrap n) := by rw [IntKind.wrap_u64]; unfold U64; omega
theorem back_add {a b : Int} (ha : U64 a) (hb : U64 b) : IntKind.u64.wrap (IntKind.u64.wrap (a + b) - b) = a := by
  unfold U64 at *; rw [IntKind.wrap_u64, IntKind.wrap_u64]; omega
theorem xor_u {a b : Int} (ha : U64 a) (hb : U64 b) : U64 (Go.bits .xor .u64 a b) := by
  unfold U64 at ha hb
  obtain ⟨x, rfl⟩ : ∃ x : Nat, a = x := ⟨a.toNat, by omega⟩
  obtain ⟨y, rfl⟩ : ∃ y : Nat, b = y := ⟨b.toNat, by omega⟩
  rw [bits_xor_u64_nat x y (by omega) (by omega)]
  have : x ^^^ y < 2 ^ 64 := Nat.xor_lt_two_pow (by omega) (by omega)
  unfold U64; omega
theorem and_u {a b : Int} (ha : U64 a) (hb : U64 b) : U64 (Go.bits .and .u64 a b) := by
  unfold U64 at ha hb
  obtain ⟨x, rfl⟩ : ∃ x : Nat, a = x := ⟨a.toNat, by omega⟩
  obtain ⟨y, rfl⟩ : ∃ y : Nat, b = y := ⟨b.toNat, by omega⟩
  rw [bits_and_u64_nat x y (by omega) (by omega)]
  have : x &&& y < 2 ^ 64 := Nat.and_lt_two_pow _ (by omega)
  unfold U64; omega
theorem carry_add {a b : Int} (ha : U64 a) (hb : U64 b) : IntKind.u64.wrap (Go.bits .xor .u64 a b + IntKind.u64.wrap (Go.bits .and .u64 a b + Go.bits .and .u64 a b)) = IntKind.u64.wrap (a + b) := by
  unfold U64 at ha hb
  obtain ⟨x, rfl⟩ : ∃ x : Nat, a = x := ⟨a.toNat, by omega⟩
  obtain ⟨y, rfl⟩ : ∃ y : Nat, b = y := ⟨b.toNat, by omega⟩
  rw [bits_xor_u64_nat x y (by omega) (by omega), bits_and_u64_nat x y (by omega) (by omega), IntKind.wrap_u64, IntKind.wrap_u64, IntKind.wrap_u64]
  have := xor_and x x y (Nat.le_refl _)
  omega
theorem pow_lt {c : Int} (hc : U64 c) : (0 : Int) < 2 ^ (c % 64).toNat ∧ (2 : Int) ^ (c % 64).toNat < 18446744073709551616 ∧ ∃ d : Int, (18446744073709551616 : Int) = 2 ^ (c % 64).toNat * d := by
  have hs : (c % 64).toNat < 64 := by omega
  generalize (c % 64).toNat = s at *
  have h1 : (2 : Nat) ^ s < 2 ^ 64 := Nat.pow_lt_pow_right (by omega) hs
  have h2 : (2 : Nat) ^ 64 = 2 ^ s * 2 ^ (64 - s) := by rw [← Nat.pow_add]; congr 1; omega
  have h3 : ((2 ^ s : Nat) : Int) = 2 ^ s := by simp
  have h4 : 0 < (2 : Nat) ^ s := Nat.pow_pos (by omega)
  refine ⟨by rw [← h3]; omega, by rw [← h3]; omega, ((2 ^ (64 - s) : Nat) : Int), ?_⟩
  rw [← h3, ← Int.natCast_mul, ← h2]; rfl
theorem one_shl {c : Int} (hc : U64 c) : IntKind.u64.wrap (1 * 2 ^ (c % 64).toNat) = 2 ^ (c % 64).toNat := by
  obtain ⟨h0, h1, -⟩ := pow_lt hc
  rw [IntKind.wrap_u64, Int.one_mul]
  exact Int.emod_eq_of_lt (by omega) h1
theorem shl_shr {a c : Int} (hc : U64 c) : IntKind.u64.wrap (IntKind.u64.wrap (a * 2 ^ (c % 64).toNat) / 2 ^ (c % 64).toNat * 2 ^ (c % 64).toNat) = IntKind.u64.wrap (a * 2 ^ (c % 64).toNat) := by
  obtain ⟨h0, h1, d, hd⟩ := pow_lt hc
  generalize (2 : Int) ^ (c % 64).toNat = p at *
  have hm : IntKind.u64.wrap (a * p) = p * (a % d) := by
    rw [IntKind.wrap_u64, hd, Int.mul_comm a p, Int.mul_emod_mul_of_pos _ _ h0]
  have hq : IntKind.u64.wrap (a * p) / p * p = IntKind.u64.wrap (a * p) := by rw [hm, Int.mul_ediv_cancel_left _ (by omega), Int.mul_comm]
  rw [hq]
  have h3 := w64 (a * p)
  unfold U64 at h3
  rw [IntKind.wrap_u64 (IntKind.u64.wrap (a * p))]
  exact Int.emod_eq_of_lt h3.1 (by omega)

/-- What an operation of two registers leaves. -/
theorem do_reck {op a b c : Nat} (h : 4 ≤ op ∧ op ≤ 10) (hb : b < 8) (hc : c < 8) (ha : a < 8) (x : L8) : (doP ⟨op, a, b, c, 0⟩ x 0).val = reckP op (x.get b) (x.get c) := by
  have hl : legalP ⟨op, a, b, c, 0⟩ = true := by
    obtain ⟨h4, h10⟩ := h
    match op, h4, h10 with
    | 4, _, _ | 5, _, _ | 6, _, _ | 7, _, _ | 8, _, _ | 9, _, _ | 10, _, _ =>
      have e : regPl (mask 4) = [1, 2, 3] := by decide
      simp only [legalP, Bool.and_eq_true, decide_eq_true_eq, List.all_eq_true]
      refine ⟨by omega, fun k hk => ?_⟩
      have : k = 1 ∨ k = 2 ∨ k = 3 := by
        have h2 := List.mem_filter.1 hk
        have h3 := List.mem_range.1 h2.1
        have := h2.2
        match k, h3, this with
        | 1, _, _ => omega | 2, _, _ => omega | 3, _, _ => omega
      rcases this with rfl | rfl | rfl <;> simp [regOk, In.get] <;> omega
  unfold doP
  rw [if_neg (by rw [hl]; simp), if_neg (by simp only; omega), if_neg (by simp only; omega), if_neg (by simp only; omega), if_neg (by simp only; omega), if_neg (by simp only; omega), if_neg (by simp only; omega)]
  simp only [valueP]
  rw [if_neg (by omega), if_neg (by omega)]
  simp

end Go.Proofs.YtpjgiecljjfdiaaDoor
