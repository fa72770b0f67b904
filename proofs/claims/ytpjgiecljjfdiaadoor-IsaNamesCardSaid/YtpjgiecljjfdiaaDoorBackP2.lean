/- Written and read again: the plain facts. No conditions but those stated. -/
import Derived.Test.YtpjgiecljjfdiaaDoorEncB
import Derived.Test.YtpjgiecljjfdiaaDoorEncE
import Derived.Test.YtpjgiecljjfdiaaDoorDecD
namespace Go.Proofs.YtpjgiecljjfdiaaDoor

theorem by_id {z : Int} (h : byteR z = true) : ((byP z).toNat : Int) = z := by
  simp only [byteR, Bool.and_eq_true, decide_eq_true_eq] at h
  rw [u8_val]; omega
theorem get_put {i : In} (h : fitsP i = true) : getB (byP i.op) (byP i.a) (byP i.b) (byP i.c) (byP (i.imm % 4294967296 / 16777216)) (byP (i.imm % 4294967296 / 65536)) (byP (i.imm % 4294967296 / 256)) (byP (i.imm % 4294967296)) = i := by
  simp only [fitsP, Bool.and_eq_true] at h
  obtain ⟨⟨⟨⟨h0, h1⟩, h2⟩, h3⟩, h4⟩ := h
  simp only [immR, Bool.and_eq_true, decide_eq_true_eq] at h4
  obtain ⟨op, a, b, c, m⟩ := i
  simp only [getB, u8_val] at *
  have e0 := by_id h0
  have e1 := by_id h1
  have e2 := by_id h2
  have e3 := by_id h3
  rw [u8_val] at e0 e1 e2 e3
  rw [e0, e1, e2, e3]
  congr 1
  unfold immP
  split <;> omega
theorem dec_put : ∀ (l : List In), l.all fitsP = true → decAll (l.flatMap putP) = l
  | [], _ => rfl
  | i :: l, h => by
    simp only [List.all_cons, Bool.and_eq_true] at h
    rw [List.flatMap_cons]
    show getB _ _ _ _ _ _ _ _ :: decAll (l.flatMap putP) = i :: l
    rw [get_put h.1, dec_put l h.2]
theorem dec_enc {l : List In} {bs : List UInt8} (h : encP l = some bs) : decP bs = l ∧ bs.length = 8 * l.length ∧ l.length ≤ 1024 := by
  unfold encP at h
  split at h
  · rename_i hl
    cases h
    exact ⟨by unfold decP; rw [dec_put l hl.2, List.take_of_length_le hl.1], flat_len l, hl.1⟩
  · cases h
theorem nat_byte (b : UInt8) : byP (b.toNat : Int) = b := by
  unfold byP
  have := b.toNat_lt
  apply UInt8.toNat_inj.1
  rw [UInt8.toNat_ofNat']; omega
theorem byte_r (b : UInt8) : byteR (b.toNat : Int) = true := by
  have := b.toNat_lt
  simp [byteR]; omega
theorem put_get (b0 b1 b2 b3 b4 b5 b6 b7 : UInt8) : putP (getB b0 b1 b2 b3 b4 b5 b6 b7) = [b0, b1, b2, b3, b4, b5, b6, b7] ∧ fitsP (getB b0 b1 b2 b3 b4 b5 b6 b7) = true := by
  have h4 := b4.toNat_lt
  have h5 := b5.toNat_lt
  have h6 := b6.toNat_lt
  have h7 := b7.toNat_lt
  have e : immP ((b4.toNat : Int) * 16777216 + (b5.toNat : Int) * 65536 + (b6.toNat : Int) * 256 + (b7.toNat : Int)) % 4294967296 = (b4.toNat : Int) * 16777216 + (b5.toNat : Int) * 65536 + (b6.toNat : Int) * 256 + (b7.toNat : Int) := by unfold immP; split <;> omega
  have key : ∀ (z : Int) (b : UInt8), z % 256 = (b.toNat : Int) → byP z = b := fun z b hz => by
    apply UInt8.toNat_inj.1
    have := u8_val z
    omega
  refine ⟨?_, ?_⟩
  · simp only [putP, getB, e, nat_byte]
    rw [key _ b4 (by omega), key _ b5 (by omega), key _ b6 (by omega), key _ b7 (by omega)]
  · simp only [fitsP, getB, byte_r, Bool.true_and]
    simp only [immR, Bool.and_eq_true, decide_eq_true_eq]
    unfold immP
    split <;> omega
theorem enc_all : ∀ (n : Nat) (b : List UInt8), b.length ≤ n → (decAll b).flatMap putP = b.take (8 * (decAll b).length) ∧ (decAll b).all fitsP = true
  | n, b0 :: b1 :: b2 :: b3 :: b4 :: b5 :: b6 :: b7 :: r, h => by
    have hn : r.length ≤ n - 8 := by simp at h; omega
    have ih := enc_all (n - 8) r hn
    obtain ⟨p1, p2⟩ := put_get b0 b1 b2 b3 b4 b5 b6 b7
    have hd : decAll (b0 :: b1 :: b2 :: b3 :: b4 :: b5 :: b6 :: b7 :: r) = getB b0 b1 b2 b3 b4 b5 b6 b7 :: decAll r := rfl
    rw [hd, List.flatMap_cons, p1, ih.1, List.length_cons, List.all_cons, p2, ih.2]
    have : 8 * ((decAll r).length + 1) = 8 * (decAll r).length + 1 + 1 + 1 + 1 + 1 + 1 + 1 + 1 := by omega
    rw [this]
    exact ⟨rfl, rfl⟩
  | _, [], _ => ⟨rfl, rfl⟩
  | _, [_], _ => ⟨rfl, rfl⟩
  | _, [_, _], _ => ⟨rfl, rfl⟩
  | _, [_, _, _], _ => ⟨rfl, rfl⟩
  | _, [_, _, _, _], _ => ⟨rfl, rfl⟩
  | _, [_, _, _, _, _], _ => ⟨rfl, rfl⟩
  | _, [_, _, _, _, _, _], _ => ⟨rfl, rfl⟩
  | _, [_, _, _, _, _, _, _], _ => ⟨rfl, rfl⟩
theorem flat_of_take (l : List In) (k : Nat) : (l.take k).flatMap putP = (l.flatMap putP).take (8 * k) := by
  induction l generalizing k with
  | nil => simp
  | cons i l ih =>
    cases k with
    | zero => simp
    | succ k =>
      rw [List.take_succ_cons, List.flatMap_cons, List.flatMap_cons, ih k, show 8 * (k + 1) = (putP i).length + 8 * k by rw [putP_len]; omega, List.take_length_add_append]
theorem enc_dec (b : List UInt8) : encP (decP b) = some (b.take (8 * (decP b).length)) ∧ (decP b).length = min 1024 (b.length / 8) := by
  have ha := enc_all b.length b (Nat.le_refl _)
  have hlen := decAll_len b.length b (Nat.le_refl _)
  have hl : (decP b).length = min 1024 (b.length / 8) := by unfold decP; rw [List.length_take, hlen]
  refine ⟨?_, hl⟩
  unfold encP
  have hf : (decP b).all fitsP = true := by
    unfold decP
    rw [List.all_eq_true] at *
    exact fun x hx => ha.2 x (List.mem_of_mem_take hx)
  rw [if_pos ⟨by omega, hf⟩]
  congr 1
  unfold decP
  rw [flat_of_take, ha.1, List.take_take, List.length_take]
  congr 1
  omega

end Go.Proofs.YtpjgiecljjfdiaaDoor
