/- The document's Text is the code's. Conditions: those stated in each theorem. -/
import Derived.Test.YtndmlnoddnaafaaDoorLinC0
namespace Go.Proofs.YtndmlnoddnaafaaDoor
open Go.RowKit Go.BigFrame

theorem has_no0 {r : Nat} (h1 : 1 ≤ r) : hasP (mask r) 0 = false := by unfold mask; split <;> first | decide | omega
theorem nums_said (i : In) (m : Nat) (h0 : hasP m 0 = false) : textNums i (placesP m) = saidIf (hasP m 1) i.a ++ saidIf (hasP m 2) i.b ++ saidIf (hasP m 3) i.c ++ saidIf (hasP m 4) i.imm := by
  unfold placesP textNums saidIf
  rw [show List.range 5 = [0, 1, 2, 3, 4] from rfl]
  cases h1 : hasP m 1 <;> cases h2 : hasP m 2 <;> cases h3 : hasP m 3 <;> cases h4 : hasP m 4 <;> simp [List.filter, h0, h1, h2, h3, h4, In.get]
theorem keep_eq {i : In} {k : Nat} (hk : k < 5) (h0 : k ≠ 0) : keepP i k = (i.get k == 0 || hasP (mask i.op.toNat) k) := by
  unfold keepP
  rw [has_or1 ⟨mask i.op.toNat, mask_lt _⟩ ⟨k, hk⟩ h0]
theorem keep_0 (i : In) : keepP i 0 = true := by
  unfold keepP
  have : ∀ m : Fin 32, hasP (m.val ||| 1) 0 = true := by decide
  rw [this ⟨mask i.op.toNat, mask_lt _⟩]; simp
theorem raw_eq (op a b c imm : Int) (lg : Bool) : rawB true lg (hasP (mask op.toNat) 1) (hasP (mask op.toNat) 2) (hasP (mask op.toNat) 3) (hasP (mask op.toNat) 4) a b c imm = !(lg && (List.range 5).all (keepP ⟨op, a, b, c, imm⟩)) := by
  rw [show List.range 5 = [0, 1, 2, 3, 4] from rfl]
  simp only [List.all_cons, List.all_nil, Bool.and_true]
  rw [keep_0, keep_eq (k := 1) (by omega) (by omega), keep_eq (k := 2) (by omega) (by omega), keep_eq (k := 3) (by omega) (by omega), keep_eq (k := 4) (by omega) (by omega)]
  unfold rawB
  simp only [In.get, bne]
  cases lg <;> cases hasP (mask op.toNat) 1 <;> cases hasP (mask op.toNat) 2 <;> cases hasP (mask op.toNat) 3 <;> cases hasP (mask op.toNat) 4 <;> simp [Bool.or_assoc]
theorem text_raw {i : In} (h : formP i = 0) : textP i = [114, 97, 119, 32] ++ Lib.itoa i.op ++ [32] ++ Lib.itoa i.a ++ [32] ++ Lib.itoa i.b ++ [32] ++ Lib.itoa i.c ++ [32] ++ Lib.itoa i.imm := by
  unfold textP
  rw [h, show placesP (mask 0) = [0, 1, 2, 3, 4] from rfl, show word 0 = [114, 97, 119] from rfl]
  simp [textNums, In.get]

set_option maxRecDepth 100000 in
theorem rtext_any (i : In) (hi : i.Ok) (w : World) : Calls Tryd.prog 20 #[i.val] w fun e w' => e = .returned (.string ⟨(textP i).toArray⟩) ∧ Below w.heap.size w w' := by
  have hl := fun W => rlegal_any i W
  obtain ⟨op, a, b, c, imm⟩ := i
  by_cases h : 1 ≤ op ∧ op ≤ 18
  · obtain ⟨r, hr⟩ : ∃ r : Nat, op = r := ⟨op.toNat, by omega⟩
    subst hr
    have h1 : 1 ≤ r := by omega
    have h2 : r ≤ 18 := by omega
    have hw := word5 r
    have := rtext_of (r : Int) a b c imm true (legalP ⟨r, a, b, c, imm⟩) (hasP (mask r) 1) (hasP (mask r) 2) (hasP (mask r) 3) (hasP (mask r) 4) (word r) w hi (by omega) (fun W => shape_any r h1 h2 W) hl
    refine this.mono fun e w' ⟨he, hb⟩ => ⟨?_, hb⟩
    rw [he]
    congr 4
    have hre := raw_eq (r : Int) a b c imm (legalP ⟨r, a, b, c, imm⟩)
    rw [Int.toNat_natCast] at hre
    unfold textG
    rw [hre]
    cases hx : (legalP ⟨r, a, b, c, imm⟩ && (List.range 5).all (keepP ⟨r, a, b, c, imm⟩)) with
    | false =>
      have hf : formP ⟨r, a, b, c, imm⟩ = 0 := by unfold formP; rw [if_neg (by rw [hx]; decide)]
      rw [text_raw hf]; rfl
    | true =>
      have hf : formP ⟨r, a, b, c, imm⟩ = r := by unfold formP; rw [if_pos hx]; simp
      unfold textP
      rw [hf, nums_said _ _ (has_no0 h1)]
      simp [List.append_assoc]
  · have hlg : legalP ⟨op, a, b, c, imm⟩ = false := by simp only [legalP, Bool.and_eq_false_iff, decide_eq_false_iff_not]; left; omega
    have := rtext_of op a b c imm false (legalP ⟨op, a, b, c, imm⟩) false false false false [] w hi (by simp) (fun W => shape_none op (by omega) W) hl
    refine this.mono fun e w' ⟨he, hb⟩ => ⟨?_, hb⟩
    rw [he]
    congr 4
    rw [text_raw (form_bad hlg)]
    rfl

end Go.Proofs.YtndmlnoddnaafaaDoor
