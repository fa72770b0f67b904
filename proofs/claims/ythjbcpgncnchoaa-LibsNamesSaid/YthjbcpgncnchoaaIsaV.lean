/- The document's own Do, for any instruction. Conditions: those stated in each theorem. -/
import Derived.Test.YthjbcpgncnchoaaIsaU
namespace Go.Proofs.Ythjbcpgncnchoaa
open Go.RowKit Go.BigFrame

theorem rdl_1 (a b c imm : Int) (x : L8) (pc : Int) (w : World) (hx : x.Ok) (h0 : 0 ≤ pc) (h1 : pc < 1024) (hl : legalP ⟨1, a, b, c, imm⟩ = true) :
    Calls Try.prog 61 #[(In.mk 1 a b c imm).val, x.val, .int .i64 pc] w fun e w' => e = .returned (doP ⟨1, a, b, c, imm⟩ x pc).value ∧ Below w.heap.size w w' := by
  have hL := fun W => rlegal_any ⟨1, a, b, c, imm⟩ W
  rw [hl] at hL
  obtain ⟨_, hk⟩ := legal_regs hl
  have hno : ¬ (legalP ⟨1, a, b, c, imm⟩ = false ∨ pc < 0 ∨ 1024 ≤ pc) := by simp [hl]; omega
  have hd : doP ⟨1, a, b, c, imm⟩ x pc = ⟨7, pc + 1, 0, 0, 0⟩ := by
    rw [doP, if_neg hno]; simp [valueP, reckP, addrP]
  rw [hd]
  exact rdo_1 a b c imm x pc w h0 h1 (fun W => shape_1 W) hL

theorem rdl_2 (a b c imm : Int) (x : L8) (pc : Int) (w : World) (hx : x.Ok) (h0 : 0 ≤ pc) (h1 : pc < 1024) (hl : legalP ⟨2, a, b, c, imm⟩ = true) :
    Calls Try.prog 61 #[(In.mk 2 a b c imm).val, x.val, .int .i64 pc] w fun e w' => e = .returned (doP ⟨2, a, b, c, imm⟩ x pc).value ∧ Below w.heap.size w w' := by
  have hL := fun W => rlegal_any ⟨2, a, b, c, imm⟩ W
  rw [hl] at hL
  obtain ⟨_, hk⟩ := legal_regs hl
  have hno : ¬ (legalP ⟨2, a, b, c, imm⟩ = false ∨ pc < 0 ∨ 1024 ≤ pc) := by simp [hl]; omega
  obtain ⟨r, hr, hr8⟩ := hk 1 (show 1 ∈ regPl (mask 2) by decide)
  simp only [In.get] at hr
  subst hr
  have hd : doP ⟨2, r, b, c, imm⟩ x pc = ⟨1, pc + 1, r, IntKind.u64.wrap imm, 0⟩ := by
    rw [doP, if_neg hno]; simp [valueP, reckP, addrP]
  rw [hd]
  exact rdo_2 r b c imm x pc w h0 h1 hr8 (fun W => shape_2 W) hL

theorem rdl_3 (a b c imm : Int) (x : L8) (pc : Int) (w : World) (hx : x.Ok) (h0 : 0 ≤ pc) (h1 : pc < 1024) (hl : legalP ⟨3, a, b, c, imm⟩ = true) :
    Calls Try.prog 61 #[(In.mk 3 a b c imm).val, x.val, .int .i64 pc] w fun e w' => e = .returned (doP ⟨3, a, b, c, imm⟩ x pc).value ∧ Below w.heap.size w w' := by
  have hL := fun W => rlegal_any ⟨3, a, b, c, imm⟩ W
  rw [hl] at hL
  obtain ⟨_, hk⟩ := legal_regs hl
  have hno : ¬ (legalP ⟨3, a, b, c, imm⟩ = false ∨ pc < 0 ∨ 1024 ≤ pc) := by simp [hl]; omega
  obtain ⟨r, hr, hr8⟩ := hk 1 (show 1 ∈ regPl (mask 3) by decide)
  simp only [In.get] at hr
  subst hr
  obtain ⟨s, hs, hs8⟩ := hk 2 (show 2 ∈ regPl (mask 3) by decide)
  simp only [In.get] at hs
  subst hs
  have hd : doP ⟨3, r, s, c, imm⟩ x pc = ⟨1, pc + 1, r, x.get s, 0⟩ := by
    rw [doP, if_neg hno]; simp [valueP, reckP, addrP]
  rw [hd]
  exact rdo_3 r s c imm x pc w h0 h1 hr8 hs8 (fun W => shape_3 W) hL

theorem rdl_4 (a b c imm : Int) (x : L8) (pc : Int) (w : World) (hx : x.Ok) (h0 : 0 ≤ pc) (h1 : pc < 1024) (hl : legalP ⟨4, a, b, c, imm⟩ = true) :
    Calls Try.prog 61 #[(In.mk 4 a b c imm).val, x.val, .int .i64 pc] w fun e w' => e = .returned (doP ⟨4, a, b, c, imm⟩ x pc).value ∧ Below w.heap.size w w' := by
  have hL := fun W => rlegal_any ⟨4, a, b, c, imm⟩ W
  rw [hl] at hL
  obtain ⟨_, hk⟩ := legal_regs hl
  have hno : ¬ (legalP ⟨4, a, b, c, imm⟩ = false ∨ pc < 0 ∨ 1024 ≤ pc) := by simp [hl]; omega
  obtain ⟨r, hr, hr8⟩ := hk 1 (show 1 ∈ regPl (mask 4) by decide)
  simp only [In.get] at hr
  subst hr
  obtain ⟨s, hs, hs8⟩ := hk 2 (show 2 ∈ regPl (mask 4) by decide)
  simp only [In.get] at hs
  subst hs
  obtain ⟨t, ht, ht8⟩ := hk 3 (show 3 ∈ regPl (mask 4) by decide)
  simp only [In.get] at ht
  subst ht
  have hd : doP ⟨4, r, s, t, imm⟩ x pc = ⟨1, pc + 1, r, IntKind.u64.wrap (x.get s + x.get t), 0⟩ := by
    rw [doP, if_neg hno]; simp [valueP, reckP, addrP]
  rw [hd]
  exact rdo_4 r s t imm x pc w h0 h1 hr8 hs8 ht8 (fun W => shape_4 W) hL

theorem rdl_5 (a b c imm : Int) (x : L8) (pc : Int) (w : World) (hx : x.Ok) (h0 : 0 ≤ pc) (h1 : pc < 1024) (hl : legalP ⟨5, a, b, c, imm⟩ = true) :
    Calls Try.prog 61 #[(In.mk 5 a b c imm).val, x.val, .int .i64 pc] w fun e w' => e = .returned (doP ⟨5, a, b, c, imm⟩ x pc).value ∧ Below w.heap.size w w' := by
  have hL := fun W => rlegal_any ⟨5, a, b, c, imm⟩ W
  rw [hl] at hL
  obtain ⟨_, hk⟩ := legal_regs hl
  have hno : ¬ (legalP ⟨5, a, b, c, imm⟩ = false ∨ pc < 0 ∨ 1024 ≤ pc) := by simp [hl]; omega
  obtain ⟨r, hr, hr8⟩ := hk 1 (show 1 ∈ regPl (mask 5) by decide)
  simp only [In.get] at hr
  subst hr
  obtain ⟨s, hs, hs8⟩ := hk 2 (show 2 ∈ regPl (mask 5) by decide)
  simp only [In.get] at hs
  subst hs
  obtain ⟨t, ht, ht8⟩ := hk 3 (show 3 ∈ regPl (mask 5) by decide)
  simp only [In.get] at ht
  subst ht
  have hd : doP ⟨5, r, s, t, imm⟩ x pc = ⟨1, pc + 1, r, IntKind.u64.wrap (x.get s - x.get t), 0⟩ := by
    rw [doP, if_neg hno]; simp [valueP, reckP, addrP]
  rw [hd]
  exact rdo_5 r s t imm x pc w h0 h1 hr8 hs8 ht8 (fun W => shape_5 W) hL

theorem rdl_6 (a b c imm : Int) (x : L8) (pc : Int) (w : World) (hx : x.Ok) (h0 : 0 ≤ pc) (h1 : pc < 1024) (hl : legalP ⟨6, a, b, c, imm⟩ = true) :
    Calls Try.prog 61 #[(In.mk 6 a b c imm).val, x.val, .int .i64 pc] w fun e w' => e = .returned (doP ⟨6, a, b, c, imm⟩ x pc).value ∧ Below w.heap.size w w' := by
  have hL := fun W => rlegal_any ⟨6, a, b, c, imm⟩ W
  rw [hl] at hL
  obtain ⟨_, hk⟩ := legal_regs hl
  have hno : ¬ (legalP ⟨6, a, b, c, imm⟩ = false ∨ pc < 0 ∨ 1024 ≤ pc) := by simp [hl]; omega
  obtain ⟨r, hr, hr8⟩ := hk 1 (show 1 ∈ regPl (mask 6) by decide)
  simp only [In.get] at hr
  subst hr
  obtain ⟨s, hs, hs8⟩ := hk 2 (show 2 ∈ regPl (mask 6) by decide)
  simp only [In.get] at hs
  subst hs
  obtain ⟨t, ht, ht8⟩ := hk 3 (show 3 ∈ regPl (mask 6) by decide)
  simp only [In.get] at ht
  subst ht
  have hd : doP ⟨6, r, s, t, imm⟩ x pc = ⟨1, pc + 1, r, IntKind.u64.wrap (x.get s * x.get t), 0⟩ := by
    rw [doP, if_neg hno]; simp [valueP, reckP, addrP]
  rw [hd]
  exact rdo_6 r s t imm x pc w h0 h1 hr8 hs8 ht8 (fun W => shape_6 W) hL

theorem rdl_7 (a b c imm : Int) (x : L8) (pc : Int) (w : World) (hx : x.Ok) (h0 : 0 ≤ pc) (h1 : pc < 1024) (hl : legalP ⟨7, a, b, c, imm⟩ = true) :
    Calls Try.prog 61 #[(In.mk 7 a b c imm).val, x.val, .int .i64 pc] w fun e w' => e = .returned (doP ⟨7, a, b, c, imm⟩ x pc).value ∧ Below w.heap.size w w' := by
  have hL := fun W => rlegal_any ⟨7, a, b, c, imm⟩ W
  rw [hl] at hL
  obtain ⟨_, hk⟩ := legal_regs hl
  have hno : ¬ (legalP ⟨7, a, b, c, imm⟩ = false ∨ pc < 0 ∨ 1024 ≤ pc) := by simp [hl]; omega
  obtain ⟨r, hr, hr8⟩ := hk 1 (show 1 ∈ regPl (mask 7) by decide)
  simp only [In.get] at hr
  subst hr
  obtain ⟨s, hs, hs8⟩ := hk 2 (show 2 ∈ regPl (mask 7) by decide)
  simp only [In.get] at hs
  subst hs
  obtain ⟨t, ht, ht8⟩ := hk 3 (show 3 ∈ regPl (mask 7) by decide)
  simp only [In.get] at ht
  subst ht
  have hd : doP ⟨7, r, s, t, imm⟩ x pc = ⟨1, pc + 1, r, Go.bits .and .u64 (x.get s) (x.get t), 0⟩ := by
    rw [doP, if_neg hno]; simp [valueP, reckP, addrP]
  rw [hd]
  exact rdo_7 r s t imm x pc w h0 h1 hr8 hs8 ht8 (fun W => shape_7 W) hL

theorem rdl_8 (a b c imm : Int) (x : L8) (pc : Int) (w : World) (hx : x.Ok) (h0 : 0 ≤ pc) (h1 : pc < 1024) (hl : legalP ⟨8, a, b, c, imm⟩ = true) :
    Calls Try.prog 61 #[(In.mk 8 a b c imm).val, x.val, .int .i64 pc] w fun e w' => e = .returned (doP ⟨8, a, b, c, imm⟩ x pc).value ∧ Below w.heap.size w w' := by
  have hL := fun W => rlegal_any ⟨8, a, b, c, imm⟩ W
  rw [hl] at hL
  obtain ⟨_, hk⟩ := legal_regs hl
  have hno : ¬ (legalP ⟨8, a, b, c, imm⟩ = false ∨ pc < 0 ∨ 1024 ≤ pc) := by simp [hl]; omega
  obtain ⟨r, hr, hr8⟩ := hk 1 (show 1 ∈ regPl (mask 8) by decide)
  simp only [In.get] at hr
  subst hr
  obtain ⟨s, hs, hs8⟩ := hk 2 (show 2 ∈ regPl (mask 8) by decide)
  simp only [In.get] at hs
  subst hs
  obtain ⟨t, ht, ht8⟩ := hk 3 (show 3 ∈ regPl (mask 8) by decide)
  simp only [In.get] at ht
  subst ht
  have hd : doP ⟨8, r, s, t, imm⟩ x pc = ⟨1, pc + 1, r, Go.bits .xor .u64 (x.get s) (x.get t), 0⟩ := by
    rw [doP, if_neg hno]; simp [valueP, reckP, addrP]
  rw [hd]
  exact rdo_8 r s t imm x pc w h0 h1 hr8 hs8 ht8 (fun W => shape_8 W) hL

theorem rdl_9 (a b c imm : Int) (x : L8) (pc : Int) (w : World) (hx : x.Ok) (h0 : 0 ≤ pc) (h1 : pc < 1024) (hl : legalP ⟨9, a, b, c, imm⟩ = true) :
    Calls Try.prog 61 #[(In.mk 9 a b c imm).val, x.val, .int .i64 pc] w fun e w' => e = .returned (doP ⟨9, a, b, c, imm⟩ x pc).value ∧ Below w.heap.size w w' := by
  have hL := fun W => rlegal_any ⟨9, a, b, c, imm⟩ W
  rw [hl] at hL
  obtain ⟨_, hk⟩ := legal_regs hl
  have hno : ¬ (legalP ⟨9, a, b, c, imm⟩ = false ∨ pc < 0 ∨ 1024 ≤ pc) := by simp [hl]; omega
  obtain ⟨r, hr, hr8⟩ := hk 1 (show 1 ∈ regPl (mask 9) by decide)
  simp only [In.get] at hr
  subst hr
  obtain ⟨s, hs, hs8⟩ := hk 2 (show 2 ∈ regPl (mask 9) by decide)
  simp only [In.get] at hs
  subst hs
  obtain ⟨t, ht, ht8⟩ := hk 3 (show 3 ∈ regPl (mask 9) by decide)
  simp only [In.get] at ht
  subst ht
  have hd : doP ⟨9, r, s, t, imm⟩ x pc = ⟨1, pc + 1, r, IntKind.u64.wrap (x.get s * 2 ^ (x.get t % 64).toNat), 0⟩ := by
    rw [doP, if_neg hno]; simp [valueP, reckP, addrP]
  rw [hd]
  exact rdo_9 r s t imm x pc w h0 h1 hr8 hs8 ht8 hx (fun W => shape_9 W) hL

theorem rdl_10 (a b c imm : Int) (x : L8) (pc : Int) (w : World) (hx : x.Ok) (h0 : 0 ≤ pc) (h1 : pc < 1024) (hl : legalP ⟨10, a, b, c, imm⟩ = true) :
    Calls Try.prog 61 #[(In.mk 10 a b c imm).val, x.val, .int .i64 pc] w fun e w' => e = .returned (doP ⟨10, a, b, c, imm⟩ x pc).value ∧ Below w.heap.size w w' := by
  have hL := fun W => rlegal_any ⟨10, a, b, c, imm⟩ W
  rw [hl] at hL
  obtain ⟨_, hk⟩ := legal_regs hl
  have hno : ¬ (legalP ⟨10, a, b, c, imm⟩ = false ∨ pc < 0 ∨ 1024 ≤ pc) := by simp [hl]; omega
  obtain ⟨r, hr, hr8⟩ := hk 1 (show 1 ∈ regPl (mask 10) by decide)
  simp only [In.get] at hr
  subst hr
  obtain ⟨s, hs, hs8⟩ := hk 2 (show 2 ∈ regPl (mask 10) by decide)
  simp only [In.get] at hs
  subst hs
  obtain ⟨t, ht, ht8⟩ := hk 3 (show 3 ∈ regPl (mask 10) by decide)
  simp only [In.get] at ht
  subst ht
  have hd : doP ⟨10, r, s, t, imm⟩ x pc = ⟨1, pc + 1, r, x.get s / 2 ^ (x.get t % 64).toNat, 0⟩ := by
    rw [doP, if_neg hno]; simp [valueP, reckP, addrP]
  rw [hd]
  exact rdo_10 r s t imm x pc w h0 h1 hr8 hs8 ht8 hx (fun W => shape_10 W) hL

theorem rdl_11 (a b c imm : Int) (x : L8) (pc : Int) (w : World) (hx : x.Ok) (h0 : 0 ≤ pc) (h1 : pc < 1024) (hl : legalP ⟨11, a, b, c, imm⟩ = true) :
    Calls Try.prog 61 #[(In.mk 11 a b c imm).val, x.val, .int .i64 pc] w fun e w' => e = .returned (doP ⟨11, a, b, c, imm⟩ x pc).value ∧ Below w.heap.size w w' := by
  have hL := fun W => rlegal_any ⟨11, a, b, c, imm⟩ W
  rw [hl] at hL
  obtain ⟨_, hk⟩ := legal_regs hl
  have hno : ¬ (legalP ⟨11, a, b, c, imm⟩ = false ∨ pc < 0 ∨ 1024 ≤ pc) := by simp [hl]; omega
  obtain ⟨r, hr, hr8⟩ := hk 1 (show 1 ∈ regPl (mask 11) by decide)
  simp only [In.get] at hr
  subst hr
  obtain ⟨s, hs, hs8⟩ := hk 2 (show 2 ∈ regPl (mask 11) by decide)
  simp only [In.get] at hs
  subst hs
  have hd : doP ⟨11, r, s, c, imm⟩ x pc = ⟨3, pc + 1, r, 0, IntKind.u64.wrap (x.get s + IntKind.u64.wrap imm)⟩ := by
    rw [doP, if_neg hno]; simp [valueP, reckP, addrP]
  rw [hd]
  exact rdo_11 r s c imm x pc w h0 h1 hr8 hs8 (fun W => shape_11 W) hL

theorem rdl_12 (a b c imm : Int) (x : L8) (pc : Int) (w : World) (hx : x.Ok) (h0 : 0 ≤ pc) (h1 : pc < 1024) (hl : legalP ⟨12, a, b, c, imm⟩ = true) :
    Calls Try.prog 61 #[(In.mk 12 a b c imm).val, x.val, .int .i64 pc] w fun e w' => e = .returned (doP ⟨12, a, b, c, imm⟩ x pc).value ∧ Below w.heap.size w w' := by
  have hL := fun W => rlegal_any ⟨12, a, b, c, imm⟩ W
  rw [hl] at hL
  obtain ⟨_, hk⟩ := legal_regs hl
  have hno : ¬ (legalP ⟨12, a, b, c, imm⟩ = false ∨ pc < 0 ∨ 1024 ≤ pc) := by simp [hl]; omega
  obtain ⟨r, hr, hr8⟩ := hk 1 (show 1 ∈ regPl (mask 12) by decide)
  simp only [In.get] at hr
  subst hr
  obtain ⟨s, hs, hs8⟩ := hk 2 (show 2 ∈ regPl (mask 12) by decide)
  simp only [In.get] at hs
  subst hs
  have hd : doP ⟨12, r, s, c, imm⟩ x pc = ⟨4, pc + 1, 0, x.get r, IntKind.u64.wrap (x.get s + IntKind.u64.wrap imm)⟩ := by
    rw [doP, if_neg hno]; simp [valueP, reckP, addrP]
  rw [hd]
  exact rdo_12 r s c imm x pc w h0 h1 hr8 hs8 (fun W => shape_12 W) hL

theorem rdl_13 (a b c imm : Int) (x : L8) (pc : Int) (w : World) (hx : x.Ok) (h0 : 0 ≤ pc) (h1 : pc < 1024) (hl : legalP ⟨13, a, b, c, imm⟩ = true) :
    Calls Try.prog 61 #[(In.mk 13 a b c imm).val, x.val, .int .i64 pc] w fun e w' => e = .returned (doP ⟨13, a, b, c, imm⟩ x pc).value ∧ Below w.heap.size w w' := by
  have hL := fun W => rlegal_any ⟨13, a, b, c, imm⟩ W
  rw [hl] at hL
  obtain ⟨_, hk⟩ := legal_regs hl
  have hno : ¬ (legalP ⟨13, a, b, c, imm⟩ = false ∨ pc < 0 ∨ 1024 ≤ pc) := by simp [hl]; omega
  have hd : doP ⟨13, a, b, c, imm⟩ x pc = branchP ⟨13, a, b, c, imm⟩ x (pc + 1) := by
    rw [doP, if_neg hno]; simp [valueP, reckP, addrP]
  rw [hd]
  exact rdo_13 a b c imm x pc w h0 h1 (fun W => shape_13 W) hL

theorem rdl_14 (a b c imm : Int) (x : L8) (pc : Int) (w : World) (hx : x.Ok) (h0 : 0 ≤ pc) (h1 : pc < 1024) (hl : legalP ⟨14, a, b, c, imm⟩ = true) :
    Calls Try.prog 61 #[(In.mk 14 a b c imm).val, x.val, .int .i64 pc] w fun e w' => e = .returned (doP ⟨14, a, b, c, imm⟩ x pc).value ∧ Below w.heap.size w w' := by
  have hL := fun W => rlegal_any ⟨14, a, b, c, imm⟩ W
  rw [hl] at hL
  obtain ⟨_, hk⟩ := legal_regs hl
  have hno : ¬ (legalP ⟨14, a, b, c, imm⟩ = false ∨ pc < 0 ∨ 1024 ≤ pc) := by simp [hl]; omega
  obtain ⟨r, hr, hr8⟩ := hk 1 (show 1 ∈ regPl (mask 14) by decide)
  simp only [In.get] at hr
  subst hr
  obtain ⟨s, hs, hs8⟩ := hk 2 (show 2 ∈ regPl (mask 14) by decide)
  simp only [In.get] at hs
  subst hs
  have hd : doP ⟨14, r, s, c, imm⟩ x pc = branchP ⟨14, r, s, c, imm⟩ x (pc + 1) := by
    rw [doP, if_neg hno]; simp [valueP, reckP, addrP]
  rw [hd]
  exact rdo_14 r s c imm x pc w h0 h1 hr8 hs8 (fun W => shape_14 W) hL

theorem rdl_15 (a b c imm : Int) (x : L8) (pc : Int) (w : World) (hx : x.Ok) (h0 : 0 ≤ pc) (h1 : pc < 1024) (hl : legalP ⟨15, a, b, c, imm⟩ = true) :
    Calls Try.prog 61 #[(In.mk 15 a b c imm).val, x.val, .int .i64 pc] w fun e w' => e = .returned (doP ⟨15, a, b, c, imm⟩ x pc).value ∧ Below w.heap.size w w' := by
  have hL := fun W => rlegal_any ⟨15, a, b, c, imm⟩ W
  rw [hl] at hL
  obtain ⟨_, hk⟩ := legal_regs hl
  have hno : ¬ (legalP ⟨15, a, b, c, imm⟩ = false ∨ pc < 0 ∨ 1024 ≤ pc) := by simp [hl]; omega
  obtain ⟨r, hr, hr8⟩ := hk 1 (show 1 ∈ regPl (mask 15) by decide)
  simp only [In.get] at hr
  subst hr
  obtain ⟨s, hs, hs8⟩ := hk 2 (show 2 ∈ regPl (mask 15) by decide)
  simp only [In.get] at hs
  subst hs
  have hd : doP ⟨15, r, s, c, imm⟩ x pc = branchP ⟨15, r, s, c, imm⟩ x (pc + 1) := by
    rw [doP, if_neg hno]; simp [valueP, reckP, addrP]
  rw [hd]
  exact rdo_15 r s c imm x pc w h0 h1 hr8 hs8 (fun W => shape_15 W) hL

theorem rdl_16 (a b c imm : Int) (x : L8) (pc : Int) (w : World) (hx : x.Ok) (h0 : 0 ≤ pc) (h1 : pc < 1024) (hl : legalP ⟨16, a, b, c, imm⟩ = true) :
    Calls Try.prog 61 #[(In.mk 16 a b c imm).val, x.val, .int .i64 pc] w fun e w' => e = .returned (doP ⟨16, a, b, c, imm⟩ x pc).value ∧ Below w.heap.size w w' := by
  have hL := fun W => rlegal_any ⟨16, a, b, c, imm⟩ W
  rw [hl] at hL
  obtain ⟨_, hk⟩ := legal_regs hl
  have hno : ¬ (legalP ⟨16, a, b, c, imm⟩ = false ∨ pc < 0 ∨ 1024 ≤ pc) := by simp [hl]; omega
  obtain ⟨r, hr, hr8⟩ := hk 1 (show 1 ∈ regPl (mask 16) by decide)
  simp only [In.get] at hr
  subst hr
  obtain ⟨s, hs, hs8⟩ := hk 2 (show 2 ∈ regPl (mask 16) by decide)
  simp only [In.get] at hs
  subst hs
  have hd : doP ⟨16, r, s, c, imm⟩ x pc = branchP ⟨16, r, s, c, imm⟩ x (pc + 1) := by
    rw [doP, if_neg hno]; simp [valueP, reckP, addrP]
  rw [hd]
  exact rdo_16 r s c imm x pc w h0 h1 hr8 hs8 (fun W => shape_16 W) hL

theorem rdl_17 (a b c imm : Int) (x : L8) (pc : Int) (w : World) (hx : x.Ok) (h0 : 0 ≤ pc) (h1 : pc < 1024) (hl : legalP ⟨17, a, b, c, imm⟩ = true) :
    Calls Try.prog 61 #[(In.mk 17 a b c imm).val, x.val, .int .i64 pc] w fun e w' => e = .returned (doP ⟨17, a, b, c, imm⟩ x pc).value ∧ Below w.heap.size w w' := by
  have hL := fun W => rlegal_any ⟨17, a, b, c, imm⟩ W
  rw [hl] at hL
  obtain ⟨_, hk⟩ := legal_regs hl
  have hno : ¬ (legalP ⟨17, a, b, c, imm⟩ = false ∨ pc < 0 ∨ 1024 ≤ pc) := by simp [hl]; omega
  have hd : doP ⟨17, a, b, c, imm⟩ x pc = ⟨5, pc + 1, 0, 0, 0⟩ := by
    rw [doP, if_neg hno]; simp [valueP, reckP, addrP]
  rw [hd]
  exact rdo_17 a b c imm x pc w h0 h1 (fun W => shape_17 W) hL

theorem rdl_18 (a b c imm : Int) (x : L8) (pc : Int) (w : World) (hx : x.Ok) (h0 : 0 ≤ pc) (h1 : pc < 1024) (hl : legalP ⟨18, a, b, c, imm⟩ = true) :
    Calls Try.prog 61 #[(In.mk 18 a b c imm).val, x.val, .int .i64 pc] w fun e w' => e = .returned (doP ⟨18, a, b, c, imm⟩ x pc).value ∧ Below w.heap.size w w' := by
  have hL := fun W => rlegal_any ⟨18, a, b, c, imm⟩ W
  rw [hl] at hL
  obtain ⟨_, hk⟩ := legal_regs hl
  have hno : ¬ (legalP ⟨18, a, b, c, imm⟩ = false ∨ pc < 0 ∨ 1024 ≤ pc) := by simp [hl]; omega
  have hd : doP ⟨18, a, b, c, imm⟩ x pc = ⟨6, pc + 1, 0, 0, 0⟩ := by
    rw [doP, if_neg hno]; simp [valueP, reckP, addrP]
  rw [hd]
  exact rdo_18 a b c imm x pc w h0 h1 (fun W => shape_18 W) hL

theorem rdo_any (i : In) (x : L8) (pc : Int) (w : World) (hx : x.Ok) : Calls Try.prog 61 #[i.val, x.val, .int .i64 pc] w fun e w' => e = .returned (doP i x pc).value ∧ Below w.heap.size w w' := by
  have hL := fun W => rlegal_any i W
  obtain ⟨op, a, b, c, imm⟩ := i
  by_cases hop : 1 ≤ op ∧ op ≤ 18
  · cases hl : legalP ⟨op, a, b, c, imm⟩ with
    | false =>
      obtain ⟨n, hn⟩ : ∃ n : Nat, op = n := ⟨op.toNat, by omega⟩
      subst hn
      rw [hl] at hL
      have hd : doP ⟨n, a, b, c, imm⟩ x pc = Ef.zero := by simp [doP, hl]
      rw [hd]
      exact rdo_illegal n a b c imm _ _ _ _ _ x pc w (fun W => shape_any n (by omega) (by omega) W) hL
    | true =>
      by_cases h0 : pc < 0
      · obtain ⟨n, hn⟩ : ∃ n : Nat, op = n := ⟨op.toNat, by omega⟩
        subst hn
        rw [hl] at hL
        have hd : doP ⟨n, a, b, c, imm⟩ x pc = Ef.zero := by simp [doP, h0]
        rw [hd]; exact rdo_low n a b c imm _ _ _ _ _ x pc w h0 (fun W => shape_any n (by omega) (by omega) W) hL
      · by_cases h1 : 1024 ≤ pc
        · obtain ⟨n, hn⟩ : ∃ n : Nat, op = n := ⟨op.toNat, by omega⟩
          subst hn
          rw [hl] at hL
          have hd : doP ⟨n, a, b, c, imm⟩ x pc = Ef.zero := by simp [doP, h1]
          rw [hd]; exact rdo_high n a b c imm _ _ _ _ _ x pc w (by omega) h1 (fun W => shape_any n (by omega) (by omega) W) hL
        · have h0' : 0 ≤ pc := by omega
          have h1' : pc < 1024 := by omega
          clear hL h0 h1
          have hc : op = 1 ∨ op = 2 ∨ op = 3 ∨ op = 4 ∨ op = 5 ∨ op = 6 ∨ op = 7 ∨ op = 8 ∨ op = 9 ∨ op = 10 ∨ op = 11 ∨ op = 12 ∨ op = 13 ∨ op = 14 ∨ op = 15 ∨ op = 16 ∨ op = 17 ∨ op = 18 := by omega
          clear hop
          rcases hc with rfl | rfl | rfl | rfl | rfl | rfl | rfl | rfl | rfl | rfl | rfl | rfl | rfl | rfl | rfl | rfl | rfl | rfl
          · exact rdl_1 a b c imm x pc w hx h0' h1' hl
          · exact rdl_2 a b c imm x pc w hx h0' h1' hl
          · exact rdl_3 a b c imm x pc w hx h0' h1' hl
          · exact rdl_4 a b c imm x pc w hx h0' h1' hl
          · exact rdl_5 a b c imm x pc w hx h0' h1' hl
          · exact rdl_6 a b c imm x pc w hx h0' h1' hl
          · exact rdl_7 a b c imm x pc w hx h0' h1' hl
          · exact rdl_8 a b c imm x pc w hx h0' h1' hl
          · exact rdl_9 a b c imm x pc w hx h0' h1' hl
          · exact rdl_10 a b c imm x pc w hx h0' h1' hl
          · exact rdl_11 a b c imm x pc w hx h0' h1' hl
          · exact rdl_12 a b c imm x pc w hx h0' h1' hl
          · exact rdl_13 a b c imm x pc w hx h0' h1' hl
          · exact rdl_14 a b c imm x pc w hx h0' h1' hl
          · exact rdl_15 a b c imm x pc w hx h0' h1' hl
          · exact rdl_16 a b c imm x pc w hx h0' h1' hl
          · exact rdl_17 a b c imm x pc w hx h0' h1' hl
          · exact rdl_18 a b c imm x pc w hx h0' h1' hl
  · have hl : legalP ⟨op, a, b, c, imm⟩ = false := by
      simp only [legalP, Bool.and_eq_false_iff, decide_eq_false_iff_not]
      exact .inl (by omega)
    rw [hl] at hL
    have hd : doP ⟨op, a, b, c, imm⟩ x pc = Ef.zero := by simp [doP, hl]
    rw [hd]
    exact rdo_none op a b c imm x pc w (fun W => shape_none op (by omega) W) hL

end Go.Proofs.Ythjbcpgncnchoaa
