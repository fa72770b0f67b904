/- The small functions: whether there is an instruction, a place, a branch; the registers that an instruction sets and reads. Conditions: those stated in each theorem. -/
import Derived.Test.YteijhcibdglkeaaGreatDoorLntQ
import Derived.Test.YteijhcibdglkeaaGreatDoorIsaB
import Derived.Test.YteijhcibdglkeaaGreatDoorCame
import Derived.Deep.QuietTactic
import Derived.Laws.Bits64b
namespace Go.Proofs.YteijhcibdglkeaaGreatDoor
open Go.RowKit Go.BigFrame

def hasL (n : Nat) (p : Int) : Bool := decide (0 ≤ p) && decide (p < n)
theorem has_lint (a : Option Addr) (n cap : Nat) (p : Int) (w : World) : Calls Tryz.prog 44 #[.slice a n cap, .int .i64 p] w fun e w' => e = .returned (.bool (hasL n p)) ∧ w' = w := by
  by_cases h : 0 ≤ p
  · have e1 : decide (0 ≤ p) = true := by simpa using h
    by_cases h2 : p < n
    · have e2 : decide (p < (n : Int)) = true := by simpa using h2
      unfold hasL
      go_enter Tryz.func44, Tryz.ntmps44
      go_wp2
      go_ret
      simp [e1, e2]
    · have e2 : decide (p < (n : Int)) = false := by simpa using h2
      unfold hasL
      go_enter Tryz.func44, Tryz.ntmps44
      go_wp2
      go_ret
      simp [e1, e2]
  · have e1 : decide (0 ≤ p) = false := by simpa using h
    unfold hasL
    go_enter Tryz.func44, Tryz.ntmps44
    go_wp2
    go_ret
    simp [e1]

theorem isPl_any (p : Int) (w : World) : Calls Tryz.prog 45 #[.int .i64 p] w fun e w' => e = .returned (.bool (isPl p)) ∧ w' = w := by
  have hr : (isPl p) = (decide (0 ≤ p) && decide (p ≤ 1024)) := rfl
  rw [hr]; clear hr
  by_cases h : 0 ≤ p
  · have e1 : decide (0 ≤ p) = true := by simpa using h
    by_cases h2 : p ≤ 1024
    · have e2 : decide (p ≤ 1024) = true := by simpa using h2
      go_enter Tryz.func45, Tryz.ntmps45
      go_wp2
      go_ret
      simp [e1, e2]
    · have e2 : decide (p ≤ 1024) = false := by simpa using h2
      go_enter Tryz.func45, Tryz.ntmps45
      go_wp2
      go_ret
      simp [e1, e2]
  · have e1 : decide (0 ≤ p) = false := by simpa using h
    go_enter Tryz.func45, Tryz.ntmps45
    go_wp2
    go_ret
    simp [e1]

theorem bran_any (p : Int) (w : World) : Calls Tryz.prog 62 #[.int .i64 p] w fun e w' => e = .returned (.bool (decide (13 ≤ p) && decide (p ≤ 16))) ∧ w' = w := by
  have hr : (decide (13 ≤ p) && decide (p ≤ 16)) = (decide (13 ≤ p) && decide (p ≤ 16)) := rfl
  rw [hr]; clear hr
  by_cases h : 13 ≤ p
  · have e1 : decide (13 ≤ p) = true := by simpa using h
    by_cases h2 : p ≤ 16
    · have e2 : decide (p ≤ 16) = true := by simpa using h2
      go_enter Tryz.func62, Tryz.ntmps62
      go_wp2
      go_ret
      simp [e1, e2]
    · have e2 : decide (p ≤ 16) = false := by simpa using h2
      go_enter Tryz.func62, Tryz.ntmps62
      go_wp2
      go_ret
      simp [e1, e2]
  · have e1 : decide (13 ≤ p) = false := by simpa using h
    go_enter Tryz.func62, Tryz.ntmps62
    go_wp2
    go_ret
    simp [e1]

theorem only_any {r : Nat} (h : r < 8) (w : World) : Calls Tryz.prog 46 #[.int .i64 r] w fun e w' => e = .returned (.int .u64 ((2 ^ r : Nat) : Int)) ∧ w' = w := by
  match r, h with
  | 0, _ | 1, _ | 2, _ | 3, _ | 4, _ | 5, _ | 6, _ | 7, _ =>
    go_enter Tryz.func46, Tryz.ntmps46
    go_wp2
    go_ret
    exact ⟨rfl, rfl⟩
theorem only_int {r : Int} (h : 0 ≤ r ∧ r < 8) (w : World) : Calls Tryz.prog 46 #[.int .i64 r] w fun e w' => e = .returned (.int .u64 ((2 ^ r.toNat : Nat) : Int)) ∧ w' = w := by
  obtain ⟨n, rfl⟩ : ∃ n : Nat, r = n := ⟨r.toNat, by omega⟩
  exact only_any (by omega) w
theorem pow_lt {r : Int} (h : 0 ≤ r ∧ r < 8) : 2 ^ r.toNat < 256 := by
  have : 2 ^ r.toNat < 2 ^ 8 := Nat.pow_lt_pow_right (by omega) (by omega)
  exact this
theorem or_u64 {a b : Nat} (ha : a < 256) (hb : b < 256) : Go.bits .or .u64 (a : Int) (b : Int) = ((a ||| b : Nat) : Int) := bits_or_u64_nat a b (by omega) (by omega)

set_option maxRecDepth 100000 in
set_option maxHeartbeats 1000000 in
theorem sets_any (i : In) (w : World) (hl : legalP i = true) : Calls Tryz.prog 32 #[i.val] w fun e w' => e = .returned (.int .u64 (setsM i : Nat)) ∧ Below w.heap.size w w' := by
  have hs := fun h2 h11 => legal_sets hl h2 h11
  clear hl
  obtain ⟨op, a, b, c, imm⟩ := i
  have hb0 : Below w.heap.size w (w.alloc (.cells (In.cells ⟨op, a, b, c, imm⟩).toArray 43)) := (Below.refl _ w).alloc (Nat.le_refl _) _
  have hq0 : Holds (w.alloc (.cells (In.cells ⟨op, a, b, c, imm⟩).toArray 43)) w.heap.size 43 (In.cells ⟨op, a, b, c, imm⟩) := Holds.new w _ _
  unfold In.val at *
  unfold In.cells at *
  have c0 := hq0.cell (i := 0) rfl
  have c1 := hq0.cell (i := 1) rfl
  have c2 := hq0.cell (i := 2) rfl
  have c3 := hq0.cell (i := 3) rfl
  have Hb := Lib.hid hb0; clear hb0
  clear hq0
  simp only at hs
  by_cases h2 : 2 ≤ op
  · have e1 : decide (2 ≤ op) = true := by simpa using h2
    by_cases h11 : op ≤ 11
    · have e2 : decide (op ≤ 11) = true := by simpa using h11
      have HM := Lib.hid (show setsM ⟨op, a, b, c, imm⟩ = 2 ^ a.toNat by unfold setsM; rw [if_pos ⟨h2, h11⟩])
      have HO := Lib.hid (fun V => only_int (hs h2 h11) V); clear hs h2 h11
      generalize 2 ^ a.toNat = p1 at *
      go_enter Tryz.func32, Tryz.ntmps32
      go_wp2_with (go_at_call 46; refine (HO.out _).mono ?_; rintro e w5 ⟨rfl, rfl⟩)
      go_ret
      exact ⟨by rw [HM.out]; rfl, Hb.out⟩
    · have e2 : decide (op ≤ 11) = false := by simpa using h11
      have HM := Lib.hid (show setsM ⟨op, a, b, c, imm⟩ = 0 by unfold setsM; rw [if_neg (fun h => h11 h.2)])
      clear hs h2 h11
      go_enter Tryz.func32, Tryz.ntmps32
      go_wp2
      go_ret
      exact ⟨by rw [HM.out]; rfl, Hb.out⟩
  · have e1 : decide (2 ≤ op) = false := by simpa using h2
    have HM := Lib.hid (show setsM ⟨op, a, b, c, imm⟩ = 0 by unfold setsM; rw [if_neg (fun h => h2 h.1)])
    clear hs h2
    go_enter Tryz.func32, Tryz.ntmps32
    go_wp2
    go_ret
    exact ⟨by rw [HM.out]; rfl, Hb.out⟩

set_option maxRecDepth 100000 in
set_option maxHeartbeats 4000000 in
theorem reads_any (i : In) (w : World) (hl : legalP i = true) : Calls Tryz.prog 63 #[i.val] w fun e w' => e = .returned (.int .u64 (readsM i : Nat)) ∧ Below w.heap.size w w' := by
  have hs := fun (r : Int) (h : r ∈ readsI i) => legal_reads hl h
  clear hl
  obtain ⟨op, a, b, c, imm⟩ := i
  have hb0 : Below w.heap.size w (w.alloc (.cells (In.cells ⟨op, a, b, c, imm⟩).toArray 43)) := (Below.refl _ w).alloc (Nat.le_refl _) _
  have hq0 : Holds (w.alloc (.cells (In.cells ⟨op, a, b, c, imm⟩).toArray 43)) w.heap.size 43 (In.cells ⟨op, a, b, c, imm⟩) := Holds.new w _ _
  unfold In.val at *
  unfold In.cells at *
  have c0 := hq0.cell (i := 0) rfl
  have c1 := hq0.cell (i := 1) rfl
  have c2 := hq0.cell (i := 2) rfl
  have c3 := hq0.cell (i := 3) rfl
  have Hb := Lib.hid hb0; clear hb0
  clear hq0
  by_cases h3 : op = 3
  · subst h3
    have h_b := hs b (by simp [readsI])
    have HOb := Lib.hid (fun V => only_int h_b V)
    have HM := Lib.hid (show readsM ⟨3, a, b, c, imm⟩ = 2 ^ b.toNat by unfold readsM; rw [if_pos (by simp)])
    clear hs h_b
    generalize 2 ^ b.toNat = p1 at *
    go_enter Tryz.func63, Tryz.ntmps63
    go_wp2_with (go_at_call 46; refine (HOb.out _).mono ?_; rintro e w5 ⟨rfl, rfl⟩)
    go_ret
    exact ⟨by rw [HM.out]; rfl, Hb.out⟩
  by_cases h11 : op = 11
  · subst h11
    have h_b := hs b (by simp [readsI])
    have HOb := Lib.hid (fun V => only_int h_b V)
    have HM := Lib.hid (show readsM ⟨11, a, b, c, imm⟩ = 2 ^ b.toNat by unfold readsM; rw [if_pos (by simp)])
    clear hs h_b
    generalize 2 ^ b.toNat = p1 at *
    go_enter Tryz.func63, Tryz.ntmps63
    go_wp2_with (go_at_call 46; refine (HOb.out _).mono ?_; rintro e w5 ⟨rfl, rfl⟩)
    go_ret
    exact ⟨by rw [HM.out]; rfl, Hb.out⟩
  by_cases h4 : op = 4
  · subst h4
    have h_b := hs b (by simp [readsI])
    have HOb := Lib.hid (fun V => only_int h_b V)
    have h_c := hs c (by simp [readsI])
    have HOc := Lib.hid (fun V => only_int h_c V)
    have HM := Lib.hid (show readsM ⟨4, a, b, c, imm⟩ = 2 ^ b.toNat ||| 2 ^ c.toNat by unfold readsM; rw [if_neg (by simp), if_pos (by simp)])
    have HB := Lib.hid (or_u64 (pow_lt h_b) (pow_lt h_c))
    clear hs h_b h_c
    generalize 2 ^ b.toNat = p1 at *
    generalize 2 ^ c.toNat = p2 at *
    go_enter Tryz.func63, Tryz.ntmps63
    go_wp2_with fail
    go_quiet (first | (go_at_call 46; exact Calls.quiet_of_same (HOb.out _)) | (go_at_call 46; exact Calls.quiet_of_same (HOc.out _)))
    go_wp2_with fail
    go_ret
    exact ⟨by rw [HM.out, HB.out]; rfl, below_drewN Hb.out _⟩
  by_cases h5 : op = 5
  · subst h5
    have h_b := hs b (by simp [readsI])
    have HOb := Lib.hid (fun V => only_int h_b V)
    have h_c := hs c (by simp [readsI])
    have HOc := Lib.hid (fun V => only_int h_c V)
    have HM := Lib.hid (show readsM ⟨5, a, b, c, imm⟩ = 2 ^ b.toNat ||| 2 ^ c.toNat by unfold readsM; rw [if_neg (by simp), if_pos (by simp)])
    have HB := Lib.hid (or_u64 (pow_lt h_b) (pow_lt h_c))
    clear hs h_b h_c
    generalize 2 ^ b.toNat = p1 at *
    generalize 2 ^ c.toNat = p2 at *
    go_enter Tryz.func63, Tryz.ntmps63
    go_wp2_with fail
    go_quiet (first | (go_at_call 46; exact Calls.quiet_of_same (HOb.out _)) | (go_at_call 46; exact Calls.quiet_of_same (HOc.out _)))
    go_wp2_with fail
    go_ret
    exact ⟨by rw [HM.out, HB.out]; rfl, below_drewN Hb.out _⟩
  by_cases h6 : op = 6
  · subst h6
    have h_b := hs b (by simp [readsI])
    have HOb := Lib.hid (fun V => only_int h_b V)
    have h_c := hs c (by simp [readsI])
    have HOc := Lib.hid (fun V => only_int h_c V)
    have HM := Lib.hid (show readsM ⟨6, a, b, c, imm⟩ = 2 ^ b.toNat ||| 2 ^ c.toNat by unfold readsM; rw [if_neg (by simp), if_pos (by simp)])
    have HB := Lib.hid (or_u64 (pow_lt h_b) (pow_lt h_c))
    clear hs h_b h_c
    generalize 2 ^ b.toNat = p1 at *
    generalize 2 ^ c.toNat = p2 at *
    go_enter Tryz.func63, Tryz.ntmps63
    go_wp2_with fail
    go_quiet (first | (go_at_call 46; exact Calls.quiet_of_same (HOb.out _)) | (go_at_call 46; exact Calls.quiet_of_same (HOc.out _)))
    go_wp2_with fail
    go_ret
    exact ⟨by rw [HM.out, HB.out]; rfl, below_drewN Hb.out _⟩
  by_cases h7 : op = 7
  · subst h7
    have h_b := hs b (by simp [readsI])
    have HOb := Lib.hid (fun V => only_int h_b V)
    have h_c := hs c (by simp [readsI])
    have HOc := Lib.hid (fun V => only_int h_c V)
    have HM := Lib.hid (show readsM ⟨7, a, b, c, imm⟩ = 2 ^ b.toNat ||| 2 ^ c.toNat by unfold readsM; rw [if_neg (by simp), if_pos (by simp)])
    have HB := Lib.hid (or_u64 (pow_lt h_b) (pow_lt h_c))
    clear hs h_b h_c
    generalize 2 ^ b.toNat = p1 at *
    generalize 2 ^ c.toNat = p2 at *
    go_enter Tryz.func63, Tryz.ntmps63
    go_wp2_with fail
    go_quiet (first | (go_at_call 46; exact Calls.quiet_of_same (HOb.out _)) | (go_at_call 46; exact Calls.quiet_of_same (HOc.out _)))
    go_wp2_with fail
    go_ret
    exact ⟨by rw [HM.out, HB.out]; rfl, below_drewN Hb.out _⟩
  by_cases h8 : op = 8
  · subst h8
    have h_b := hs b (by simp [readsI])
    have HOb := Lib.hid (fun V => only_int h_b V)
    have h_c := hs c (by simp [readsI])
    have HOc := Lib.hid (fun V => only_int h_c V)
    have HM := Lib.hid (show readsM ⟨8, a, b, c, imm⟩ = 2 ^ b.toNat ||| 2 ^ c.toNat by unfold readsM; rw [if_neg (by simp), if_pos (by simp)])
    have HB := Lib.hid (or_u64 (pow_lt h_b) (pow_lt h_c))
    clear hs h_b h_c
    generalize 2 ^ b.toNat = p1 at *
    generalize 2 ^ c.toNat = p2 at *
    go_enter Tryz.func63, Tryz.ntmps63
    go_wp2_with fail
    go_quiet (first | (go_at_call 46; exact Calls.quiet_of_same (HOb.out _)) | (go_at_call 46; exact Calls.quiet_of_same (HOc.out _)))
    go_wp2_with fail
    go_ret
    exact ⟨by rw [HM.out, HB.out]; rfl, below_drewN Hb.out _⟩
  by_cases h9 : op = 9
  · subst h9
    have h_b := hs b (by simp [readsI])
    have HOb := Lib.hid (fun V => only_int h_b V)
    have h_c := hs c (by simp [readsI])
    have HOc := Lib.hid (fun V => only_int h_c V)
    have HM := Lib.hid (show readsM ⟨9, a, b, c, imm⟩ = 2 ^ b.toNat ||| 2 ^ c.toNat by unfold readsM; rw [if_neg (by simp), if_pos (by simp)])
    have HB := Lib.hid (or_u64 (pow_lt h_b) (pow_lt h_c))
    clear hs h_b h_c
    generalize 2 ^ b.toNat = p1 at *
    generalize 2 ^ c.toNat = p2 at *
    go_enter Tryz.func63, Tryz.ntmps63
    go_wp2_with fail
    go_quiet (first | (go_at_call 46; exact Calls.quiet_of_same (HOb.out _)) | (go_at_call 46; exact Calls.quiet_of_same (HOc.out _)))
    go_wp2_with fail
    go_ret
    exact ⟨by rw [HM.out, HB.out]; rfl, below_drewN Hb.out _⟩
  by_cases h10 : op = 10
  · subst h10
    have h_b := hs b (by simp [readsI])
    have HOb := Lib.hid (fun V => only_int h_b V)
    have h_c := hs c (by simp [readsI])
    have HOc := Lib.hid (fun V => only_int h_c V)
    have HM := Lib.hid (show readsM ⟨10, a, b, c, imm⟩ = 2 ^ b.toNat ||| 2 ^ c.toNat by unfold readsM; rw [if_neg (by simp), if_pos (by simp)])
    have HB := Lib.hid (or_u64 (pow_lt h_b) (pow_lt h_c))
    clear hs h_b h_c
    generalize 2 ^ b.toNat = p1 at *
    generalize 2 ^ c.toNat = p2 at *
    go_enter Tryz.func63, Tryz.ntmps63
    go_wp2_with fail
    go_quiet (first | (go_at_call 46; exact Calls.quiet_of_same (HOb.out _)) | (go_at_call 46; exact Calls.quiet_of_same (HOc.out _)))
    go_wp2_with fail
    go_ret
    exact ⟨by rw [HM.out, HB.out]; rfl, below_drewN Hb.out _⟩
  by_cases h12 : op = 12
  · subst h12
    have h_a := hs a (by simp [readsI])
    have HOa := Lib.hid (fun V => only_int h_a V)
    have h_b := hs b (by simp [readsI])
    have HOb := Lib.hid (fun V => only_int h_b V)
    have HM := Lib.hid (show readsM ⟨12, a, b, c, imm⟩ = 2 ^ a.toNat ||| 2 ^ b.toNat by unfold readsM; rw [if_neg (by simp), if_neg (by simp), if_pos (by simp)])
    have HB := Lib.hid (or_u64 (pow_lt h_a) (pow_lt h_b))
    clear hs h_a h_b
    generalize 2 ^ a.toNat = p1 at *
    generalize 2 ^ b.toNat = p2 at *
    go_enter Tryz.func63, Tryz.ntmps63
    go_wp2_with fail
    go_quiet (first | (go_at_call 46; exact Calls.quiet_of_same (HOa.out _)) | (go_at_call 46; exact Calls.quiet_of_same (HOb.out _)))
    go_wp2_with fail
    go_ret
    exact ⟨by rw [HM.out, HB.out]; rfl, below_drewN Hb.out _⟩
  by_cases h14 : op = 14
  · subst h14
    have h_a := hs a (by simp [readsI])
    have HOa := Lib.hid (fun V => only_int h_a V)
    have h_b := hs b (by simp [readsI])
    have HOb := Lib.hid (fun V => only_int h_b V)
    have HM := Lib.hid (show readsM ⟨14, a, b, c, imm⟩ = 2 ^ a.toNat ||| 2 ^ b.toNat by unfold readsM; rw [if_neg (by simp), if_neg (by simp), if_pos (by simp)])
    have HB := Lib.hid (or_u64 (pow_lt h_a) (pow_lt h_b))
    clear hs h_a h_b
    generalize 2 ^ a.toNat = p1 at *
    generalize 2 ^ b.toNat = p2 at *
    go_enter Tryz.func63, Tryz.ntmps63
    go_wp2_with fail
    go_quiet (first | (go_at_call 46; exact Calls.quiet_of_same (HOa.out _)) | (go_at_call 46; exact Calls.quiet_of_same (HOb.out _)))
    go_wp2_with fail
    go_ret
    exact ⟨by rw [HM.out, HB.out]; rfl, below_drewN Hb.out _⟩
  by_cases h15 : op = 15
  · subst h15
    have h_a := hs a (by simp [readsI])
    have HOa := Lib.hid (fun V => only_int h_a V)
    have h_b := hs b (by simp [readsI])
    have HOb := Lib.hid (fun V => only_int h_b V)
    have HM := Lib.hid (show readsM ⟨15, a, b, c, imm⟩ = 2 ^ a.toNat ||| 2 ^ b.toNat by unfold readsM; rw [if_neg (by simp), if_neg (by simp), if_pos (by simp)])
    have HB := Lib.hid (or_u64 (pow_lt h_a) (pow_lt h_b))
    clear hs h_a h_b
    generalize 2 ^ a.toNat = p1 at *
    generalize 2 ^ b.toNat = p2 at *
    go_enter Tryz.func63, Tryz.ntmps63
    go_wp2_with fail
    go_quiet (first | (go_at_call 46; exact Calls.quiet_of_same (HOa.out _)) | (go_at_call 46; exact Calls.quiet_of_same (HOb.out _)))
    go_wp2_with fail
    go_ret
    exact ⟨by rw [HM.out, HB.out]; rfl, below_drewN Hb.out _⟩
  by_cases h16 : op = 16
  · subst h16
    have h_a := hs a (by simp [readsI])
    have HOa := Lib.hid (fun V => only_int h_a V)
    have h_b := hs b (by simp [readsI])
    have HOb := Lib.hid (fun V => only_int h_b V)
    have HM := Lib.hid (show readsM ⟨16, a, b, c, imm⟩ = 2 ^ a.toNat ||| 2 ^ b.toNat by unfold readsM; rw [if_neg (by simp), if_neg (by simp), if_pos (by simp)])
    have HB := Lib.hid (or_u64 (pow_lt h_a) (pow_lt h_b))
    clear hs h_a h_b
    generalize 2 ^ a.toNat = p1 at *
    generalize 2 ^ b.toNat = p2 at *
    go_enter Tryz.func63, Tryz.ntmps63
    go_wp2_with fail
    go_quiet (first | (go_at_call 46; exact Calls.quiet_of_same (HOa.out _)) | (go_at_call 46; exact Calls.quiet_of_same (HOb.out _)))
    go_wp2_with fail
    go_ret
    exact ⟨by rw [HM.out, HB.out]; rfl, below_drewN Hb.out _⟩
  have HM := Lib.hid (show readsM ⟨op, a, b, c, imm⟩ = 0 by unfold readsM; rw [if_neg (by simp; omega), if_neg (by simp; omega), if_neg (by simp; omega)])
  have f3 : (op == 3) = false := by simpa using h3
  have f11 : (op == 11) = false := by simpa using h11
  have f4 : (op == 4) = false := by simpa using h4
  have f5 : (op == 5) = false := by simpa using h5
  have f6 : (op == 6) = false := by simpa using h6
  have f7 : (op == 7) = false := by simpa using h7
  have f8 : (op == 8) = false := by simpa using h8
  have f9 : (op == 9) = false := by simpa using h9
  have f10 : (op == 10) = false := by simpa using h10
  have f12 : (op == 12) = false := by simpa using h12
  have f14 : (op == 14) = false := by simpa using h14
  have f15 : (op == 15) = false := by simpa using h15
  have f16 : (op == 16) = false := by simpa using h16
  clear hs h3 h11 h4 h5 h6 h7 h8 h9 h10 h12 h14 h15 h16
  go_enter Tryz.func63, Tryz.ntmps63
  go_wp2
  go_ret
  exact ⟨by rw [HM.out]; rfl, Hb.out⟩

theorem goes_make (a : Option Addr) (n cap : Nat) (s : Spot) (w : World) : Calls Tryz.prog 31 #[.slice a n cap, .agg #[.int .i64 s.1, .bool s.2]] w fun e w' => e = .returned (.func (.func 43) #[] #[.pointer (some ⟨w.heap.size, 0, none⟩), .pointer (some ⟨w.heap.size + 1, 0, none⟩)]) ∧ w' = (w.alloc (.cells #[.slice a n cap] 31)).alloc (.cells #[.int .i64 s.1, .bool s.2] 89) := by
  go_enter Tryz.func31, Tryz.ntmps31
  go_wp2
  go_ret
  exact ⟨by simp, rfl⟩
end Go.Proofs.YteijhcibdglkeaaGreatDoor
