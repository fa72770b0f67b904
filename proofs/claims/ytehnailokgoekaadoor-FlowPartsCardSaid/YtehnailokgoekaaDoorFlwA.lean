/- Which way an instruction goes, whether it ends a part, whether there is one. Conditions: those stated in each theorem. -/
import Derived.Test.YtehnailokgoekaaDoorFlwP
import Derived.Test.YtehnailokgoekaaDoorCame
namespace Go.Proofs.YtehnailokgoekaaDoor
open Go.RowKit Go.BigFrame

set_option maxRecDepth 100000 in
set_option maxHeartbeats 1000000 in
theorem way_any (i : In) (w : World) (hF : FormsAt w) : Calls Tryd.prog 31 #[i.val] w fun e w' => e = .returned (.tuple #[.bool (wayP i).1, .bool (wayP i).2]) ∧ Below w.heap.size w w' := by
  obtain ⟨op, a, b, c, imm⟩ := i
  have hb0 : Below w.heap.size w (w.alloc (.cells (In.cells ⟨op, a, b, c, imm⟩).toArray 53)) := (Below.refl _ w).alloc (Nat.le_refl _) _
  have hq0 : Holds (w.alloc (.cells (In.cells ⟨op, a, b, c, imm⟩).toArray 53)) w.heap.size 53 (In.cells ⟨op, a, b, c, imm⟩) := Holds.new w _ _
  have hL := legal_any ⟨op, a, b, c, imm⟩ _ (hF.below hb0)
  unfold In.val at *
  unfold In.cells at *
  have c0 := hq0.cell (i := 0) rfl
  have hr0 := hq0.full
  have HL := Lib.hid hL; clear hL
  have Hq := Lib.hid hq0; clear hq0
  have Hb := Lib.hid hb0; clear hb0
  clear hF
  go_enter Tryd.func31, Tryd.ntmps31
  go_wp2_with fail
  generalize w.alloc (.cells #[Value.int .i64 op, .int .i64 a, .int .i64 b, .int .i64 c, .int .i64 imm] 53) = w1 at *
  refine HL.out.mono ?_
  rintro e w2 ⟨rfl, hb2⟩
  have c2 := (Hq.out.below hb2).cell (i := 0) rfl
  have Hb2 := Lib.hid (Hb.out.trans (hb2.mono Hb.out.size)); clear hb2
  clear c0 hr0 HL Hq Hb
  cases hl : legalP ⟨op, a, b, c, imm⟩ with
  | false =>
    have hw : wayP ⟨op, a, b, c, imm⟩ = (false, false) := by simp [wayP, hl]
    have HW := Lib.hid hw; clear hw
    go_wp2
    go_ret2
    exact ⟨by rw [HW.out]; rfl, Hb2.out⟩
  | true =>
    by_cases h1 : op = 1
    · subst h1
      have hw : wayP ⟨1, a, b, c, imm⟩ = (false, false) := by simp [wayP]
      have HW := Lib.hid hw; clear hw
      clear hl
      go_wp2
      go_ret2
      exact ⟨by rw [HW.out]; rfl, Hb2.out⟩
    by_cases h2 : op = 13
    · subst h2
      have hw : wayP ⟨13, a, b, c, imm⟩ = (true, false) := by simp [wayP, hl]
      have HW := Lib.hid hw; clear hw
      clear hl
      go_wp2
      go_ret2
      exact ⟨by rw [HW.out]; rfl, Hb2.out⟩
    by_cases h3 : op = 14
    · subst h3
      have hw : wayP ⟨14, a, b, c, imm⟩ = (true, true) := by simp [wayP, hl]
      have HW := Lib.hid hw; clear hw
      clear hl
      go_wp2
      go_ret2
      exact ⟨by rw [HW.out]; rfl, Hb2.out⟩
    by_cases h4 : op = 15
    · subst h4
      have hw : wayP ⟨15, a, b, c, imm⟩ = (true, true) := by simp [wayP, hl]
      have HW := Lib.hid hw; clear hw
      clear hl
      go_wp2
      go_ret2
      exact ⟨by rw [HW.out]; rfl, Hb2.out⟩
    by_cases h5 : op = 16
    · subst h5
      have hw : wayP ⟨16, a, b, c, imm⟩ = (true, true) := by simp [wayP, hl]
      have HW := Lib.hid hw; clear hw
      clear hl
      go_wp2
      go_ret2
      exact ⟨by rw [HW.out]; rfl, Hb2.out⟩
    have hw : wayP ⟨op, a, b, c, imm⟩ = (false, true) := by simp [wayP, hl, h1, h2, h3, h4, h5]
    have f1 : (op == 1) = false := by simpa using h1
    have f2 : (op == 13) = false := by simpa using h2
    have f3 : (op == 14) = false := by simpa using h3
    have f4 : (op == 15) = false := by simpa using h4
    have f5 : (op == 16) = false := by simpa using h5
    have HW := Lib.hid hw; clear hw
    clear hl h1 h2 h3 h4 h5
    go_wp2
    go_ret2
    exact ⟨by rw [HW.out]; rfl, Hb2.out⟩

set_option maxRecDepth 100000 in
theorem ends_any (i : In) (w : World) (hF : FormsAt w) : Calls Tryd.prog 29 #[i.val] w fun e w' => e = .returned (.bool (endsP i)) ∧ Below w.heap.size w w' := by
  obtain ⟨op, a, b, c, imm⟩ := i
  have hb0 : Below w.heap.size w (w.alloc (.cells (In.cells ⟨op, a, b, c, imm⟩).toArray 53)) := (Below.refl _ w).alloc (Nat.le_refl _) _
  have hq0 : Holds (w.alloc (.cells (In.cells ⟨op, a, b, c, imm⟩).toArray 53)) w.heap.size 53 (In.cells ⟨op, a, b, c, imm⟩) := Holds.new w _ _
  have hL := way_any ⟨op, a, b, c, imm⟩ _ (hF.below hb0)
  unfold endsP
  generalize wayP ⟨op, a, b, c, imm⟩ = wy at *
  obtain ⟨x, y⟩ := wy
  unfold In.val at *
  unfold In.cells at *
  have hr0 := hq0.full
  simp only at hL ⊢
  have HL := Lib.hid hL; clear hL
  have Hb := Lib.hid hb0; clear hb0
  clear hF hq0
  go_enter Tryd.func29, Tryd.ntmps29
  go_wp2_with fail
  generalize w.alloc (.cells #[Value.int .i64 op, .int .i64 a, .int .i64 b, .int .i64 c, .int .i64 imm] 53) = w1 at *
  refine HL.out.mono ?_
  rintro e w2 ⟨rfl, hb2⟩
  have Hb2 := Lib.hid (Hb.out.trans (hb2.mono Hb.out.size)); clear hb2
  clear hr0 HL Hb
  cases x <;> cases y <;> (go_wp2; go_ret; exact ⟨rfl, Hb2.out⟩)

def hasB (n : Nat) (p : Int) : Bool := decide (0 ≤ p) && decide (p < n)
theorem has_flow (a : Option Addr) (n cap : Nat) (p : Int) (w : World) : Calls Tryd.prog 17 #[.slice a n cap, .int .i64 p] w fun e w' => e = .returned (.bool (hasB n p)) ∧ w' = w := by
  by_cases h : 0 ≤ p
  · by_cases h2 : p < n
    · have e1 : decide (0 ≤ p) = true := by simpa using h
      have e2 : decide (p < (n : Int)) = true := by simpa using h2
      unfold hasB
      go_enter Tryd.func17, Tryd.ntmps17
      go_wp2
      go_ret
      simp [e1, e2]
    · have e1 : decide (0 ≤ p) = true := by simpa using h
      have e2 : decide (p < (n : Int)) = false := by simpa using h2
      unfold hasB
      go_enter Tryd.func17, Tryd.ntmps17
      go_wp2
      go_ret
      simp [e1, e2]
  · have e1 : decide (0 ≤ p) = false := by simpa using h
    unfold hasB
    go_enter Tryd.func17, Tryd.ntmps17
    go_wp2
    go_ret
    simp [e1]

theorem gos_make (a : Option Addr) (n cap : Nat) (k : Int) (w : World) : Calls Tryd.prog 22 #[.slice a n cap, .int .i64 k] w fun e w' => e = .returned (.func (.func 30) #[] #[.pointer (some ⟨w.heap.size, 0, none⟩), .pointer (some ⟨w.heap.size + 1, 0, none⟩)]) ∧ w' = (w.alloc (.cells #[.slice a n cap] 22)).alloc (.cells #[.int .i64 k] 3) := by
  go_enter Tryd.func22, Tryd.ntmps22
  go_wp2
  go_ret
  exact ⟨by simp, rfl⟩
theorem begs_make (a : Option Addr) (n cap : Nat) (w : World) : Calls Tryd.prog 21 #[.slice a n cap] w fun e w' => e = .returned (.func (.func 28) #[] #[.pointer (some ⟨w.heap.size, 0, none⟩)]) ∧ w' = w.alloc (.cells #[.slice a n cap] 22) := by
  go_enter Tryd.func21, Tryd.ntmps21
  go_wp2
  go_ret
  exact ⟨rfl, rfl⟩

end Go.Proofs.YtehnailokgoekaaDoor
