/- A core that is made anew: its parts. Conditions: those stated in each theorem. -/
import Derived.Test.YtpgfcjfmhgifiaaOwn0
import Derived.StillTailTactics
namespace Go.Proofs.Ytpgfcjfmhgifiaa
open Go.RowKit Go.BigFrame

/-- A control: the budget, the lane, how many were aborted. -/
structure Ct where
  f : Int
  s : Int
  o : Int
  ln : Nat
  a1 : Int
  a2 : Int
  a3 : Int
def Ct.cells (c : Ct) (made : Bool) : List Value := [.bool made, .int .i64 0, .int .i64 c.f, .int .i64 c.s, .int .i64 c.o, .int .i64 0, .int .i64 (c.ln : Int), .int .i64 0, .int .i64 c.a1, .int .i64 c.a2, .int .i64 c.a3, .int .i64 0]
def Ct.new (f s o : Int) : Ct := ⟨f, s, o, 0, 0, 0, 0⟩
structure CtAt (w : World) (a : Nat) (c : Ct) : Prop where
  head : Holds w a 85 (c.cells true)
  ln4 : c.ln ≤ 4

/-! ### Budgets -/
def MayB (f s o : Int) : Prop := (0 ≤ f ∧ f ≤ 16) ∧ (0 ≤ s ∧ s ≤ 16) ∧ (0 ≤ o ∧ o ≤ 16)
instance (f s o : Int) : Decidable (MayB f s o) := by unfold MayB; infer_instance
def bud (f s o : Int) : Value := .agg #[.int .i64 f, .int .i64 s, .int .i64 o]

set_option maxRecDepth 100000 in
set_option maxHeartbeats 1000000 in
theorem may_ok {f s o : Int} (h : MayB f s o) (w : World) : Calls Try.prog 23 #[bud f s o] w fun e w' => e = .returned (.bool true) ∧ Below w.heap.size w w' := by
  obtain ⟨⟨h1, h2⟩, ⟨h3, h4⟩, h5, h6⟩ := h
  have HB := Lib.hid ((Below.refl _ w).alloc (Nat.le_refl _) (.cells #[.int .i64 f, .int .i64 s, .int .i64 o] 24))
  have e1 : decide (f < 0) = false := by simp; omega
  have e2 : decide (16 < f) = false := by simp; omega
  have e3 : decide (s < 0) = false := by simp; omega
  have e4 : decide (16 < s) = false := by simp; omega
  have e5 : decide (o < 0) = false := by simp; omega
  have e6 : decide (16 < o) = false := by simp; omega
  have i0 : ∀ w : World, (Instr.index 100 (.agg #[.int .i64 f, .int .i64 s, .int .i64 o]) (.int .i64 0)).run Try.prog w = .ok (.int .i64 f) w := fun _ => by kernel_rfl
  have i1 : ∀ w : World, (Instr.index 100 (.agg #[.int .i64 f, .int .i64 s, .int .i64 o]) (.int .i64 1)).run Try.prog w = .ok (.int .i64 s) w := fun _ => by kernel_rfl
  have i2 : ∀ w : World, (Instr.index 100 (.agg #[.int .i64 f, .int .i64 s, .int .i64 o]) (.int .i64 2)).run Try.prog w = .ok (.int .i64 o) w := fun _ => by kernel_rfl
  unfold bud
  go_enter Try.func23, Try.ntmps23
  go_wp2
  refine wp_loop_rounds 4 ?_
  rw [rounds_succ]
  go_wp2
  rw [rounds_succ]
  go_wp2
  rw [rounds_succ]
  go_wp2
  rw [rounds_succ]
  go_wp2
  go_ret
  exact ⟨rfl, HB.out⟩


set_option maxRecDepth 100000 in
set_option maxHeartbeats 1000000 in
theorem may_no {f s o : Int} (h : ¬ MayB f s o) (w : World) : Calls Try.prog 23 #[bud f s o] w fun e w' => e = .returned (.bool false) ∧ Below w.heap.size w w' := by
  have HB := Lib.hid ((Below.refl _ w).alloc (Nat.le_refl _) (.cells #[.int .i64 f, .int .i64 s, .int .i64 o] 24))
  have i0 : ∀ w : World, (Instr.index 100 (.agg #[.int .i64 f, .int .i64 s, .int .i64 o]) (.int .i64 0)).run Try.prog w = .ok (.int .i64 f) w := fun _ => by kernel_rfl
  have i1 : ∀ w : World, (Instr.index 100 (.agg #[.int .i64 f, .int .i64 s, .int .i64 o]) (.int .i64 1)).run Try.prog w = .ok (.int .i64 s) w := fun _ => by kernel_rfl
  have i2 : ∀ w : World, (Instr.index 100 (.agg #[.int .i64 f, .int .i64 s, .int .i64 o]) (.int .i64 2)).run Try.prog w = .ok (.int .i64 o) w := fun _ => by kernel_rfl
  unfold bud
  by_cases n0 : f < 0
  · have q : decide (f < 0) = true := by simp; omega
    go_enter Try.func23, Try.ntmps23
    go_wp2
    refine wp_loop_rounds 1 ?_
    rw [rounds_succ]
    go_wp2
    go_ret
    exact ⟨rfl, HB.out⟩
  by_cases m0 : 16 < f
  · have q0 : decide (f < 0) = false := by simp; omega
    have q : decide (16 < f) = true := by simp; omega
    go_enter Try.func23, Try.ntmps23
    go_wp2
    refine wp_loop_rounds 1 ?_
    rw [rounds_succ]
    go_wp2
    go_ret
    exact ⟨rfl, HB.out⟩
  by_cases n1 : s < 0
  · have e0a : decide (f < 0) = false := by simp; omega
    have e0b : decide (16 < f) = false := by simp; omega
    have q : decide (s < 0) = true := by simp; omega
    go_enter Try.func23, Try.ntmps23
    go_wp2
    refine wp_loop_rounds 2 ?_
    rw [rounds_succ]
    go_wp2
    rw [rounds_succ]
    go_wp2
    go_ret
    exact ⟨rfl, HB.out⟩
  by_cases m1 : 16 < s
  · have e0a : decide (f < 0) = false := by simp; omega
    have e0b : decide (16 < f) = false := by simp; omega
    have q0 : decide (s < 0) = false := by simp; omega
    have q : decide (16 < s) = true := by simp; omega
    go_enter Try.func23, Try.ntmps23
    go_wp2
    refine wp_loop_rounds 2 ?_
    rw [rounds_succ]
    go_wp2
    rw [rounds_succ]
    go_wp2
    go_ret
    exact ⟨rfl, HB.out⟩
  by_cases n2 : o < 0
  · have e0a : decide (f < 0) = false := by simp; omega
    have e0b : decide (16 < f) = false := by simp; omega
    have e1a : decide (s < 0) = false := by simp; omega
    have e1b : decide (16 < s) = false := by simp; omega
    have q : decide (o < 0) = true := by simp; omega
    go_enter Try.func23, Try.ntmps23
    go_wp2
    refine wp_loop_rounds 3 ?_
    rw [rounds_succ]
    go_wp2
    rw [rounds_succ]
    go_wp2
    rw [rounds_succ]
    go_wp2
    go_ret
    exact ⟨rfl, HB.out⟩
  by_cases m2 : 16 < o
  · have e0a : decide (f < 0) = false := by simp; omega
    have e0b : decide (16 < f) = false := by simp; omega
    have e1a : decide (s < 0) = false := by simp; omega
    have e1b : decide (16 < s) = false := by simp; omega
    have q0 : decide (o < 0) = false := by simp; omega
    have q : decide (16 < o) = true := by simp; omega
    go_enter Try.func23, Try.ntmps23
    go_wp2
    refine wp_loop_rounds 3 ?_
    rw [rounds_succ]
    go_wp2
    rw [rounds_succ]
    go_wp2
    rw [rounds_succ]
    go_wp2
    go_ret
    exact ⟨rfl, HB.out⟩
  exact absurd (show MayB f s o from ⟨⟨by omega, by omega⟩, ⟨by omega, by omega⟩, by omega, by omega⟩) h

set_option maxRecDepth 100000 in
set_option maxHeartbeats 1000000 in
theorem new_ok {f s o : Int} (h : MayB f s o) (w : World) : Calls Try.prog 7 #[bud f s o] w fun e w' => ∃ a, e = .returned (.tuple #[.pointer (some ⟨a, 0, none⟩), .int .i64 0]) ∧ w.heap.size ≤ a ∧ CtAt w' a (Ct.new f s o) ∧ Below w.heap.size w w' := by
  have HM := Lib.hid (fun V => may_ok h V)
  clear h
  unfold bud at *
  go_enter Try.func7, Try.ntmps7
  go_wp2_with fail
  refine (HM.out _).mono ?_
  rintro e V ⟨rfl, hb⟩
  have c0 := hb.cell (p := ⟨w.heap.size, 0, none⟩) (by simp)
  have c1 := hb.cell (p := ⟨w.heap.size, 1, none⟩) (by simp)
  have c2 := hb.cell (p := ⟨w.heap.size, 2, none⟩) (by simp)
  have hB := ((Below.refl _ w).alloc (Nat.le_refl _) (.cells #[.int .i64 f, .int .i64 s, .int .i64 o] 24)).trans (hb.mono (by simp))
  have HB := Lib.hid hB; clear hB hb
  have HE := Lib.hid (show CtAt ((V.alloc (.cells #[.int .i64 0, .int .i64 f, .int .i64 s, .int .i64 o, .int .i64 0] 81)).alloc (.cells ((Ct.new f s o).cells true).toArray 85)) (V.heap.size + 1) (Ct.new f s o) from
    ⟨by have := Holds.new (V.alloc (.cells #[.int .i64 0, .int .i64 f, .int .i64 s, .int .i64 o, .int .i64 0] 81)) 85 ((Ct.new f s o).cells true); rwa [World.size_alloc] at this, Nat.zero_le _⟩)
  go_wp2
  go_ret2
  exact ⟨_, rfl, by have := HB.out.size; omega, HE.out, HB.out.trans ((((Below.refl _ V).alloc (Nat.le_refl _) _).alloc (by simp) _).mono HB.out.size)⟩

set_option maxRecDepth 100000 in
set_option maxHeartbeats 1000000 in
theorem new_no {f s o : Int} (h : ¬ MayB f s o) (w : World) : Calls Try.prog 7 #[bud f s o] w fun e w' => e = .returned (.tuple #[.pointer none, .int .i64 2]) ∧ Below w.heap.size w w' := by
  have HM := Lib.hid (fun V => may_no h V)
  clear h
  unfold bud at *
  go_enter Try.func7, Try.ntmps7
  go_wp2_with fail
  refine (HM.out _).mono ?_
  rintro e V ⟨rfl, hb⟩
  have hB := ((Below.refl _ w).alloc (Nat.le_refl _) (.cells #[.int .i64 f, .int .i64 s, .int .i64 o] 24)).trans (hb.mono (by simp))
  have HB := Lib.hid hB; clear hB hb
  go_wp2
  go_ret2
  exact ⟨rfl, HB.out⟩

theorem holds_full {w : World} {b : Nat} {t : TypeId} {L : List Value} (h : Holds w b t L) : w.rangeAt b 0 L := h.range (fun i v hi => by rw [Nat.zero_add]; exact hi)
theorem Try.sizeList : (Try.prog.info? 103).map (·.size) = some 2 := by kernel_rfl
set_option maxHeartbeats 400000 in
theorem empty_any (w : World) : Calls Try.prog 32 #[] w fun e w' => ∃ b, e = .returned (.agg #[.slice none 0 0, .map (some b)]) ∧ Below w.heap.size w w' := by
  have hmm := @run_makeMap Try.prog
  go_enter Try.func32, Try.ntmps32
  go_wp2
  refine bodyPost_ret (results_c rfl rfl (v := .agg #[.slice none 0 0, .map (some (w.heap.size + 1))]) ?_) rfl ?_
  · exact run_loadVar_mid _ _ 0 103 [.slice none 0 0, .map (some (w.heap.size + 1))] _ (((Holds.new w 103 [.slice none 0 0, .map (some (w.heap.size + 1))]).alloc _).range (o := 0) (fun i v hi => by rw [Nat.zero_add]; exact hi)) Try.underlying103 rfl Try.sizeList
  · exact ⟨_, rfl, ((Below.refl _ w).alloc (Nat.le_refl _) _).alloc (by simp) _⟩

set_option maxRecDepth 100000 in
set_option maxHeartbeats 1000000 in
theorem lognew_any (w : World) : Calls Try.prog 24 #[] w fun e w' => ∃ a, e = .returned (.pointer (some ⟨a, 0, none⟩)) ∧ Below w.heap.size w w' := by
  go_enter Try.func24, Try.ntmps24
  go_wp2_with (go_at_call 32; refine (empty_any _).mono ?_; rintro e w1 ⟨b1, rfl, hb1⟩; refine Hid.out ?_)
  refine Lib.hid ?_
  have Hb1 := Lib.hid hb1; clear hb1
  go_wp2_with (go_at_call 32; refine (empty_any _).mono ?_; rintro e w2 ⟨b2, rfl, hb2⟩; refine Hid.out ?_)
  refine Lib.hid ?_
  have Hb2 := Lib.hid (Hb1.out.trans (hb2.mono Hb1.out.size)); clear hb2 Hb1
  have hb := Lib.hid (Hb2.out.alloc Hb2.out.size (.cells #[.pointer (some ⟨w2.heap.size, 0, none⟩), .slice none 0 0, .map (some b1), .slice none 0 0, .map (some b2)] 106))
  go_wp2
  go_ret
  exact ⟨_, rfl, hb.out⟩

set_option maxRecDepth 100000 in
set_option maxHeartbeats 1000000 in
theorem regsnew_any (w : World) : Calls Try.prog 9 #[] w fun e w' => e = .returned (.pointer (some ⟨w.heap.size, 0, none⟩)) ∧ Holds w' w.heap.size 90 [.int .u64 0, .int .u64 0, .int .u64 0, .int .u64 0, .int .u64 0, .int .u64 0, .int .u64 0, .int .u64 0, .int .i64 0, .pointer none, .bool true] ∧ Below w.heap.size w w' := by
  have hb := Lib.hid (Holds.new w 90 [.int .u64 0, .int .u64 0, .int .u64 0, .int .u64 0, .int .u64 0, .int .u64 0, .int .u64 0, .int .u64 0, .int .i64 0, .pointer none, .bool true])
  go_enter Try.func9, Try.ntmps9
  go_wp2
  go_ret
  exact ⟨rfl, hb.out, (Below.refl _ w).alloc (Nat.le_refl _) _⟩

set_option maxRecDepth 100000 in
set_option maxHeartbeats 1000000 in
theorem softnew_any (w : World) : Calls Try.prog 10 #[] w fun e w' => ∃ a, e = .returned (.pointer (some ⟨a, 0, none⟩)) ∧ Below w.heap.size w w' := by
  go_enter Try.func10, Try.ntmps10
  go_wp2_with (go_at_call 24; refine (lognew_any _).mono ?_; rintro e w1 ⟨b1, rfl, hb1⟩; refine Hid.out ?_)
  refine Lib.hid ?_
  have hf : ∀ t : Obj, Below w.heap.size w (w1.alloc t) := fun t => hb1.alloc hb1.size t
  have Hf := Lib.hid hf; clear hf hb1
  go_wp2_with fail
  refine bodyPost_ret (results_tmp rfl _ _ _) rfl ⟨_, rfl, Hf.out _⟩

end Go.Proofs.Ytpgfcjfmhgifiaa
