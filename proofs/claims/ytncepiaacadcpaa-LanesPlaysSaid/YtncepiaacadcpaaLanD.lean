/- A control: Abort, Counts, Try, mayBe, New, Most; calls on none. Conditions: those stated in each theorem. -/
import Derived.Test.YtncepiaacadcpaaLanC
namespace Go.Proofs.Ytncepiaacadcpaa
open Go.RowKit Go.BigFrame

section
variable {w w' : World} {a : Nat} {c : Ct}

set_option maxRecDepth 100000 in
set_option maxHeartbeats 2000000 in
theorem abort_any (h : CtAt w a c) (hg : c.Good) (n : Int) : Calls Try.prog 14 #[.pointer (some ⟨a, 0, none⟩), .int .i64 n] w fun e w' => e = .returned (.tuple #[.int .i64 (c.ansA n), .int .i64 (c.errA n)]) ∧ CtAt w' a (c.abort n) ∧ Tch (· = a) w w' := by
  have HN := Lib.hid (none_any h)
  have HI := Lib.hid (inside_any h)
  have c6 := h.cl 6 rfl
  have hl := Ct.ln_cases h.ln4
  by_cases h0 : c.ln = 0
  · have he : c.errA n = 90 := by unfold Ct.errA; rw [if_pos (by omega)]
    have HE := Lib.hid (And.intro (show CtAt w a (c.abort n) from by unfold Ct.abort; rw [he, if_neg (by decide)]; exact h) (Tch.refl (· = a) w))
    rw [show c.ansA n = 0 from by unfold Ct.ansA; rw [he, if_neg (by decide)], he]
    rw [h0] at HI c6
    clear h hl he
    go_enter Try.func14, Try.ntmps14
    go_wp2_with (first | (go_at_call 30; refine HN.out.mono ?_; rintro e w' ⟨rfl, rfl⟩) | (go_at_call 31; refine HI.out.mono ?_; rintro e w' ⟨rfl, rfl⟩))
    go_ret2
    exact ⟨rfl, HE.out⟩
  by_cases h4 : c.ln = 4
  · have he : c.errA n = 90 := by unfold Ct.errA; rw [if_pos (by omega)]
    have HE := Lib.hid (And.intro (show CtAt w a (c.abort n) from by unfold Ct.abort; rw [he, if_neg (by decide)]; exact h) (Tch.refl (· = a) w))
    rw [show c.ansA n = 0 from by unfold Ct.ansA; rw [he, if_neg (by decide)], he]
    rw [h4] at HI c6
    clear h hl he
    go_enter Try.func14, Try.ntmps14
    go_wp2_with (first | (go_at_call 30; refine HN.out.mono ?_; rintro e w' ⟨rfl, rfl⟩) | (go_at_call 31; refine HI.out.mono ?_; rintro e w' ⟨rfl, rfl⟩))
    go_ret2
    exact ⟨rfl, HE.out⟩
  have HD := Lib.hid (ends_any n w)
  cases hok : okCode n with
  | false =>
    have he : c.errA n = 2 := by unfold Ct.errA; rw [if_neg (by omega), hok]; rfl
    have HE := Lib.hid (And.intro (show CtAt w a (c.abort n) from by unfold Ct.abort; rw [he, if_neg (by decide)]; exact h) (Tch.refl (· = a) w))
    rw [show c.ansA n = 0 from by unfold Ct.ansA; rw [he, if_neg (by decide)], he]
    rw [hok] at HD
    clear h he hok
    rcases hl with hl | hl | hl | hl | hl
    · exact absurd hl h0
    · rw [hl] at HI c6
      clear h0 h4 hl
      go_enter Try.func14, Try.ntmps14
      go_wp2_with (first | (go_at_call 30; refine HN.out.mono ?_; rintro e w' ⟨rfl, rfl⟩) | (go_at_call 31; refine HI.out.mono ?_; rintro e w' ⟨rfl, rfl⟩) | (go_at_call 33; refine HD.out.mono ?_; rintro e w' ⟨rfl, rfl⟩))
      go_ret2
      exact ⟨rfl, HE.out⟩
    · rw [hl] at HI c6
      clear h0 h4 hl
      go_enter Try.func14, Try.ntmps14
      go_wp2_with (first | (go_at_call 30; refine HN.out.mono ?_; rintro e w' ⟨rfl, rfl⟩) | (go_at_call 31; refine HI.out.mono ?_; rintro e w' ⟨rfl, rfl⟩) | (go_at_call 33; refine HD.out.mono ?_; rintro e w' ⟨rfl, rfl⟩))
      go_ret2
      exact ⟨rfl, HE.out⟩
    · rw [hl] at HI c6
      clear h0 h4 hl
      go_enter Try.func14, Try.ntmps14
      go_wp2_with (first | (go_at_call 30; refine HN.out.mono ?_; rintro e w' ⟨rfl, rfl⟩) | (go_at_call 31; refine HI.out.mono ?_; rintro e w' ⟨rfl, rfl⟩) | (go_at_call 33; refine HD.out.mono ?_; rintro e w' ⟨rfl, rfl⟩))
      go_ret2
      exact ⟨rfl, HE.out⟩
    · exact absurd hl h4
  | true =>
    have he : c.errA n = 0 := by unfold Ct.errA; rw [if_neg (by omega), hok]; rfl
    rw [show c.ansA n = ((c.inc.follow n : Nat) : Int) from by unfold Ct.ansA; rw [he, if_pos rfl], he, show c.abort n = { c.inc with ln := c.inc.follow n } from by unfold Ct.abort; rw [he, if_pos rfl]]
    rw [hok] at HD
    have hinc : c.inc.ln = c.ln := by unfold Ct.inc; split <;> rfl
    have b1 := hg.a10
    have b2 := hg.a20
    have b3 := hg.a30
    have d1 := Int.le_trans hg.a11 hg.f1
    have d2 := Int.le_trans hg.a21 hg.s1
    have d3 := Int.le_trans hg.a31 hg.o1
    -- behind the store of the number
    have key : ∀ (j : Nat) (v : Value), (c.cells true).set j v = c.inc.cells true → ∀ V, V = (w.drew).setCell ⟨a, j, none⟩ v →
        CtAt V a c.inc ∧ Tch (· = a) w V ∧ Calls Try.prog 34 #[.pointer (some ⟨a, 0, none⟩), .int .i64 n] V fun e w' => e = .returned (.int .i64 ((c.inc.follow n : Nat) : Int)) ∧ CtAt w' a c.inc ∧ Tch (· = a) w w' := by
      rintro j v hj V rfl
      have h1 := CtAt.put (w := w.drew) (c := c) ⟨h.head.drew, h.ln4⟩ j v c.inc hj (by rw [hinc]; exact h.ln4)
      refine ⟨h1.1, (Tch.refl _ w).drew.trans h1.2, (following_any h1.1 (by rw [hinc]; exact h0) (by rw [hinc]; exact h4) n).mono fun e w' ⟨e1, e2⟩ => ⟨e1, h1.1.below e2, ((Tch.refl _ w).drew.trans h1.2).trans (Tch.of_idle e2)⟩⟩
    have hfl := c.inc.follow_le (by rw [hinc]; exact h.ln4) n
    have KEY := Lib.hid key; clear key
    have f8 := h.head.free 8
    have f9 := h.head.free 9
    have f10 := h.head.free 10
    rcases hl with hl | hl | hl | hl | hl
    · exact absurd hl h0
    · rw [hl] at HI c6
      have c8 := h.cl 8 rfl
      obtain ⟨h1, h2, h3⟩ := KEY.out 8 (.int .i64 (c.a1 + 1)) (by unfold Ct.inc; rw [hl]; simp [Ct.cells, hl]) _ rfl
      have HW := Lib.hid (And.intro h1 (And.intro h2 h3)); clear h1 h2 h3
      clear h h0 h4 hl he hok f9 f10 b2 b3 d2 d3 hg
      have HF := Lib.hid hfl; clear hfl
      go_enter Try.func14, Try.ntmps14
      go_wp2_with (first | (go_at_call 30; refine HN.out.mono ?_; rintro e w' ⟨rfl, rfl⟩) | (go_at_call 31; refine HI.out.mono ?_; rintro e w' ⟨rfl, rfl⟩) | (go_at_call 33; refine HD.out.mono ?_; rintro e w' ⟨rfl, rfl⟩))
      go_still_tail 13, (by kernel_rfl)
      change wpList _ _ _ _ _ w.drew
      go_wp2_with fail
      refine HW.out.2.2.mono ?_
      rintro e V ⟨rfl, hV, hT⟩
      have k6 := hV.cl 6 rfl
      have g6 := hV.head.free 6
      have HE := Lib.hid (And.intro (hV.put 6 (.int .i64 ((c.inc.follow n : Nat) : Int)) { c.inc with ln := c.inc.follow n } rfl HF.out) hT)
      clear hV hT
      go_wp2
      go_ret2
      exact ⟨rfl, HE.out.1.1, HE.out.2.trans HE.out.1.2⟩
    · rw [hl] at HI c6
      have c9 := h.cl 9 rfl
      obtain ⟨h1, h2, h3⟩ := KEY.out 9 (.int .i64 (c.a2 + 1)) (by unfold Ct.inc; rw [hl]; simp [Ct.cells, hl]) _ rfl
      have HW := Lib.hid (And.intro h1 (And.intro h2 h3)); clear h1 h2 h3
      clear h h0 h4 hl he hok f8 f10 b1 b3 d1 d3 hg
      have HF := Lib.hid hfl; clear hfl
      go_enter Try.func14, Try.ntmps14
      go_wp2_with (first | (go_at_call 30; refine HN.out.mono ?_; rintro e w' ⟨rfl, rfl⟩) | (go_at_call 31; refine HI.out.mono ?_; rintro e w' ⟨rfl, rfl⟩) | (go_at_call 33; refine HD.out.mono ?_; rintro e w' ⟨rfl, rfl⟩))
      go_still_tail 13, (by kernel_rfl)
      change wpList _ _ _ _ _ w.drew
      go_wp2_with fail
      refine HW.out.2.2.mono ?_
      rintro e V ⟨rfl, hV, hT⟩
      have k6 := hV.cl 6 rfl
      have g6 := hV.head.free 6
      have HE := Lib.hid (And.intro (hV.put 6 (.int .i64 ((c.inc.follow n : Nat) : Int)) { c.inc with ln := c.inc.follow n } rfl HF.out) hT)
      clear hV hT
      go_wp2
      go_ret2
      exact ⟨rfl, HE.out.1.1, HE.out.2.trans HE.out.1.2⟩
    · rw [hl] at HI c6
      have c10 := h.cl 10 rfl
      obtain ⟨h1, h2, h3⟩ := KEY.out 10 (.int .i64 (c.a3 + 1)) (by unfold Ct.inc; rw [hl]; simp [Ct.cells, hl]) _ rfl
      have HW := Lib.hid (And.intro h1 (And.intro h2 h3)); clear h1 h2 h3
      clear h h0 h4 hl he hok f8 f9 b1 b2 d1 d2 hg
      have HF := Lib.hid hfl; clear hfl
      go_enter Try.func14, Try.ntmps14
      go_wp2_with (first | (go_at_call 30; refine HN.out.mono ?_; rintro e w' ⟨rfl, rfl⟩) | (go_at_call 31; refine HI.out.mono ?_; rintro e w' ⟨rfl, rfl⟩) | (go_at_call 33; refine HD.out.mono ?_; rintro e w' ⟨rfl, rfl⟩))
      go_still_tail 13, (by kernel_rfl)
      change wpList _ _ _ _ _ w.drew
      go_wp2_with fail
      refine HW.out.2.2.mono ?_
      rintro e V ⟨rfl, hV, hT⟩
      have k6 := hV.cl 6 rfl
      have g6 := hV.head.free 6
      have HE := Lib.hid (And.intro (hV.put 6 (.int .i64 ((c.inc.follow n : Nat) : Int)) { c.inc with ln := c.inc.follow n } rfl HF.out) hT)
      clear hV hT
      go_wp2
      go_ret2
      exact ⟨rfl, HE.out.1.1, HE.out.2.trans HE.out.1.2⟩
    · exact absurd hl h4

/-! ### Counts, Try -/
theorem oneCts (c : Ct) : (c.cts.toArray).all (·.oneCell') = true := by simp [Ct.cts, Value.oneCell']
theorem CtAt.rangeC (h : CtAt w a c) : w.rangeAt a 7 c.cts := h.head.range (fun i v hi => by
  match i, (List.getElem?_eq_some_iff.1 hi).1 with
  | 0, _ => exact hi | 1, _ => exact hi | 2, _ => exact hi | 3, _ => exact hi | 4, _ => exact hi)
theorem range_later {b o : Nat} {cs : List Value} (h : w.rangeAt b o cs) (hb : b < w.heap.size) (hw : Below w.heap.size w w') : w'.rangeAt b o cs := fun i v hi => by
  rw [World.cell?_of_block (a := ⟨b, o + i, none⟩) (hw.block b hb)]; exact h i v hi
/-- A fresh box of five numbers, with numbers in it. -/
theorem fbox (w : World) (c : Ct) : ∃ W, W = (w.alloc (.cells zero5.toArray 42)).setCells w.heap.size 0 c.cts ∧ Below w.heap.size w W ∧ (w.alloc (.cells zero5.toArray 42)).there w.heap.size 0 5 ∧ W.rangeAt w.heap.size 0 c.cts :=
  ⟨_, rfl, below_cells (Nat.le_refl _) _ _ _ ((Below.refl _ w).alloc (Nat.le_refl _) _), there_new w zero5 42 5 rfl, range_set c.cts (there_new w zero5 42 5 rfl)⟩
theorem Try.loadFive {w : World} {b o : Nat} (c : Ct) (h : w.rangeAt b o c.cts) : (loadVar 42 ⟨b, o, none⟩).run Try.prog w = .ok (.agg c.cts.toArray) w :=
  run_loadVar_mid w b o 42 c.cts _ h Try.underlying42 rfl Try.sizeFive

set_option maxRecDepth 100000 in
set_option maxHeartbeats 1000000 in
theorem counts_r (h : w.rangeAt a 7 c.cts) (ha : a < w.heap.size) : Calls Try.prog 15 #[.pointer (some ⟨a, 0, none⟩)] w fun e w' => e = .returned (.agg c.cts.toArray) ∧ Below w.heap.size w w' := by
  have hr : (w.alloc (.cells zero5.toArray 42)).rangeAt a 7 c.cts := range_later h ha ((Below.refl _ w).alloc (Nat.le_refl _) _)
  clear h
  obtain ⟨W, eW, hb, ht, hl⟩ := fbox w c
  have HR := Lib.hid hr; clear hr
  have HT := Lib.hid ht; clear ht
  have HE := Lib.hid eW; clear eW
  have HB := Lib.hid hb; clear hb
  have HL := Lib.hid hl; clear hl
  go_enter Try.func15, Try.ntmps15
  go_wp2_with (first | (refine wpList_load_mid rfl 42 (.tmp 8) rfl a 7 rfl c.cts _ ?_ Try.underlying42 rfl Try.sizeFive ?_; exact HR.out) | (refine wpList_store_mid rfl 42 (.tmp 2) (.tmp 9) rfl w.heap.size 0 c.cts.toArray rfl rfl ?_ Try.sizeFive (oneCts _) ?_; exact HT.out; change wpList _ _ _ _ _ ((w.alloc (.cells zero5.toArray 42)).setCells w.heap.size 0 c.cts); rw [← HE.out]))
  exact bodyPost_ret (results_c rfl rfl (Try.loadFive c HL.out)) rfl ⟨rfl, HB.out⟩
theorem counts_any (h : CtAt w a c) : Calls Try.prog 15 #[.pointer (some ⟨a, 0, none⟩)] w fun e w' => e = .returned (.agg c.cts.toArray) ∧ Below w.heap.size w w' := counts_r h.rangeC h.head.lt

set_option maxRecDepth 100000 in
set_option maxHeartbeats 1000000 in
theorem counts_nil (w : World) : Calls Try.prog 15 #[.pointer none] w fun e w' => e = .returned (.agg Ct.zero.cts.toArray) ∧ Below w.heap.size w w' := by
  obtain ⟨W, eW, hb, ht, hl⟩ := fbox w Ct.zero
  have HT := Lib.hid ht; clear ht
  have HE := Lib.hid eW; clear eW
  have HB := Lib.hid hb; clear hb
  have HL := Lib.hid hl; clear hl
  go_enter Try.func15, Try.ntmps15
  go_wp2_with (refine wpList_store_mid rfl 42 (.tmp 2) (.tmp 5) rfl w.heap.size 0 Ct.zero.cts.toArray rfl rfl ?_ Try.sizeFive (oneCts _) ?_; exact HT.out; change wpList _ _ _ _ _ ((w.alloc (.cells zero5.toArray 42)).setCells w.heap.size 0 Ct.zero.cts); rw [← HE.out])
  exact bodyPost_ret (results_c rfl rfl (Try.loadFive Ct.zero HL.out)) rfl ⟨rfl, HB.out⟩

set_option maxRecDepth 100000 in
set_option maxHeartbeats 1000000 in
theorem try_of {p : Value} (h : Calls Try.prog 15 #[p] w fun e w' => e = .returned (.agg c.cts.toArray) ∧ Below w.heap.size w w') (h1 : 0 ≤ c.a1 ∧ c.a1 ≤ 16) (h2 : 0 ≤ c.a2 ∧ c.a2 ≤ 16) (h3 : 0 ≤ c.a3 ∧ c.a3 ≤ 16) :
    Calls Try.prog 19 #[p] w fun e w' => e = .returned (.int .i64 c.try_) ∧ Below w.heap.size w w' := by
  have H := Lib.hid h; clear h
  unfold Ct.try_
  unfold Ct.cts at H
  generalize c.a1 = x at *
  generalize c.a2 = y at *
  generalize c.a3 = z at *
  have i0 : ∀ w : World, (Instr.index 42 (.agg #[.int .i64 0, .int .i64 x, .int .i64 y, .int .i64 z, .int .i64 0]) (.int .i64 0)).run Try.prog w = .ok (.int .i64 0) w := fun _ => by kernel_rfl
  have i1 : ∀ w : World, (Instr.index 42 (.agg #[.int .i64 0, .int .i64 x, .int .i64 y, .int .i64 z, .int .i64 0]) (.int .i64 1)).run Try.prog w = .ok (.int .i64 x) w := fun _ => by kernel_rfl
  have i2 : ∀ w : World, (Instr.index 42 (.agg #[.int .i64 0, .int .i64 x, .int .i64 y, .int .i64 z, .int .i64 0]) (.int .i64 2)).run Try.prog w = .ok (.int .i64 y) w := fun _ => by kernel_rfl
  have i3 : ∀ w : World, (Instr.index 42 (.agg #[.int .i64 0, .int .i64 x, .int .i64 y, .int .i64 z, .int .i64 0]) (.int .i64 3)).run Try.prog w = .ok (.int .i64 z) w := fun _ => by kernel_rfl
  have i4 : ∀ w : World, (Instr.index 42 (.agg #[.int .i64 0, .int .i64 x, .int .i64 y, .int .i64 z, .int .i64 0]) (.int .i64 4)).run Try.prog w = .ok (.int .i64 0) w := fun _ => by kernel_rfl
  go_enter Try.func19, Try.ntmps19
  go_wp2_with (go_at_call 15; refine H.out.mono ?_; rintro e V ⟨rfl, hb⟩; have HB := Lib.hid hb; clear hb)
  refine wp_loop_rounds 6 ?_
  rw [rounds_succ]
  go_wp2
  rw [rounds_succ]
  go_wp2
  rw [rounds_succ]
  go_wp2
  rw [rounds_succ]
  go_wp2
  rw [rounds_succ]
  go_wp2
  rw [rounds_succ]
  go_wp2
  go_ret
  exact ⟨by simp, HB.out⟩
theorem Ct.Good.b1 (h : c.Good) : 0 ≤ c.a1 ∧ c.a1 ≤ 16 := ⟨h.a10, Int.le_trans h.a11 h.f1⟩
theorem Ct.Good.b2 (h : c.Good) : 0 ≤ c.a2 ∧ c.a2 ≤ 16 := ⟨h.a20, Int.le_trans h.a21 h.s1⟩
theorem Ct.Good.b3 (h : c.Good) : 0 ≤ c.a3 ∧ c.a3 ≤ 16 := ⟨h.a30, Int.le_trans h.a31 h.o1⟩
theorem try_any (h : CtAt w a c) (hg : c.Good) : Calls Try.prog 19 #[.pointer (some ⟨a, 0, none⟩)] w fun e w' => e = .returned (.int .i64 c.try_) ∧ Below w.heap.size w w' := try_of (counts_any h) hg.b1 hg.b2 hg.b3
theorem try_nil (w : World) : Calls Try.prog 19 #[.pointer none] w fun e w' => e = .returned (.int .i64 0) ∧ Below w.heap.size w w' := try_of (c := Ct.zero) (counts_nil w) (by decide) (by decide) (by decide)

/-! ### Calls on none -/
theorem enter_none {p : Value} (hn : Calls Try.prog 30 #[p] w fun e w' => e = .returned (.bool true) ∧ w = w') : Calls Try.prog 13 #[p] w fun e w' => e = .returned (.tuple #[.int .i64 0, .int .i64 1]) ∧ w = w' := by
  have HN := Lib.hid hn; clear hn
  go_enter Try.func13, Try.ntmps13
  go_wp2_with (go_at_call 30; refine HN.out.mono ?_; rintro e w' ⟨rfl, rfl⟩)
  go_ret2
  exact ⟨rfl, rfl⟩
theorem abort_none {p : Value} (hn : Calls Try.prog 30 #[p] w fun e w' => e = .returned (.bool true) ∧ w = w') (n : Int) : Calls Try.prog 14 #[p, .int .i64 n] w fun e w' => e = .returned (.tuple #[.int .i64 0, .int .i64 1]) ∧ w = w' := by
  have HN := Lib.hid hn; clear hn
  go_enter Try.func14, Try.ntmps14
  go_wp2_with (go_at_call 30; refine HN.out.mono ?_; rintro e w' ⟨rfl, rfl⟩)
  go_ret2
  exact ⟨rfl, rfl⟩
theorem leave_none {p : Value} (hn : Calls Try.prog 30 #[p] w fun e w' => e = .returned (.bool true) ∧ w = w') : Calls Try.prog 16 #[p] w fun e w' => e = .returned (.int .i64 1) ∧ w = w' := by
  have HN := Lib.hid hn; clear hn
  go_enter Try.func16, Try.ntmps16
  go_wp2_with (go_at_call 30; refine HN.out.mono ?_; rintro e w' ⟨rfl, rfl⟩)
  go_ret
  exact ⟨rfl, rfl⟩
end

/-! ### Budgets -/
def MayB (f s o : Int) : Prop := (0 ≤ f ∧ f ≤ 16) ∧ (0 ≤ s ∧ s ≤ 16) ∧ (0 ≤ o ∧ o ≤ 16)
instance (f s o : Int) : Decidable (MayB f s o) := by unfold MayB; infer_instance
def bud (f s o : Int) : Value := .agg #[.int .i64 f, .int .i64 s, .int .i64 o]

set_option maxRecDepth 100000 in
set_option maxHeartbeats 1000000 in
theorem may_ok {f s o : Int} (h : MayB f s o) (w : World) : Calls Try.prog 25 #[bud f s o] w fun e w' => e = .returned (.bool true) ∧ Below w.heap.size w w' := by
  obtain ⟨⟨h1, h2⟩, ⟨h3, h4⟩, h5, h6⟩ := h
  have HB := Lib.hid ((Below.refl _ w).alloc (Nat.le_refl _) (.cells #[.int .i64 f, .int .i64 s, .int .i64 o] 23))
  have e1 : decide (f < 0) = false := by simp; omega
  have e2 : decide (16 < f) = false := by simp; omega
  have e3 : decide (s < 0) = false := by simp; omega
  have e4 : decide (16 < s) = false := by simp; omega
  have e5 : decide (o < 0) = false := by simp; omega
  have e6 : decide (16 < o) = false := by simp; omega
  have i0 : ∀ w : World, (Instr.index 59 (.agg #[.int .i64 f, .int .i64 s, .int .i64 o]) (.int .i64 0)).run Try.prog w = .ok (.int .i64 f) w := fun _ => by kernel_rfl
  have i1 : ∀ w : World, (Instr.index 59 (.agg #[.int .i64 f, .int .i64 s, .int .i64 o]) (.int .i64 1)).run Try.prog w = .ok (.int .i64 s) w := fun _ => by kernel_rfl
  have i2 : ∀ w : World, (Instr.index 59 (.agg #[.int .i64 f, .int .i64 s, .int .i64 o]) (.int .i64 2)).run Try.prog w = .ok (.int .i64 o) w := fun _ => by kernel_rfl
  unfold bud
  go_enter Try.func25, Try.ntmps25
  go_wp2
  refine wp_loop_rounds 4 ?_
  rw [rounds_succ]
  go_wp2
  rw [rounds_succ]
  go_wp2
  rw [rounds_succ]
  go_wp2
  rw [rounds_succ]
  go_wp2
  go_ret
  exact ⟨rfl, HB.out⟩


set_option maxRecDepth 100000 in
set_option maxHeartbeats 1000000 in
theorem may_no {f s o : Int} (h : ¬ MayB f s o) (w : World) : Calls Try.prog 25 #[bud f s o] w fun e w' => e = .returned (.bool false) ∧ Below w.heap.size w w' := by
  have HB := Lib.hid ((Below.refl _ w).alloc (Nat.le_refl _) (.cells #[.int .i64 f, .int .i64 s, .int .i64 o] 23))
  have i0 : ∀ w : World, (Instr.index 59 (.agg #[.int .i64 f, .int .i64 s, .int .i64 o]) (.int .i64 0)).run Try.prog w = .ok (.int .i64 f) w := fun _ => by kernel_rfl
  have i1 : ∀ w : World, (Instr.index 59 (.agg #[.int .i64 f, .int .i64 s, .int .i64 o]) (.int .i64 1)).run Try.prog w = .ok (.int .i64 s) w := fun _ => by kernel_rfl
  have i2 : ∀ w : World, (Instr.index 59 (.agg #[.int .i64 f, .int .i64 s, .int .i64 o]) (.int .i64 2)).run Try.prog w = .ok (.int .i64 o) w := fun _ => by kernel_rfl
  unfold bud
  by_cases n0 : f < 0
  · have q : decide (f < 0) = true := by simp; omega
    go_enter Try.func25, Try.ntmps25
    go_wp2
    refine wp_loop_rounds 1 ?_
    rw [rounds_succ]
    go_wp2
    go_ret
    exact ⟨rfl, HB.out⟩
  by_cases m0 : 16 < f
  · have q0 : decide (f < 0) = false := by simp; omega
    have q : decide (16 < f) = true := by simp; omega
    go_enter Try.func25, Try.ntmps25
    go_wp2
    refine wp_loop_rounds 1 ?_
    rw [rounds_succ]
    go_wp2
    go_ret
    exact ⟨rfl, HB.out⟩
  by_cases n1 : s < 0
  · have e0a : decide (f < 0) = false := by simp; omega
    have e0b : decide (16 < f) = false := by simp; omega
    have q : decide (s < 0) = true := by simp; omega
    go_enter Try.func25, Try.ntmps25
    go_wp2
    refine wp_loop_rounds 2 ?_
    rw [rounds_succ]
    go_wp2
    rw [rounds_succ]
    go_wp2
    go_ret
    exact ⟨rfl, HB.out⟩
  by_cases m1 : 16 < s
  · have e0a : decide (f < 0) = false := by simp; omega
    have e0b : decide (16 < f) = false := by simp; omega
    have q0 : decide (s < 0) = false := by simp; omega
    have q : decide (16 < s) = true := by simp; omega
    go_enter Try.func25, Try.ntmps25
    go_wp2
    refine wp_loop_rounds 2 ?_
    rw [rounds_succ]
    go_wp2
    rw [rounds_succ]
    go_wp2
    go_ret
    exact ⟨rfl, HB.out⟩
  by_cases n2 : o < 0
  · have e0a : decide (f < 0) = false := by simp; omega
    have e0b : decide (16 < f) = false := by simp; omega
    have e1a : decide (s < 0) = false := by simp; omega
    have e1b : decide (16 < s) = false := by simp; omega
    have q : decide (o < 0) = true := by simp; omega
    go_enter Try.func25, Try.ntmps25
    go_wp2
    refine wp_loop_rounds 3 ?_
    rw [rounds_succ]
    go_wp2
    rw [rounds_succ]
    go_wp2
    rw [rounds_succ]
    go_wp2
    go_ret
    exact ⟨rfl, HB.out⟩
  by_cases m2 : 16 < o
  · have e0a : decide (f < 0) = false := by simp; omega
    have e0b : decide (16 < f) = false := by simp; omega
    have e1a : decide (s < 0) = false := by simp; omega
    have e1b : decide (16 < s) = false := by simp; omega
    have q0 : decide (o < 0) = false := by simp; omega
    have q : decide (16 < o) = true := by simp; omega
    go_enter Try.func25, Try.ntmps25
    go_wp2
    refine wp_loop_rounds 3 ?_
    rw [rounds_succ]
    go_wp2
    rw [rounds_succ]
    go_wp2
    rw [rounds_succ]
    go_wp2
    go_ret
    exact ⟨rfl, HB.out⟩
  exact absurd (show MayB f s o from ⟨⟨by omega, by omega⟩, ⟨by omega, by omega⟩, by omega, by omega⟩) h

end Go.Proofs.Ytncepiaacadcpaa
