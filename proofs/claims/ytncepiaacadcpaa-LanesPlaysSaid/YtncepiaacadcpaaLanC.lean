/- A control: following, Enter, Abort, Leave. Conditions: those stated in each theorem. -/
import Derived.Test.YtncepiaacadcpaaLanB
namespace Go.Proofs.Ytncepiaacadcpaa
open Go.RowKit Go.BigFrame

section
variable {w w' : World} {a : Nat} {c : Ct}
theorem Ct.from_le (c : Ct) (k : Nat) : c.from k ≤ 4 := by
  unfold Ct.from
  repeat' split
  all_goals omega
theorem Ct.follow_le (c : Ct) (h : c.ln ≤ 4) (n : Int) : c.follow n ≤ 4 := by
  unfold Ct.follow
  repeat' split
  · exact c.from_le _
  · exact c.from_le _
  · exact h

set_option maxRecDepth 100000 in
set_option maxHeartbeats 1000000 in
theorem following_any (h : CtAt w a c) (h0 : c.ln ≠ 0) (h4 : c.ln ≠ 4) (n : Int) : Calls Try.prog 34 #[.pointer (some ⟨a, 0, none⟩), .int .i64 n] w fun e w' => e = .returned (.int .i64 ((c.follow n : Nat) : Int)) ∧ Below w.heap.size w w' := by
  have HH := Lib.hid (hard_any h)
  have hl := Ct.ln_cases h.ln4
  have H := Lib.hid h
  have c6 := h.cl 6 rfl
  have c2 := h.cl 2 rfl
  have c3 := h.cl 3 rfl
  have c4 := h.cl 4 rfl
  have c8 := h.cl 8 rfl
  have c9 := h.cl 9 rfl
  have c10 := h.cl 10 rfl
  have hB : ∀ k ≤ 3, ∀ V, Below w.heap.size w V → Calls Try.prog 32 #[.pointer (some ⟨a, 0, none⟩), .int .i64 ((k : Nat) : Int)] V fun e w' => e = .returned (.int .i64 ((c.from (k + 1) : Nat) : Int)) ∧ Below w.heap.size w w' := fun k hk V hV =>
    (behind_any (h.below hV) k hk).mono fun e w' ⟨h1, h2⟩ => ⟨h1, hV.trans (h2.mono hV.size)⟩
  have HB := Lib.hid hB; clear hB
  have B0 := Lib.hid (Below.refl w.heap.size w)
  clear h
  unfold Ct.follow
  unfold Ct.hard at HH
  rcases hl with hl | hl | hl | hl | hl
  · exact absurd hl h0
  · rw [hl] at HH c6 ⊢
    clear hl h0 h4 c3 c4 c9 c10
    by_cases hn : n = 3
    · subst hn
      rw [if_pos (by omega)]
      go_enter Try.func34, Try.ntmps34
      go_wp2_with (first | (go_at_call 20; refine HH.out.mono ?_; rintro e w' ⟨rfl, rfl⟩) | (go_at_call 32; refine (HB.out 2 (by omega) _ B0.out).mono ?_; rintro e w' ⟨rfl, hb⟩))
      have Hb := Lib.hid hb; clear hb
      go_ret
      exact ⟨rfl, Hb.out⟩
    · have hn' : (n == 3) = false := by simpa using hn
      rw [if_neg (by omega)]
      clear hn
      by_cases he : c.a1 = c.f
      · rw [if_pos (show c.cnt 1 = c.lim 1 from he)]
        have he' : (c.a1 == c.f) = true := by simpa using he
        clear he
        go_enter Try.func34, Try.ntmps34
        go_wp2_with (go_at_call 20; refine HH.out.mono ?_; rintro e w' ⟨rfl, rfl⟩)
        go_quiet (fail)
        have HQ := Lib.hid (below_drewN B0.out nq)
        go_wp2_with (go_at_call 32; refine (HB.out 1 (by omega) _ HQ.out).mono ?_; rintro e w' ⟨rfl, hb⟩)
        have Hb := Lib.hid hb; clear hb
        go_ret
        exact ⟨rfl, Hb.out⟩
      · rw [if_neg (show ¬ c.cnt 1 = c.lim 1 from he)]
        have he' : (c.a1 == c.f) = false := by simpa using he
        clear he
        go_enter Try.func34, Try.ntmps34
        go_wp2_with (go_at_call 20; refine HH.out.mono ?_; rintro e w' ⟨rfl, rfl⟩)
        go_quiet (fail)
        have HQ := Lib.hid (below_drewN B0.out nq)
        go_wp2
        go_ret
        exact ⟨rfl, HQ.out⟩
  · rw [hl] at HH c6 ⊢
    clear hl h0 h4 c2 c4 c8 c10
    by_cases hn : n = 3
    · subst hn
      rw [if_pos (by omega)]
      go_enter Try.func34, Try.ntmps34
      go_wp2_with (first | (go_at_call 20; refine HH.out.mono ?_; rintro e w' ⟨rfl, rfl⟩) | (go_at_call 32; refine (HB.out 2 (by omega) _ B0.out).mono ?_; rintro e w' ⟨rfl, hb⟩))
      have Hb := Lib.hid hb; clear hb
      go_ret
      exact ⟨rfl, Hb.out⟩
    · have hn' : (n == 3) = false := by simpa using hn
      rw [if_neg (by omega)]
      clear hn
      by_cases he : c.a2 = c.s
      · rw [if_pos (show c.cnt 2 = c.lim 2 from he)]
        have he' : (c.a2 == c.s) = true := by simpa using he
        clear he
        go_enter Try.func34, Try.ntmps34
        go_wp2_with (go_at_call 20; refine HH.out.mono ?_; rintro e w' ⟨rfl, rfl⟩)
        go_quiet (fail)
        have HQ := Lib.hid (below_drewN B0.out nq)
        go_wp2_with (go_at_call 32; refine (HB.out 2 (by omega) _ HQ.out).mono ?_; rintro e w' ⟨rfl, hb⟩)
        have Hb := Lib.hid hb; clear hb
        go_ret
        exact ⟨rfl, Hb.out⟩
      · rw [if_neg (show ¬ c.cnt 2 = c.lim 2 from he)]
        have he' : (c.a2 == c.s) = false := by simpa using he
        clear he
        go_enter Try.func34, Try.ntmps34
        go_wp2_with (go_at_call 20; refine HH.out.mono ?_; rintro e w' ⟨rfl, rfl⟩)
        go_quiet (fail)
        have HQ := Lib.hid (below_drewN B0.out nq)
        go_wp2
        go_ret
        exact ⟨rfl, HQ.out⟩
  · rw [hl] at HH c6 ⊢
    clear hl h0 h4 c2 c3 c8 c9
    rw [if_neg (by omega)]
    by_cases he : c.a3 = c.o
    · rw [if_pos (show c.cnt 3 = c.lim 3 from he)]
      have he' : (c.a3 == c.o) = true := by simpa using he
      clear he
      go_enter Try.func34, Try.ntmps34
      go_wp2_with (go_at_call 20; refine HH.out.mono ?_; rintro e w' ⟨rfl, rfl⟩)
      go_quiet (fail)
      have HQ := Lib.hid (below_drewN B0.out nq)
      go_wp2_with (go_at_call 32; refine (HB.out 3 (by omega) _ HQ.out).mono ?_; rintro e w' ⟨rfl, hb⟩)
      have Hb := Lib.hid hb; clear hb
      go_ret
      exact ⟨rfl, Hb.out⟩
    · rw [if_neg (show ¬ c.cnt 3 = c.lim 3 from he)]
      have he' : (c.a3 == c.o) = false := by simpa using he
      clear he
      go_enter Try.func34, Try.ntmps34
      go_wp2_with (go_at_call 20; refine HH.out.mono ?_; rintro e w' ⟨rfl, rfl⟩)
      go_quiet (fail)
      have HQ := Lib.hid (below_drewN B0.out nq)
      go_wp2
      go_ret
      exact ⟨rfl, HQ.out⟩
  · exact absurd hl h4

set_option maxRecDepth 100000 in
set_option maxHeartbeats 1000000 in
theorem enter_any (h : CtAt w a c) : Calls Try.prog 13 #[.pointer (some ⟨a, 0, none⟩)] w fun e w' => e = .returned (.tuple #[.int .i64 c.ansE, .int .i64 c.errE]) ∧ CtAt w' a c.enter ∧ Tch (· = a) w w' := by
  have HN := Lib.hid (none_any h)
  have HI := Lib.hid (inside_any h)
  unfold Ct.ansE Ct.errE Ct.enter
  by_cases h0 : c.ln = 0
  · rw [if_pos h0, if_pos h0, if_pos h0]
    rw [h0] at HI
    have HB := Lib.hid (behind_any h 0 (by omega))
    have H := Lib.hid h
    have hal := h.head.lt
    clear h
    go_enter Try.func13, Try.ntmps13
    go_wp2_with (first | (go_at_call 30; refine HN.out.mono ?_; rintro e w' ⟨rfl, rfl⟩) | (go_at_call 31; refine HI.out.mono ?_; rintro e w' ⟨rfl, rfl⟩) | (go_at_call 32; refine HB.out.mono ?_; rintro e V ⟨rfl, hb⟩; have hV := H.out.below hb; have c6 := hV.cl 6 rfl; have f6 := hV.head.free 6; have HV := Lib.hid hV; have Hb := Lib.hid hb; clear hb hV))
    have HE := Lib.hid (HV.out.put 6 (.int .i64 ((c.from 1 : Nat) : Int)) { c with ln := c.from 1 } rfl (c.from_le 1))
    go_ret2
    exact ⟨rfl, HE.out.1, (Tch.of_idle Hb.out).trans HE.out.2⟩
  · rw [if_neg h0, if_neg h0, if_neg h0]
    have hi : ((c.ln : Int) != 0) = true := by simp; omega
    rw [hi] at HI
    have HE := Lib.hid (And.intro h (Tch.refl (· = a) w))
    clear h hi
    go_enter Try.func13, Try.ntmps13
    go_wp2_with (first | (go_at_call 30; refine HN.out.mono ?_; rintro e w' ⟨rfl, rfl⟩) | (go_at_call 31; refine HI.out.mono ?_; rintro e w' ⟨rfl, rfl⟩))
    go_ret2
    exact ⟨rfl, HE.out⟩

theorem Try.sizeFive : (Try.prog.info? 42).map (·.size) = some 5 := by kernel_rfl
def zero5 : List Value := [.int .i64 0, .int .i64 0, .int .i64 0, .int .i64 0, .int .i64 0]

set_option maxRecDepth 100000 in
set_option maxHeartbeats 1000000 in
theorem leave_any (h : CtAt w a c) : Calls Try.prog 16 #[.pointer (some ⟨a, 0, none⟩)] w fun e w' => e = .returned (.int .i64 c.errL) ∧ CtAt w' a c.leave ∧ Tch (· = a) w w' := by
  have HN := Lib.hid (none_any h)
  have HI := Lib.hid (inside_any h)
  unfold Ct.errL Ct.leave
  by_cases h0 : c.ln = 0
  · rw [if_pos h0, if_pos h0]
    rw [h0] at HI
    have HE := Lib.hid (And.intro h (Tch.refl (· = a) w))
    clear h
    go_enter Try.func16, Try.ntmps16
    go_wp2_with (first | (go_at_call 30; refine HN.out.mono ?_; rintro e w' ⟨rfl, rfl⟩) | (go_at_call 31; refine HI.out.mono ?_; rintro e w' ⟨rfl, rfl⟩))
    go_ret
    exact ⟨rfl, HE.out⟩
  · rw [if_neg h0, if_neg h0]
    have hi : ((c.ln : Int) != 0) = true := by simp; omega
    rw [hi] at HI
    have c6 := h.cl 6 rfl
    have f6 := h.head.free 6
    have hw1 := h.head.set 6 (.int .i64 0)
    have ht1 := hw1.there (o := 7) (n := 5) (by show 12 ≤ 12; omega)
    have hw2 := hw1.sets zero5 7
    have hT : Tch (· = a) w ((w.setCell ⟨a, 6, none⟩ (.int .i64 0)).setCells a 7 zero5) := Tch.setCells (C := (· = a)) (.inl rfl) _ _ (Tch.setCell (C := (· = a)) (Tch.refl _ w) (p := ⟨a, 6, none⟩) (.inl rfl) _)
    have HE := Lib.hid (And.intro (show CtAt ((w.setCell ⟨a, 6, none⟩ (.int .i64 0)).setCells a 7 zero5) a (Ct.new c.f c.s c.o) from ⟨hw2, by simp [Ct.new]⟩) hT)
    have HT := Lib.hid ht1
    clear h hw1 hw2 ht1 hT hi
    go_enter Try.func16, Try.ntmps16
    go_wp2_with (first | (go_at_call 30; refine HN.out.mono ?_; rintro e w' ⟨rfl, rfl⟩) | (go_at_call 31; refine HI.out.mono ?_; rintro e w' ⟨rfl, rfl⟩) | (refine wpList_store_mid rfl 42 (.tmp 14) (.tmp 10) rfl a 7 zero5.toArray rfl rfl ?_ Try.sizeFive (by simp [zero5, Value.oneCell']) ?_; exact HT.out; change wpList _ _ _ _ _ ((w.setCell ⟨a, 6, none⟩ (.int .i64 0)).setCells a 7 zero5)))
    go_ret
    exact ⟨rfl, HE.out⟩
end

end Go.Proofs.Ytncepiaacadcpaa
