/- A path: what is asked of it. Conditions: those stated in each theorem. -/
import Derived.Test.YtgdfiggloifncaaSoftD
namespace Go.Proofs.Ytgdfiggloifncaa
open Go.RowKit Go.BigFrame Go.Maps
attribute [local go_sem] run_store_func

theorem Try.ptr_sameP (w : World) (x : Addr) : (binOp .neq 23 (.pointer (some x)) (.pointer (some x))).run Try.prog w = .ok (.bool false) w := by
  have h : (Try.prog.info? 57).isSome = true := by kernel_rfl
  obtain ⟨j, hj⟩ := Option.isSome_iff_exists.1 h
  exact Lib.run_neq_ptr_same w x Try.underlying23 hj
theorem Try.ptr_noneP (w : World) (x : Addr) : (binOp .neq 23 (.pointer none) (.pointer (some x))).run Try.prog w = .ok (.bool true) w := by
  have h : ∀ d : Nat, (Op.equalIn (d + 1) 23 (.pointer none) (.pointer (some x))).run Try.prog w = .ok false w := fun d => by
    simp [Op.equalIn, run_underlying Try.underlying23]
  simp only [binOp]
  simp [Op.equal, Op.maxDepth, h 9999]
theorem Try.fun_nil (w : World) : (binOp .neq 55 .nilFunc .nilFunc).run Try.prog w = .ok (.bool false) w := by kernel_rfl
theorem Try.fun_some (w : World) (fn : Fn) (fs cs : Array Value) : (binOp .neq 55 (.func fn fs cs) .nilFunc).run Try.prog w = .ok (.bool true) w := by
  have h : ∀ d : Nat, (Op.equalIn (d + 1) 55 (.func fn fs cs) .nilFunc).run Try.prog w = .ok false w := fun d => by
    simp [Op.equalIn, run_underlying Try.underlying55]
  simp only [binOp]
  simp [Op.equal, Op.maxDepth, h 9999]

/-- What comes behind an answer, or nothing. -/
def FnV (b : Bool) (v : Value) : Prop := match b with | false => v = .nilFunc | true => ∃ g fs cs, v = .func (.func g) fs cs

section
variable {w w' : World} {N M C S : Nat → Prop} {p lg : Nat} {x : PW} {v : Value} {f : Lg} {b : Bool}

set_option maxHeartbeats 400000 in
theorem pnone_any (h : PB w p lg x v) : Calls Try.prog 47 #[.pointer (some ⟨p, 0, none⟩)] w fun e w' => e = .returned (.bool false) ∧ w = w' := by
  have c0 := Holds.cell h (i := 0) rfl
  clear h
  have hq := Try.ptr_sameP
  go_enter Try.func47, Try.ntmps47
  go_wp2
  go_ret
  exact ⟨rfl, rfl⟩
set_option maxHeartbeats 400000 in
theorem pnone_nil : Calls Try.prog 47 #[.pointer none] w fun e w' => e = .returned (.bool true) ∧ w = w' := by
  go_enter Try.func47, Try.ntmps47
  go_wp2
  go_ret
  exact ⟨rfl, rfl⟩
set_option maxHeartbeats 400000 in
theorem pnone_bare (h : w.cell? ⟨p, 0, none⟩ = some (.pointer none)) : Calls Try.prog 47 #[.pointer (some ⟨p, 0, none⟩)] w fun e w' => e = .returned (.bool true) ∧ w = w' := by
  have hq := Try.ptr_noneP
  go_enter Try.func47, Try.ntmps47
  go_wp2
  go_ret
  exact ⟨rfl, rfl⟩

set_option maxHeartbeats 400000 in
theorem busy_any (h : PB w p lg x v) (hv : FnV b v) : Calls Try.prog 23 #[.pointer (some ⟨p, 0, none⟩)] w fun e w' => e = .returned (.bool b) ∧ w = w' := by
  have HN := Lib.hid (pnone_any h)
  have c12 := Holds.cell h (i := 12) rfl
  clear h
  have hq := Try.fun_nil
  have hq2 := Try.fun_some
  cases b with
  | false =>
    cases hv
    go_enter Try.func23, Try.ntmps23
    go_wp2_with (go_at_call 47; refine HN.out.mono ?_; rintro e w' ⟨rfl, rfl⟩)
    go_ret
    exact ⟨rfl, rfl⟩
  | true =>
    obtain ⟨g, fs, cs, rfl⟩ := hv
    go_enter Try.func23, Try.ntmps23
    go_wp2_with (go_at_call 47; refine HN.out.mono ?_; rintro e w' ⟨rfl, rfl⟩)
    go_ret
    exact ⟨rfl, rfl⟩

set_option maxHeartbeats 400000 in
theorem plive_any (h : PB w p lg x v) : Calls Try.prog 24 #[.pointer (some ⟨p, 0, none⟩)] w fun e w' => e = .returned (.bool x.live) ∧ w = w' := by
  have HN := Lib.hid (pnone_any h)
  have c1 := Holds.cell h (i := 5) rfl
  clear h
  go_enter Try.func24, Try.ntmps24
  go_wp2_with (go_at_call 47; refine HN.out.mono ?_; rintro e w' ⟨rfl, rfl⟩)
  go_ret
  exact ⟨rfl, rfl⟩

set_option maxHeartbeats 400000 in
theorem pwriting_any (h : PB w p lg x v) : Calls Try.prog 27 #[.pointer (some ⟨p, 0, none⟩)] w fun e w' => e = .returned (.bool x.writing) ∧ w = w' := by
  have HN := Lib.hid (pnone_any h)
  have c1 := Holds.cell h (i := 6) rfl
  clear h
  go_enter Try.func27, Try.ntmps27
  go_wp2_with (go_at_call 47; refine HN.out.mono ?_; rintro e w' ⟨rfl, rfl⟩)
  go_ret
  exact ⟨rfl, rfl⟩

set_option maxHeartbeats 400000 in
theorem pvalue_any (h : PB w p lg x v) : Calls Try.prog 25 #[.pointer (some ⟨p, 0, none⟩)] w fun e w' => e = .returned (.int .u64 x.val) ∧ w = w' := by
  have HN := Lib.hid (pnone_any h)
  have c1 := Holds.cell h (i := 3) rfl
  clear h
  go_enter Try.func25, Try.ntmps25
  go_wp2_with (go_at_call 47; refine HN.out.mono ?_; rintro e w' ⟨rfl, rfl⟩)
  go_ret
  exact ⟨rfl, rfl⟩

set_option maxHeartbeats 400000 in
theorem pended_any (h : PB w p lg x v) : Calls Try.prog 20 #[.pointer (some ⟨p, 0, none⟩)] w fun e w' => e = .returned (.int .i64 x.ended) ∧ w = w' := by
  have HN := Lib.hid (pnone_any h)
  have c1 := Holds.cell h (i := 7) rfl
  clear h
  go_enter Try.func20, Try.ntmps20
  go_wp2_with (go_at_call 47; refine HN.out.mono ?_; rintro e w' ⟨rfl, rfl⟩)
  go_ret
  exact ⟨rfl, rfl⟩

set_option maxHeartbeats 400000 in
theorem ppoints_any (h : PB w p lg x v) : Calls Try.prog 26 #[.pointer (some ⟨p, 0, none⟩)] w fun e w' => e = .returned (.int .i64 x.pts) ∧ w = w' := by
  have HN := Lib.hid (pnone_any h)
  have c1 := Holds.cell h (i := 4) rfl
  clear h
  go_enter Try.func26, Try.ntmps26
  go_wp2_with (go_at_call 47; refine HN.out.mono ?_; rintro e w' ⟨rfl, rfl⟩)
  go_ret
  exact ⟨rfl, rfl⟩

set_option maxHeartbeats 400000 in
theorem preads_any (h : PB w p lg x v) (hL : LgAt w S lg f) : Calls Try.prog 28 #[.pointer (some ⟨p, 0, none⟩)] w fun e w' => ∃ v, e = .returned v ∧ RowL w' w.heap.size v f.r ∧ Below w.heap.size w w' := by
  have HN := Lib.hid (pnone_any h)
  have HR := Lib.hid (reads_any hL)
  have c1 := Holds.cell h (i := 1) rfl
  clear h hL
  go_enter Try.func28, Try.ntmps28
  go_wp2_with (first | (go_at_call 47; refine HN.out.mono ?_; rintro e w' ⟨rfl, rfl⟩) | (go_at_call 55; refine HR.out.mono ?_; rintro e w' ⟨v, rfl, hv⟩; have Hv := Lib.hid hv; clear hv))
  go_ret
  exact ⟨v, rfl, Hv.out⟩

set_option maxHeartbeats 400000 in
theorem pwrites_any (h : PB w p lg x v) (hL : LgAt w S lg f) : Calls Try.prog 29 #[.pointer (some ⟨p, 0, none⟩)] w fun e w' => ∃ v, e = .returned v ∧ RowL w' w.heap.size v f.w ∧ Below w.heap.size w w' := by
  have HN := Lib.hid (pnone_any h)
  have HR := Lib.hid (writes_any hL)
  have c1 := Holds.cell h (i := 1) rfl
  clear h hL
  go_enter Try.func29, Try.ntmps29
  go_wp2_with (first | (go_at_call 47; refine HN.out.mono ?_; rintro e w' ⟨rfl, rfl⟩) | (go_at_call 53; refine HR.out.mono ?_; rintro e w' ⟨v, rfl, hv⟩; have Hv := Lib.hid hv; clear hv))
  go_ret
  exact ⟨v, rfl, Hv.out⟩

/-- May an operation not begin? -/
def shutE (b : Bool) (x : PW) : Int := if b || !x.live then 80 else 0
set_option maxHeartbeats 400000 in
theorem open_any (h : PB w p lg x v) (hv : FnV b v) : Calls Try.prog 52 #[.pointer (some ⟨p, 0, none⟩)] w fun e w' => e = .returned (.int .i64 (shutE b x)) ∧ w = w' := by
  have HN := Lib.hid (pnone_any h)
  have HB := Lib.hid (busy_any h hv)
  have c5 := Holds.cell h (i := 5) rfl
  clear h hv
  unfold shutE
  cases b with
  | true =>
    go_enter Try.func52, Try.ntmps52
    go_wp2_with (first | (go_at_call 47; refine HN.out.mono ?_; rintro e w' ⟨rfl, rfl⟩) | (go_at_call 23; refine HB.out.mono ?_; rintro e w' ⟨rfl, rfl⟩))
    go_ret
    exact ⟨rfl, rfl⟩
  | false =>
    cases hl : x.live with
    | true =>
      rw [hl] at c5
      go_enter Try.func52, Try.ntmps52
      go_wp2_with (first | (go_at_call 47; refine HN.out.mono ?_; rintro e w' ⟨rfl, rfl⟩) | (go_at_call 23; refine HB.out.mono ?_; rintro e w' ⟨rfl, rfl⟩))
      go_ret
      exact ⟨rfl, rfl⟩
    | false =>
      rw [hl] at c5
      go_enter Try.func52, Try.ntmps52
      go_wp2_with (first | (go_at_call 47; refine HN.out.mono ?_; rintro e w' ⟨rfl, rfl⟩) | (go_at_call 23; refine HB.out.mono ?_; rintro e w' ⟨rfl, rfl⟩))
      go_ret
      exact ⟨rfl, rfl⟩
def takesE (e a : Int) : Int := if e ≠ 0 then e else if a < 8 then 2 else 0
set_option maxHeartbeats 400000 in
theorem ptakes_any {u : Value} {e0 : Int} (ho : Calls Try.prog 52 #[u] w fun e w' => e = .returned (.int .i64 e0) ∧ w = w') (a : Int) : Calls Try.prog 44 #[u, .int .i64 a] w fun e w' => e = .returned (.int .i64 (takesE e0 a)) ∧ w = w' := by
  have HO := Lib.hid ho
  clear ho
  unfold takesE
  by_cases h1 : e0 = 0
  · subst h1
    by_cases h2 : a < 8
    · have d2 : decide (a < 8) = true := by simpa using h2
      simp only [ne_eq, not_true_eq_false, if_false, h2, if_true]
      go_enter Try.func44, Try.ntmps44
      go_wp2_with (go_at_call 52; refine HO.out.mono ?_; rintro e w' ⟨rfl, rfl⟩)
      go_ret
      exact ⟨rfl, rfl⟩
    · have d2 : decide (a < 8) = false := by simpa using h2
      simp only [ne_eq, not_true_eq_false, if_false, h2]
      go_enter Try.func44, Try.ntmps44
      go_wp2_with (go_at_call 52; refine HO.out.mono ?_; rintro e w' ⟨rfl, rfl⟩)
      go_ret
      exact ⟨rfl, rfl⟩
  · rw [if_pos h1]
    go_enter Try.func44, Try.ntmps44
    go_wp2_with (go_at_call 52; refine HO.out.mono ?_; rintro e w' ⟨rfl, rfl⟩)
    go_ret
    exact ⟨rfl, rfl⟩
end

end Go.Proofs.Ytgdfiggloifncaa
