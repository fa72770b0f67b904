/- The document's own path: Give, Want. Conditions: those stated in each theorem. -/
import Derived.Test.YthepmejfgbfilaaSoftY3
namespace Go.Proofs.Ythepmejfgbfilaa
open Go.RowKit Go.BigFrame Go.Maps

section
variable {w w' W : World} {C M T : Nat → Prop} {q : Nat} {y : PV} {R : World → Prop}

set_option maxRecDepth 100000 in
set_option maxHeartbeats 400000 in
theorem v_5 (v : Int) (ok : Bool) (c0 : w.cell? ⟨q, 0, none⟩ = some (.int .i64 5)) (hc : Calls Try.prog 61 #[.pointer (some ⟨q, 0, none⟩), .int .u64 v] w fun e w' => e = .returned (.tuple #[]) ∧ R w') : Calls Try.prog 41 #[.pointer (some ⟨q, 0, none⟩), .int .u64 v, .bool ok] w fun e w' => e = .returned (.int .i64 0) ∧ R w' := by
  have HC := Lib.hid hc; clear hc
  go_enter Try.func41, Try.ntmps41
  go_wp2_with (go_at_call 61; refine HC.out.mono ?_; rintro e w' ⟨rfl, h⟩; have HE := Lib.hid h; clear h)
  go_ret
  exact ⟨rfl, HE.out⟩

set_option maxRecDepth 100000 in
set_option maxHeartbeats 400000 in
theorem v_6 (v : Int) (ok : Bool) (c0 : w.cell? ⟨q, 0, none⟩ = some (.int .i64 6)) (hc : Calls Try.prog 62 #[.pointer (some ⟨q, 0, none⟩), .int .u64 v] w fun e w' => e = .returned (.tuple #[]) ∧ R w') : Calls Try.prog 41 #[.pointer (some ⟨q, 0, none⟩), .int .u64 v, .bool ok] w fun e w' => e = .returned (.int .i64 0) ∧ R w' := by
  have HC := Lib.hid hc; clear hc
  go_enter Try.func41, Try.ntmps41
  go_wp2_with (go_at_call 62; refine HC.out.mono ?_; rintro e w' ⟨rfl, h⟩; have HE := Lib.hid h; clear h)
  go_ret
  exact ⟨rfl, HE.out⟩

set_option maxRecDepth 100000 in
set_option maxHeartbeats 400000 in
theorem v_7 (v : Int) (ok : Bool) (c0 : w.cell? ⟨q, 0, none⟩ = some (.int .i64 7)) (hc : Calls Try.prog 62 #[.pointer (some ⟨q, 0, none⟩), .int .u64 v] w fun e w' => e = .returned (.tuple #[]) ∧ R w') : Calls Try.prog 41 #[.pointer (some ⟨q, 0, none⟩), .int .u64 v, .bool ok] w fun e w' => e = .returned (.int .i64 0) ∧ R w' := by
  have HC := Lib.hid hc; clear hc
  go_enter Try.func41, Try.ntmps41
  go_wp2_with (go_at_call 62; refine HC.out.mono ?_; rintro e w' ⟨rfl, h⟩; have HE := Lib.hid h; clear h)
  go_ret
  exact ⟨rfl, HE.out⟩

set_option maxRecDepth 100000 in
set_option maxHeartbeats 400000 in
theorem v_8 (v : Int) (ok : Bool) (c0 : w.cell? ⟨q, 0, none⟩ = some (.int .i64 8)) (hc : Calls Try.prog 62 #[.pointer (some ⟨q, 0, none⟩), .int .u64 v] w fun e w' => e = .returned (.tuple #[]) ∧ R w') : Calls Try.prog 41 #[.pointer (some ⟨q, 0, none⟩), .int .u64 v, .bool ok] w fun e w' => e = .returned (.int .i64 0) ∧ R w' := by
  have HC := Lib.hid hc; clear hc
  go_enter Try.func41, Try.ntmps41
  go_wp2_with (go_at_call 62; refine HC.out.mono ?_; rintro e w' ⟨rfl, h⟩; have HE := Lib.hid h; clear h)
  go_ret
  exact ⟨rfl, HE.out⟩

set_option maxRecDepth 100000 in
set_option maxHeartbeats 400000 in
theorem v_9 (v : Int) (ok : Bool) (c0 : w.cell? ⟨q, 0, none⟩ = some (.int .i64 9)) (hc : Calls Try.prog 63 #[.pointer (some ⟨q, 0, none⟩), .bool ok] w fun e w' => e = .returned (.tuple #[]) ∧ R w') : Calls Try.prog 41 #[.pointer (some ⟨q, 0, none⟩), .int .u64 v, .bool ok] w fun e w' => e = .returned (.int .i64 0) ∧ R w' := by
  have HC := Lib.hid hc; clear hc
  go_enter Try.func41, Try.ntmps41
  go_wp2_with (go_at_call 63; refine HC.out.mono ?_; rintro e w' ⟨rfl, h⟩; have HE := Lib.hid h; clear h)
  go_ret
  exact ⟨rfl, HE.out⟩

set_option maxRecDepth 100000 in
set_option maxHeartbeats 400000 in
theorem v_0 (v : Int) (ok : Bool) (c0 : w.cell? ⟨q, 0, none⟩ = some (.int .i64 0)) : Calls Try.prog 41 #[.pointer (some ⟨q, 0, none⟩), .int .u64 v, .bool ok] w fun e w' => e = .returned (.int .i64 80) ∧ w = w' := by
  go_enter Try.func41, Try.ntmps41
  go_wp2
  go_ret
  exact ⟨rfl, rfl⟩

set_option maxRecDepth 100000 in
set_option maxHeartbeats 400000 in
theorem v_11 (h : RAt w T q y) (v : Int) (ok : Bool) (hy : y.at_ = .back []) : Calls Try.prog 41 #[.pointer (some ⟨q, 0, none⟩), .int .u64 v, .bool ok] w fun e w' => e = .returned (.int .i64 0) ∧ ROut { y with at_ := .leaveN 1, writing := false } w T q w' := by
  obtain ⟨x, rv, wv, h1, h2, h3, h4, h5, h6, h7⟩ := h
  have ha := h2.at_
  rw [hy] at ha
  obtain ⟨k, hc, hi, hk, hl⟩ := ha
  have k4 := drop_nil hl hk
  rw [if_neg (by omega)] at hc
  have c0 := h1.head.cell (i := 0) rfl
  rw [hc] at c0
  have c12 := h1.head.cell (i := 13) rfl
  have f12 := h1.head.free 13
  have k1 : ROut { y with at_ := .back [], writing := false } w T q (w.setCell ⟨q, 13, none⟩ (.bool false)) := RfOut.to (x' := { x with writing := false }) (y' := { y with at_ := .back [], writing := false }) (RfOut.turned h1 ((Tch.refl (· = q) w).sq 13 _) (h1.head.set 13 _)) ⟨h2.snap, h2.val, h2.live, rfl, h2.ended, h2.pts, ⟨k, hc.trans (if_neg (by show ¬ (k < y.log.w.length); omega)).symm, hi, hk, hl⟩⟩ h3 h4 h5 h6 h7
  have HL := Lib.hid (rleave k1.1 1)
  have HX : Hid (∀ w', ROut { y with at_ := .leaveN 1, writing := false } (w.setCell ⟨q, 13, none⟩ (.bool false)) (Gr T w (w.setCell ⟨q, 13, none⟩ (.bool false))) q w' → ROut { y with at_ := .leaveN 1, writing := false } w T q w') := Lib.hid (fun w' k => ROut.trans k1.2 k)
  clear h1 h2 h3 h4 h5 k1
  go_enter Try.func41, Try.ntmps41
  go_wp2_with (go_at_call 60; refine HL.out.mono ?_; rintro e w9 ⟨rfl, h⟩; have HE := Lib.hid (HX.out _ h); clear h)
  go_ret
  exact ⟨rfl, HE.out⟩

theorem RAt.code (h : RAt w T q y) : ∃ x, AtR y.at_ x y.log ∧ w.cell? ⟨q, 0, none⟩ = some (.int .i64 x.code) := by
  obtain ⟨x, rv, wv, h1, h2, -⟩ := h
  exact ⟨x, h2.at_, h1.head.cell (i := 0) rfl⟩

theorem rgive_any (h : RAt w T q y) (h0 : 0 ≤ y.pts) (h9 : y.pts ≤ 1000000) (v : Int) (ok : Bool) (hn : W64 v) : Calls Try.prog 41 #[.pointer (some ⟨q, 0, none⟩), .int .u64 v, .bool ok] w fun e w' => e = .returned (.int .i64 y.errG) ∧ ROut (y.give v ok) w T q w' := by
  have hn0 : 0 ≤ v := (wf_u64_b hn).1
  obtain ⟨x, ha, c0⟩ := h.code
  unfold PV.errG PV.give
  cases hy : y.at_ with
  | no =>
    rw [hy] at ha
    rw [show x.code = 0 from ha] at c0
    rw [if_pos rfl]
    exact (v_0 v ok c0).mono fun e w' ⟨e1, e2⟩ => ⟨e1, e2 ▸ ROut.refl h⟩
  | beginN => exact rg_beginN h v ok hy
  | beginCas n =>
    cases ok
    · exact rg_beginCas_no h v n hy
    · exact rg_beginCas_yes h v n hy
  | beginSeq =>
    by_cases he : v % 2 = 0
    · simp only [if_pos he]
      exact rg_beginSeq_even h v ok h0 h9 hn0 he hy
    · simp only [if_neg he]
      exact rg_beginSeq_odd h v ok hn0 he hy
  | loadWord a => exact rg_loadWord h v a ok hy
  | leaveN how => exact rg_leaveN h v how ok hy
  | leaveCas how n =>
    cases ok
    · exact rg_leaveCas_no h v how n hy
    · exact rg_leaveCas_yes h v how n hy
  | loadSeq a n =>
    rw [hy] at ha
    rw [ha.1] at c0
    by_cases he : v = y.snap
    · subst he
      simp only [ne_eq, not_true_eq_false, if_false]
      exact v_5 y.snap ok c0 (l_same h a n h0 h9 hy)
    · simp only [ne_eq, he, not_false_eq_true, if_true]
      exact v_5 v ok c0 (l_diff h v a n he hy)
  | checkSeq t =>
    rw [hy] at ha
    rw [ha.1] at c0
    by_cases he : v % 2 = 0
    · simp only [if_pos he]
      rcases Nat.eq_zero_or_pos y.log.r.length with hr | hr
      · exact v_6 v ok c0 (k_even_none h v t hn0 he hr hy)
      · exact v_6 v ok c0 (k_even_some h v t hn0 he hr hy)
    · simp only [if_neg he]
      exact v_6 v ok c0 (k_odd h v t hn0 he hy)
  | check g l t =>
    rw [hy] at ha
    cases l with
    | nil =>
      obtain ⟨k, hc, hg, hi, hk, hl, ht⟩ := ha
      have k4 := drop_nil hl hk
      rw [if_neg (by omega)] at hc
      rw [hc] at c0
      by_cases he : v = g
      · subst he
        simp only [ne_eq, not_true_eq_false, if_false]
        cases t with
        | fetch a => exact v_8 v ok c0 (k_end_fetch h v a h0 h9 hy)
        | sign => exact v_8 v ok c0 (k_end_sign h v h0 h9 hy)
      · simp only [ne_eq, he, not_false_eq_true, if_true]
        exact v_8 v ok c0 (k_end_no h v g t he hy)
    | cons z l =>
      obtain ⟨k, hc, hg, hi, hk, hl, ht⟩ := ha
      rw [if_pos (drop_cons hl).1] at hc
      rw [hc] at c0
      by_cases he : v = z.v
      · subst he
        simp only [ne_eq, not_true_eq_false, if_false]
        by_cases hm : l = []
        · subst hm; exact v_7 z.v ok c0 (k_one_last h g z t hy)
        · exact v_7 z.v ok c0 (k_one_more h g z l t hm hy)
      · simp only [ne_eq, he, not_false_eq_true, if_true]
        exact v_7 v ok c0 (k_one_no h v g z l t he hy)
  | take =>
    rw [hy] at ha
    rw [ha.1] at c0
    cases ok
    · exact v_9 v false c0 (t_no h hy)
    · exact v_9 v true c0 (t_yes h h0 h9 hy)
  | back l =>
    cases l with
    | nil => exact v_11 h v ok hy
    | cons z l =>
      by_cases hm : l = []
      · subst hm; exact rg_back_end h v ok z hy
      · exact rg_back_more h v ok z l hm hy
end

end Go.Proofs.Ythepmejfgbfilaa
