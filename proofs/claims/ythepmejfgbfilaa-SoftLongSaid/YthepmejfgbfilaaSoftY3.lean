/- The document's own path: a Load's end, a validation that fails, Give, Want. Conditions: those stated in each theorem. -/
import Derived.Test.YthepmejfgbfilaaSoftY2
import Derived.Deep.RegionHeld3
import Derived.StillTailTactics
namespace Go.Proofs.Ythepmejfgbfilaa
open Go.RowKit Go.BigFrame Go.Maps

section
variable {w w' W : World} {C M T : Nat → Prop} {q : Nat} {y : PV}

set_option maxRecDepth 100000 in
set_option maxHeartbeats 4000000 in
theorem l_ok2 (h : RAt w T q y) (a n : Int) (h0 : 0 ≤ y.pts) (h9 : y.pts ≤ 1000000) (hh : hasL y.log.r a = false) (he : errRead y.log.r a = 0) (hy : y.at_ = .loadSeq a n) : Calls Try.prog 61 #[.pointer (some ⟨q, 0, none⟩), .int .u64 y.snap] w fun e w' => e = .returned (.tuple #[]) ∧ ROut { y with at_ := .no, val := n, pts := y.pts + 1, log := y.log.read a n } w T q w' := by
  have h' := h
  obtain ⟨x, rv, wv, h1, h2, h3, h4, h5, h6, h7⟩ := h'
  have ha := h2.at_
  rw [hy] at ha
  have c2 := h1.head.cell (i := 2) rfl
  have c3 := h1.head.cell (i := 3) rfl
  have c8 := h1.head.cell (i := 8) rfl
  have c10 := h1.head.cell (i := 10) rfl
  rw [ha.2.1] at c2
  rw [ha.2.2] at c3
  rw [h2.snap] at c8
  obtain ⟨ad, cap, rfl, hr, -⟩ := h1.r.spot
  have HV := Lib.hid (fun k : Nat => rvalue_any (w.drewN k) ad cap y.log.r hr (by omega) a)
  have hd : ∀ k : Nat, Tch (fun _ => False) w (w.drewN k) := fun k => Tch.drewN (Tch.refl _ w) k
  have HF : Hid (∀ k : Nat, (w.drewN k).cell? ⟨q, 2, none⟩ = some (.int .i64 a) ∧ (w.drewN k).cell? ⟨q, 3, none⟩ = some (.int .u64 n)) := Lib.hid (fun k => ⟨c2, c3⟩)
  have HR : Hid (∀ k : Nat, Calls Try.prog 87 #[.pointer (some ⟨q, 10, none⟩), .int .i64 a, .int .u64 n] (w.drewN k) fun e w1 => e = .returned (.int .i64 (errRead y.log.r a)) ∧ (w1.cell? ⟨q, 2, none⟩ = some (.int .i64 a) ∧ w1.cell? ⟨q, 3, none⟩ = some (.int .u64 n)) ∧ ROut { y with log := y.log.read a n } w T q w1) := Lib.hid (fun k0 => (rread_any (h1.frame (hd k0) (fun e => e) (fun _ _ e => e) (fun _ _ e => e)) h6 a n).mono fun e w1 ⟨e1, k'⟩ => by
    have k : RfOut w q x (.slice ad y.log.r.length cap) wv (y.log.read a n) w1 := by
      obtain ⟨rv', wv', a1, a2, a3, a4⟩ := k'
      exact ⟨rv', wv', a1, ((hd k0).mono (fun _ _ e => e.elim)).trans a2, a3, a4⟩
    have kk := RfOut.to (y' := { y with log := y.log.read a n }) k ⟨h2.snap, h2.val, h2.live, h2.writing, h2.ended, h2.pts, by
      show AtR y.at_ _ _
      rw [hy]; exact ha⟩ h3 h4 h5 (readL_len h6 a n) h7
    refine ⟨e1, ?_, kk⟩
    obtain ⟨rv', wv', a1, a2, a3, a4⟩ := k'
    have d2 := a1.head.cell (i := 2) rfl
    have d3 := a1.head.cell (i := 3) rfl
    rw [ha.2.1] at d2
    rw [ha.2.2] at d3
    exact ⟨d2, d3⟩)
  have HR2 : Hid (∀ k : Nat, Calls Try.prog 87 #[.pointer (some ⟨q, 10, none⟩), .int .i64 a, .int .u64 n] (w.drewN k).drew fun e w1 => e = .returned (.int .i64 (errRead y.log.r a)) ∧ (w1.cell? ⟨q, 2, none⟩ = some (.int .i64 a) ∧ w1.cell? ⟨q, 3, none⟩ = some (.int .u64 n)) ∧ ROut { y with log := y.log.read a n } w T q w1) := Lib.hid (fun k => HR.out (k + 1))
  have hE := HF.out 0
  have HS : Hid (∀ k : Nat, (w.drewN k).drew.cell? ⟨q, 2, none⟩ = some (.int .i64 a) ∧ (w.drewN k).drew.cell? ⟨q, 3, none⟩ = some (.int .u64 n)) := Lib.hid (fun k => ⟨c2, c3⟩)
  rw [hh] at HV
  rw [he] at HR HR2
  clear h h1 h2 h3 h4 h5 h6 h7 hr ha hd
  generalize valL y.log.r a = z at *
  go_enter Try.func61, Try.ntmps61
  go_wp2
  go_quiet ((go_at_call 58; exact Calls.quiet_of_same ((HV.out _).mono (fun _ _ h => ⟨h.1, h.2.symm⟩))))
  go_wp2
  have c2 := (HF.out nq).1
  have c3 := (HF.out nq).2
  have HRW := Lib.hid (HR2.out nq)
  clear HR HR2 HF HS hE HV c8 c10
  have KK := Lib.hid (And.intro hy (And.intro h0 (And.intro h9 (And.intro hh he))))
  clear hy h0 h9 hh he
  generalize w.drewN nq = W1 at *
  go_still_tail 21, (by kernel_rfl)
  change wpList _ _ _ _ _ W1.drew
  obtain ⟨hy, h0, h9, hh, he⟩ := KK.out
  go_wp2_with (go_at_call 87; refine HRW.out.mono ?_; rintro e V ⟨rfl, hE, hO⟩; obtain ⟨x2, rv2, wv2, k1, k2, k3, k4, k5, k6, k7⟩ := id hO.1; have ka : AtR y.at_ _ _ := k2.at_; rw [hy] at ka; have e15 : x2.pts = y.pts := k2.pts; have k0 := k1.head.cell (i := 0) rfl; have kc3 := k1.head.cell (i := 3) rfl; rw [ka.2.2] at kc3; have kc9 := k1.head.cell (i := 9) rfl; have kc15 := k1.head.cell (i := 15) rfl; rw [e15] at kc15; have f0 := k1.head.free 0; have f9 := k1.head.free 9; have f15 := k1.head.free 15; have HE : Hid (ROut { y with at_ := .no, val := n, pts := y.pts + 1, log := y.log.read a n } w T q (((V.setCell ⟨q, 9, none⟩ (.int .u64 n)).setCell ⟨q, 15, none⟩ (.int .i64 (y.pts + 1))).setCell ⟨q, 0, none⟩ (.int .i64 0))) := Lib.hid (ROut.trans hO.2 (RfOut.to (x' := { x2 with val := n, pts := y.pts + 1, code := 0 }) (y' := { y with at_ := .no, val := n, pts := y.pts + 1, log := y.log.read a n }) (RfOut.turned k1 ((((Tch.refl (· = q) V).sq 9 _).sq 15 _).sq 0 _) (((k1.head.set 9 _).set 15 _).set 0 _)) ⟨k2.snap, rfl, k2.live, k2.writing, k2.ended, rfl, rfl⟩ k3 k4 k5 k6 k7)); clear hO k1 k2 k3 k4 k5 ka e15)
  refine ⟨rfl, .tuple #[], (by simp [results, Try.results61, go_sem]), rfl, ?_⟩
  exact HE.out

theorem l_same (h : RAt w T q y) (a n : Int) (h0 : 0 ≤ y.pts) (h9 : y.pts ≤ 1000000) (hy : y.at_ = .loadSeq a n) : Calls Try.prog 61 #[.pointer (some ⟨q, 0, none⟩), .int .u64 y.snap] w fun e w' => e = .returned (.tuple #[]) ∧ ROut (if badR y.log a n then { y with at_ := .leaveN 2 } else { y with at_ := .no, val := n, pts := y.pts + 1, log := y.log.read a n }) w T q w' := by
  unfold badR
  cases hh : hasL y.log.r a with
  | false =>
    simp only [Bool.false_and, Bool.false_or]
    by_cases he : errRead y.log.r a = 0
    · rw [if_neg (by simp [he])]; exact l_ok2 h a n h0 h9 hh he hy
    · rw [if_pos (by simpa using he)]; exact l_full2 h a n hh he hy
  | true =>
    simp only [Bool.true_and]
    by_cases hv : valL y.log.r a = n
    · rw [show (valL y.log.r a != n) = false by simp [hv], Bool.false_or]
      by_cases he : errRead y.log.r a = 0
      · rw [if_neg (by simp [he])]; exact l_ok1 h a n h0 h9 hh hv he hy
      · rw [if_pos (by simpa using he)]; exact l_full1 h a n hh hv he hy
    · rw [show (valL y.log.r a != n) = true by simp [hv], Bool.true_or, if_pos rfl]
      exact l_bad h a n hh hv hy
end

end Go.Proofs.Ythepmejfgbfilaa
