/- The document's own path: a Load's end, a validation that fails, Give, Want. Conditions: those stated in each theorem. -/
import Derived.Test.YthepmejfgbfilaaSoftY
import Derived.Deep.RegionHeld3
import Derived.StillTailTactics
namespace Go.Proofs.Ythepmejfgbfilaa
open Go.RowKit Go.BigFrame Go.Maps

section
variable {w w' W : World} {C M T : Nat → Prop} {q : Nat} {y : PV}

set_option maxRecDepth 100000 in
set_option maxHeartbeats 4000000 in
theorem l_full2 (h : RAt w T q y) (a n : Int)  (hh : hasL y.log.r a = false) (he : errRead y.log.r a ≠ 0) (hy : y.at_ = .loadSeq a n) : Calls Try.prog 61 #[.pointer (some ⟨q, 0, none⟩), .int .u64 y.snap] w fun e w' => e = .returned (.tuple #[]) ∧ ROut { y with at_ := .leaveN 2 } w T q w' := by
  have h' := h
  obtain ⟨x, rv, wv, h1, h2, h3, h4, h5, h6, h7⟩ := h'
  have ha := h2.at_
  rw [hy] at ha
  have c2 := h1.head.cell (i := 2) rfl
  have c3 := h1.head.cell (i := 3) rfl
  have c8 := h1.head.cell (i := 8) rfl
  have c10 := h1.head.cell (i := 10) rfl
  rw [ha.2.1] at c2
  rw [ha.2.2] at c3
  rw [h2.snap] at c8
  obtain ⟨ad, cap, rfl, hr, -⟩ := h1.r.spot
  have HV := Lib.hid (fun k : Nat => rvalue_any (w.drewN k) ad cap y.log.r hr (by omega) a)
  have hd : ∀ k : Nat, Tch (fun _ => False) w (w.drewN k) := fun k => Tch.drewN (Tch.refl _ w) k
  have HF : Hid (∀ k : Nat, (w.drewN k).cell? ⟨q, 2, none⟩ = some (.int .i64 a) ∧ (w.drewN k).cell? ⟨q, 3, none⟩ = some (.int .u64 n)) := Lib.hid (fun k => ⟨c2, c3⟩)
  have HR : Hid (∀ k : Nat, Calls Try.prog 87 #[.pointer (some ⟨q, 10, none⟩), .int .i64 a, .int .u64 n] (w.drewN k) fun e w1 => e = .returned (.int .i64 (errRead y.log.r a)) ∧ (w1.cell? ⟨q, 2, none⟩ = some (.int .i64 a) ∧ w1.cell? ⟨q, 3, none⟩ = some (.int .u64 n)) ∧ ROut { y with log := y.log.read a n } w T q w1) := Lib.hid (fun k0 => (rread_any (h1.frame (hd k0) (fun e => e) (fun _ _ e => e) (fun _ _ e => e)) h6 a n).mono fun e w1 ⟨e1, k'⟩ => by
    have k : RfOut w q x (.slice ad y.log.r.length cap) wv (y.log.read a n) w1 := by
      obtain ⟨rv', wv', a1, a2, a3, a4⟩ := k'
      exact ⟨rv', wv', a1, ((hd k0).mono (fun _ _ e => e.elim)).trans a2, a3, a4⟩
    have kk := RfOut.to (y' := { y with log := y.log.read a n }) k ⟨h2.snap, h2.val, h2.live, h2.writing, h2.ended, h2.pts, by
      show AtR y.at_ _ _
      rw [hy]; exact ha⟩ h3 h4 h5 (readL_len h6 a n) h7
    refine ⟨e1, ?_, kk⟩
    obtain ⟨rv', wv', a1, a2, a3, a4⟩ := k'
    have d2 := a1.head.cell (i := 2) rfl
    have d3 := a1.head.cell (i := 3) rfl
    rw [ha.2.1] at d2
    rw [ha.2.2] at d3
    exact ⟨d2, d3⟩)
  have HR2 : Hid (∀ k : Nat, Calls Try.prog 87 #[.pointer (some ⟨q, 10, none⟩), .int .i64 a, .int .u64 n] (w.drewN k).drew fun e w1 => e = .returned (.int .i64 (errRead y.log.r a)) ∧ (w1.cell? ⟨q, 2, none⟩ = some (.int .i64 a) ∧ w1.cell? ⟨q, 3, none⟩ = some (.int .u64 n)) ∧ ROut { y with log := y.log.read a n } w T q w1) := Lib.hid (fun k => HR.out (k + 1))
  have hE := HF.out 0
  have HS : Hid (∀ k : Nat, (w.drewN k).drew.cell? ⟨q, 2, none⟩ = some (.int .i64 a) ∧ (w.drewN k).drew.cell? ⟨q, 3, none⟩ = some (.int .u64 n)) := Lib.hid (fun k => ⟨c2, c3⟩)
  rw [hh] at HV
  have dn : (errRead y.log.r a == 0) = false := by simpa using he
  have dm : (errRead y.log.r a != 0) = true := by simpa using he
  clear h h1 h2 h3 h4 h5 h6 h7 hr ha hd
  generalize valL y.log.r a = z at *
  go_enter Try.func61, Try.ntmps61
  go_wp2
  go_quiet ((go_at_call 58; exact Calls.quiet_of_same ((HV.out _).mono (fun _ _ h => ⟨h.1, h.2.symm⟩))))
  go_wp2
  have c2 := (HF.out nq).1
  have c3 := (HF.out nq).2
  have HRW := Lib.hid (HR2.out nq)
  clear HR HR2 HF HS hE HV c8 c10
  have KK := Lib.hid (And.intro hy (And.intro hh he))
  clear hy hh he
  generalize w.drewN nq = W1 at *
  go_still_tail 21, (by kernel_rfl)
  change wpList _ _ _ _ _ W1.drew
  obtain ⟨hy, hh, he⟩ := KK.out
  go_wp2_with (go_at_call 87; refine HRW.out.mono ?_; rintro e V ⟨rfl, hE, hO⟩)
  all_goals
    have HX := Lib.hid (rleave hO.1 2)
    have HY := Lib.hid hO; clear hO
    go_wp2_with (go_at_call 60; refine HX.out.mono ?_; rintro e w9 ⟨rfl, h⟩; have HE := Lib.hid h; clear h)
    refine bodyPost_ret (v := .tuple #[]) (by simp [results, Try.results61, go_sem]) rfl ⟨rfl, ?_⟩
    have := ROut.trans HY.out.2 HE.out
    rwa [read_full he] at this
end

end Go.Proofs.Ythepmejfgbfilaa
