/- The document's own path: a Load's end, a validation that fails, Give, Want. Conditions: those stated in each theorem. -/
import Derived.Test.YthepmejfgbfilaaSoftX
import Derived.Deep.RegionHeld3
import Derived.StillTailTactics
namespace Go.Proofs.Ythepmejfgbfilaa
open Go.RowKit Go.BigFrame Go.Maps

section
variable {w w' W : World} {C M T : Nat → Prop} {q : Nat} {y : PV}
theorem read_full {f : Lg} {a y : Int} (he : errRead f.r a ≠ 0) : f.read a y = f := by
  obtain ⟨fr, fw⟩ := f
  simp only [Lg.read, readL, errRead] at *
  by_cases h1 : a < 0
  · simp [h1]
  · cases h2 : posL fr a with
    | some i => simp
    | none =>
      by_cases h3 : 128 ≤ fr.length
      · simp [h1, h3]
      · simp [h1, h2, h3] at he

set_option maxRecDepth 100000 in
set_option maxHeartbeats 400000 in
theorem l_diff (h : RAt w T q y) (v a n : Int) (hv : v ≠ y.snap) (hy : y.at_ = .loadSeq a n) : Calls Try.prog 61 #[.pointer (some ⟨q, 0, none⟩), .int .u64 v] w fun e w' => e = .returned (.tuple #[]) ∧ ROut { y with at_ := .checkSeq (.fetch a) } w T q w' := by
  obtain ⟨x, rv, wv, h1, h2, h3, h4, h5, h6, h7⟩ := h
  have ha := h2.at_
  rw [hy] at ha
  have c0 := h1.head.cell (i := 0) rfl
  have c6 := h1.head.cell (i := 6) rfl
  have c8 := h1.head.cell (i := 8) rfl
  have f0 := h1.head.free 0
  have f6 := h1.head.free 6
  have hs : x.snap = y.snap := h2.snap
  rw [hs] at c8
  have d1 : (v == y.snap) = false := by simpa using hv
  have HE : Hid (ROut { y with at_ := .checkSeq (.fetch a) } w T q ((w.setCell ⟨q, 6, none⟩ (.int .i64 4)).setCell ⟨q, 0, none⟩ (.int .i64 6))) := Lib.hid (RfOut.to (x' := { x with to := 4, code := 6 }) (y' := { y with at_ := .checkSeq (.fetch a) }) (RfOut.turned h1 (((Tch.refl (· = q) w).sq 6 _).sq 0 _) ((h1.head.set 6 _).set 0 _)) ⟨h2.snap, h2.val, h2.live, h2.writing, h2.ended, h2.pts, ⟨rfl, rfl, ha.2.1⟩⟩ h3 h4 h5 h6 h7)
  clear h1 h2 h3 h4 h5 
  go_enter Try.func61, Try.ntmps61
  go_wp2
  refine bodyPost_ret (v := .tuple #[]) (by simp [results, Try.results61, go_sem]) rfl ⟨rfl, ?_⟩
  exact HE.out

set_option maxRecDepth 100000 in
set_option maxHeartbeats 1000000 in
theorem l_bad (h : RAt w T q y) (a n : Int)  (hh : hasL y.log.r a = true) (hv : valL y.log.r a ≠ n) (hy : y.at_ = .loadSeq a n) : Calls Try.prog 61 #[.pointer (some ⟨q, 0, none⟩), .int .u64 y.snap] w fun e w' => e = .returned (.tuple #[]) ∧ ROut { y with at_ := .leaveN 2 } w T q w' := by
  have h' := h
  obtain ⟨x, rv, wv, h1, h2, h3, h4, h5, h6, h7⟩ := h'
  have ha := h2.at_
  rw [hy] at ha
  have c2 := h1.head.cell (i := 2) rfl
  have c3 := h1.head.cell (i := 3) rfl
  have c8 := h1.head.cell (i := 8) rfl
  have c10 := h1.head.cell (i := 10) rfl
  rw [ha.2.1] at c2
  rw [ha.2.2] at c3
  rw [h2.snap] at c8
  obtain ⟨ad, cap, rfl, hr, -⟩ := h1.r.spot
  have HV := Lib.hid (fun k : Nat => rvalue_any (w.drewN k) ad cap y.log.r hr (by omega) a)
  have hd : ∀ k : Nat, Tch (fun _ => False) w (w.drewN k) := fun k => Tch.drewN (Tch.refl _ w) k
  have HF : Hid (∀ k : Nat, (w.drewN k).cell? ⟨q, 2, none⟩ = some (.int .i64 a) ∧ (w.drewN k).cell? ⟨q, 3, none⟩ = some (.int .u64 n)) := Lib.hid (fun k => ⟨c2, c3⟩)
  have HR : Hid (∀ k : Nat, Calls Try.prog 87 #[.pointer (some ⟨q, 10, none⟩), .int .i64 a, .int .u64 n] (w.drewN k) fun e w1 => e = .returned (.int .i64 (errRead y.log.r a)) ∧ (w1.cell? ⟨q, 2, none⟩ = some (.int .i64 a) ∧ w1.cell? ⟨q, 3, none⟩ = some (.int .u64 n)) ∧ ROut { y with log := y.log.read a n } w T q w1) := Lib.hid (fun k0 => (rread_any (h1.frame (hd k0) (fun e => e) (fun _ _ e => e) (fun _ _ e => e)) h6 a n).mono fun e w1 ⟨e1, k'⟩ => by
    have k : RfOut w q x (.slice ad y.log.r.length cap) wv (y.log.read a n) w1 := by
      obtain ⟨rv', wv', a1, a2, a3, a4⟩ := k'
      exact ⟨rv', wv', a1, ((hd k0).mono (fun _ _ e => e.elim)).trans a2, a3, a4⟩
    have kk := RfOut.to (y' := { y with log := y.log.read a n }) k ⟨h2.snap, h2.val, h2.live, h2.writing, h2.ended, h2.pts, by
      show AtR y.at_ _ _
      rw [hy]; exact ha⟩ h3 h4 h5 (readL_len h6 a n) h7
    refine ⟨e1, ?_, kk⟩
    obtain ⟨rv', wv', a1, a2, a3, a4⟩ := k'
    have d2 := a1.head.cell (i := 2) rfl
    have d3 := a1.head.cell (i := 3) rfl
    rw [ha.2.1] at d2
    rw [ha.2.2] at d3
    exact ⟨d2, d3⟩)
  have HR2 : Hid (∀ k : Nat, Calls Try.prog 87 #[.pointer (some ⟨q, 10, none⟩), .int .i64 a, .int .u64 n] (w.drewN k).drew fun e w1 => e = .returned (.int .i64 (errRead y.log.r a)) ∧ (w1.cell? ⟨q, 2, none⟩ = some (.int .i64 a) ∧ w1.cell? ⟨q, 3, none⟩ = some (.int .u64 n)) ∧ ROut { y with log := y.log.read a n } w T q w1) := Lib.hid (fun k => HR.out (k + 1))
  have hE := HF.out 0
  have HS : Hid (∀ k : Nat, (w.drewN k).drew.cell? ⟨q, 2, none⟩ = some (.int .i64 a) ∧ (w.drewN k).drew.cell? ⟨q, 3, none⟩ = some (.int .u64 n)) := Lib.hid (fun k => ⟨c2, c3⟩)
  rw [hh] at HV
  have HL := Lib.hid (fun k : Nat => rleave (h.frame (hd k) (fun _ _ e => e)) 2)
  have HLX : Hid (∀ (k : Nat) w', ROut { y with at_ := .leaveN 2 } (w.drewN k) T q w' → ROut { y with at_ := .leaveN 2 } w T q w') := Lib.hid (fun k w' h => ⟨h.1, ((hd k).mono (fun _ _ e => e.elim)).trans h.2⟩)
  clear h h1 h2 h3 h4 h5 h6 h7 hr ha hd
  generalize valL y.log.r a = z at *
  go_enter Try.func61, Try.ntmps61
  go_wp2
  go_quiet ((go_at_call 58; exact Calls.quiet_of_same ((HV.out _).mono (fun _ _ h => ⟨h.1, h.2.symm⟩))))
  go_wp2
  go_quiet (fail)
  go_wp2_with (go_at_call 60; refine (HL.out _).mono ?_; rintro e w9 ⟨rfl, h⟩; have HE := Lib.hid (HLX.out _ _ h); clear h)
  refine bodyPost_ret (v := .tuple #[]) (by simp [results, Try.results61, go_sem]) rfl ⟨rfl, ?_⟩
  exact HE.out

set_option maxRecDepth 100000 in
set_option maxHeartbeats 1000000 in
theorem l_full1 (h : RAt w T q y) (a n : Int)  (hh : hasL y.log.r a = true) (hv : valL y.log.r a = n) (he : errRead y.log.r a ≠ 0) (hy : y.at_ = .loadSeq a n) : Calls Try.prog 61 #[.pointer (some ⟨q, 0, none⟩), .int .u64 y.snap] w fun e w' => e = .returned (.tuple #[]) ∧ ROut { y with at_ := .leaveN 2 } w T q w' := by
  have h' := h
  obtain ⟨x, rv, wv, h1, h2, h3, h4, h5, h6, h7⟩ := h'
  have ha := h2.at_
  rw [hy] at ha
  have c2 := h1.head.cell (i := 2) rfl
  have c3 := h1.head.cell (i := 3) rfl
  have c8 := h1.head.cell (i := 8) rfl
  have c10 := h1.head.cell (i := 10) rfl
  rw [ha.2.1] at c2
  rw [ha.2.2] at c3
  rw [h2.snap] at c8
  obtain ⟨ad, cap, rfl, hr, -⟩ := h1.r.spot
  have HV := Lib.hid (fun k : Nat => rvalue_any (w.drewN k) ad cap y.log.r hr (by omega) a)
  have hd : ∀ k : Nat, Tch (fun _ => False) w (w.drewN k) := fun k => Tch.drewN (Tch.refl _ w) k
  have HF : Hid (∀ k : Nat, (w.drewN k).cell? ⟨q, 2, none⟩ = some (.int .i64 a) ∧ (w.drewN k).cell? ⟨q, 3, none⟩ = some (.int .u64 n)) := Lib.hid (fun k => ⟨c2, c3⟩)
  have HR : Hid (∀ k : Nat, Calls Try.prog 87 #[.pointer (some ⟨q, 10, none⟩), .int .i64 a, .int .u64 n] (w.drewN k) fun e w1 => e = .returned (.int .i64 (errRead y.log.r a)) ∧ (w1.cell? ⟨q, 2, none⟩ = some (.int .i64 a) ∧ w1.cell? ⟨q, 3, none⟩ = some (.int .u64 n)) ∧ ROut { y with log := y.log.read a n } w T q w1) := Lib.hid (fun k0 => (rread_any (h1.frame (hd k0) (fun e => e) (fun _ _ e => e) (fun _ _ e => e)) h6 a n).mono fun e w1 ⟨e1, k'⟩ => by
    have k : RfOut w q x (.slice ad y.log.r.length cap) wv (y.log.read a n) w1 := by
      obtain ⟨rv', wv', a1, a2, a3, a4⟩ := k'
      exact ⟨rv', wv', a1, ((hd k0).mono (fun _ _ e => e.elim)).trans a2, a3, a4⟩
    have kk := RfOut.to (y' := { y with log := y.log.read a n }) k ⟨h2.snap, h2.val, h2.live, h2.writing, h2.ended, h2.pts, by
      show AtR y.at_ _ _
      rw [hy]; exact ha⟩ h3 h4 h5 (readL_len h6 a n) h7
    refine ⟨e1, ?_, kk⟩
    obtain ⟨rv', wv', a1, a2, a3, a4⟩ := k'
    have d2 := a1.head.cell (i := 2) rfl
    have d3 := a1.head.cell (i := 3) rfl
    rw [ha.2.1] at d2
    rw [ha.2.2] at d3
    exact ⟨d2, d3⟩)
  have HR2 : Hid (∀ k : Nat, Calls Try.prog 87 #[.pointer (some ⟨q, 10, none⟩), .int .i64 a, .int .u64 n] (w.drewN k).drew fun e w1 => e = .returned (.int .i64 (errRead y.log.r a)) ∧ (w1.cell? ⟨q, 2, none⟩ = some (.int .i64 a) ∧ w1.cell? ⟨q, 3, none⟩ = some (.int .u64 n)) ∧ ROut { y with log := y.log.read a n } w T q w1) := Lib.hid (fun k => HR.out (k + 1))
  have hE := HF.out 0
  have HS : Hid (∀ k : Nat, (w.drewN k).drew.cell? ⟨q, 2, none⟩ = some (.int .i64 a) ∧ (w.drewN k).drew.cell? ⟨q, 3, none⟩ = some (.int .u64 n)) := Lib.hid (fun k => ⟨c2, c3⟩)
  rw [hh] at HV
  rw [hv] at HV
  have dn : (errRead y.log.r a == 0) = false := by simpa using he
  have dm : (errRead y.log.r a != 0) = true := by simpa using he
  clear h h1 h2 h3 h4 h5 h6 h7 hr ha hd
  go_enter Try.func61, Try.ntmps61
  go_wp2
  go_quiet ((go_at_call 58; exact Calls.quiet_of_same ((HV.out _).mono (fun _ _ h => ⟨h.1, h.2.symm⟩))))
  go_wp2
  go_region_held3 (fun V => V.cell? ⟨q, 2, none⟩ = some (.int .i64 a) ∧ V.cell? ⟨q, 3, none⟩ = some (.int .u64 n)) (first | with_reducible exact HS.out _ | with_reducible exact HF.out _ | with_reducible exact hE) (first | (go_at_call 87; (with_reducible refine (HR.out _).mono ?_); rintro e V ⟨rfl, hE, hO⟩))
  all_goals
    have HX := Lib.hid (rleave hO.1 2)
    have HY := Lib.hid hO; clear hO
    go_wp2_with (go_at_call 60; refine HX.out.mono ?_; rintro e w9 ⟨rfl, h⟩; have HE := Lib.hid h; clear h)
    refine bodyPost_ret (v := .tuple #[]) (by simp [results, Try.results61, go_sem]) rfl ⟨rfl, ?_⟩
    have := ROut.trans HY.out.2 HE.out
    rwa [read_full he] at this

set_option maxRecDepth 100000 in
set_option maxHeartbeats 1000000 in
theorem l_ok1 (h : RAt w T q y) (a n : Int) (h0 : 0 ≤ y.pts) (h9 : y.pts ≤ 1000000) (hh : hasL y.log.r a = true) (hv : valL y.log.r a = n) (he : errRead y.log.r a = 0) (hy : y.at_ = .loadSeq a n) : Calls Try.prog 61 #[.pointer (some ⟨q, 0, none⟩), .int .u64 y.snap] w fun e w' => e = .returned (.tuple #[]) ∧ ROut { y with at_ := .no, val := n, pts := y.pts + 1, log := y.log.read a n } w T q w' := by
  have h' := h
  obtain ⟨x, rv, wv, h1, h2, h3, h4, h5, h6, h7⟩ := h'
  have ha := h2.at_
  rw [hy] at ha
  have c2 := h1.head.cell (i := 2) rfl
  have c3 := h1.head.cell (i := 3) rfl
  have c8 := h1.head.cell (i := 8) rfl
  have c10 := h1.head.cell (i := 10) rfl
  rw [ha.2.1] at c2
  rw [ha.2.2] at c3
  rw [h2.snap] at c8
  obtain ⟨ad, cap, rfl, hr, -⟩ := h1.r.spot
  have HV := Lib.hid (fun k : Nat => rvalue_any (w.drewN k) ad cap y.log.r hr (by omega) a)
  have hd : ∀ k : Nat, Tch (fun _ => False) w (w.drewN k) := fun k => Tch.drewN (Tch.refl _ w) k
  have HF : Hid (∀ k : Nat, (w.drewN k).cell? ⟨q, 2, none⟩ = some (.int .i64 a) ∧ (w.drewN k).cell? ⟨q, 3, none⟩ = some (.int .u64 n)) := Lib.hid (fun k => ⟨c2, c3⟩)
  have HR : Hid (∀ k : Nat, Calls Try.prog 87 #[.pointer (some ⟨q, 10, none⟩), .int .i64 a, .int .u64 n] (w.drewN k) fun e w1 => e = .returned (.int .i64 (errRead y.log.r a)) ∧ (w1.cell? ⟨q, 2, none⟩ = some (.int .i64 a) ∧ w1.cell? ⟨q, 3, none⟩ = some (.int .u64 n)) ∧ ROut { y with log := y.log.read a n } w T q w1) := Lib.hid (fun k0 => (rread_any (h1.frame (hd k0) (fun e => e) (fun _ _ e => e) (fun _ _ e => e)) h6 a n).mono fun e w1 ⟨e1, k'⟩ => by
    have k : RfOut w q x (.slice ad y.log.r.length cap) wv (y.log.read a n) w1 := by
      obtain ⟨rv', wv', a1, a2, a3, a4⟩ := k'
      exact ⟨rv', wv', a1, ((hd k0).mono (fun _ _ e => e.elim)).trans a2, a3, a4⟩
    have kk := RfOut.to (y' := { y with log := y.log.read a n }) k ⟨h2.snap, h2.val, h2.live, h2.writing, h2.ended, h2.pts, by
      show AtR y.at_ _ _
      rw [hy]; exact ha⟩ h3 h4 h5 (readL_len h6 a n) h7
    refine ⟨e1, ?_, kk⟩
    obtain ⟨rv', wv', a1, a2, a3, a4⟩ := k'
    have d2 := a1.head.cell (i := 2) rfl
    have d3 := a1.head.cell (i := 3) rfl
    rw [ha.2.1] at d2
    rw [ha.2.2] at d3
    exact ⟨d2, d3⟩)
  have HR2 : Hid (∀ k : Nat, Calls Try.prog 87 #[.pointer (some ⟨q, 10, none⟩), .int .i64 a, .int .u64 n] (w.drewN k).drew fun e w1 => e = .returned (.int .i64 (errRead y.log.r a)) ∧ (w1.cell? ⟨q, 2, none⟩ = some (.int .i64 a) ∧ w1.cell? ⟨q, 3, none⟩ = some (.int .u64 n)) ∧ ROut { y with log := y.log.read a n } w T q w1) := Lib.hid (fun k => HR.out (k + 1))
  have hE := HF.out 0
  have HS : Hid (∀ k : Nat, (w.drewN k).drew.cell? ⟨q, 2, none⟩ = some (.int .i64 a) ∧ (w.drewN k).drew.cell? ⟨q, 3, none⟩ = some (.int .u64 n)) := Lib.hid (fun k => ⟨c2, c3⟩)
  rw [hh] at HV
  rw [hv] at HV
  rw [he] at HR HR2
  clear h h1 h2 h3 h4 h5 h6 h7 hr ha hd
  go_enter Try.func61, Try.ntmps61
  go_wp2
  go_quiet ((go_at_call 58; exact Calls.quiet_of_same ((HV.out _).mono (fun _ _ h => ⟨h.1, h.2.symm⟩))))
  go_wp2
  go_region_held3 (fun V => V.cell? ⟨q, 2, none⟩ = some (.int .i64 a) ∧ V.cell? ⟨q, 3, none⟩ = some (.int .u64 n)) (first | with_reducible exact HS.out _ | with_reducible exact HF.out _ | with_reducible exact hE) (first | (go_at_call 87; (with_reducible refine (HR.out _).mono ?_); rintro e V ⟨rfl, hE, hO⟩))
  all_goals
    obtain ⟨x2, rv2, wv2, k1, k2, k3, k4, k5, k6, k7⟩ := id hO.1
    have ka : AtR y.at_ _ _ := k2.at_
    rw [hy] at ka
    have e15 : x2.pts = y.pts := k2.pts
    have k0 := k1.head.cell (i := 0) rfl
    have kc3 := k1.head.cell (i := 3) rfl
    rw [ka.2.2] at kc3
    have kc9 := k1.head.cell (i := 9) rfl
    have kc15 := k1.head.cell (i := 15) rfl
    rw [e15] at kc15
    have f0 := k1.head.free 0
    have f9 := k1.head.free 9
    have f15 := k1.head.free 15
    have HE : Hid (ROut { y with at_ := .no, val := n, pts := y.pts + 1, log := y.log.read a n } w T q (((V.setCell ⟨q, 9, none⟩ (.int .u64 n)).setCell ⟨q, 15, none⟩ (.int .i64 (y.pts + 1))).setCell ⟨q, 0, none⟩ (.int .i64 0))) := Lib.hid (ROut.trans hO.2 (RfOut.to (x' := { x2 with val := n, pts := y.pts + 1, code := 0 }) (y' := { y with at_ := .no, val := n, pts := y.pts + 1, log := y.log.read a n }) (RfOut.turned k1 ((((Tch.refl (· = q) V).sq 9 _).sq 15 _).sq 0 _) (((k1.head.set 9 _).set 15 _).set 0 _)) ⟨k2.snap, rfl, k2.live, k2.writing, k2.ended, rfl, rfl⟩ k3 k4 k5 k6 k7))
    clear hO k1 k2 k3 k4 k5 ka e15
    go_wp2
    refine ⟨rfl, .tuple #[], (by simp [results, Try.results61, go_sem]), rfl, ?_⟩
    exact HE.out

set_option maxRecDepth 100000 in
set_option maxHeartbeats 1000000 in
theorem k_one_no (h : RAt w T q y) (v g : Int) (z : Pr) (l : List Pr) (t : Th) (hv : v ≠ z.v) (hy : y.at_ = .check g (z :: l) t) : Calls Try.prog 62 #[.pointer (some ⟨q, 0, none⟩), .int .u64 v] w fun e w' => e = .returned (.tuple #[]) ∧ ROut { y with at_ := .leaveN 2 } w T q w' := by
  have HL := Lib.hid (fun k : Nat => rleave (h.frame (C := fun _ => False) (Tch.drewN (Tch.refl _ w) k) (fun _ _ e => e)) 2)
  have HX : Hid (∀ k w', ROut { y with at_ := .leaveN 2 } (w.drewN k) T q w' → ROut { y with at_ := .leaveN 2 } w T q w') := Lib.hid (fun k w' h => ⟨h.1, (Tch.drewN (Tch.refl _ w) k).trans h.2⟩)
  obtain ⟨x, rv, wv, h1, h2, h3, h4, h5, h6, h7⟩ := h
  have ha := h2.at_
  rw [hy] at ha
  have c0 := h1.head.cell (i := 0) rfl
  have c5 := h1.head.cell (i := 5) rfl
  have c10 := h1.head.cell (i := 10) rfl
  obtain ⟨k, hc, hg, hi, hk, hl, ht⟩ := ha
  obtain ⟨k1, k2, k3⟩ := drop_cons hl
  rw [if_pos k1] at hc
  rw [hc] at c0
  rw [hi] at c5
  obtain ⟨ad, cap, rfl, hr, -⟩ := h1.r.spot
  obtain ⟨q0, o0, rfl⟩ := rows_some hr (by omega)
  have r1 := (rows_cells hr k2).2
  have d1 : (v == z.v) = false := by simpa using hv
  clear h1 h2 h3 h4 h5 hr
  go_enter Try.func62, Try.ntmps62
  go_wp2
  go_quiet (fail)
  go_wp2_with (go_at_call 60; refine (HL.out _).mono ?_; rintro e w9 ⟨rfl, h⟩; have HE := Lib.hid (HX.out _ _ h); clear h)
  refine bodyPost_ret (v := .tuple #[]) (by simp [results, Try.results62, go_sem]) rfl ⟨rfl, ?_⟩
  exact HE.out
end

end Go.Proofs.Ythepmejfgbfilaa
