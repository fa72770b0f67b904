/- A path: Begin, Load, Store, Commit, Quit, New; calls on none. Conditions: those stated in each theorem. -/
import Derived.Test.YtgdfiggloifncaaSoftH
namespace Go.Proofs.Ytgdfiggloifncaa
open Go.RowKit Go.BigFrame Go.Maps Go.Shelf
attribute [local go_sem] run_store_func

section
variable {w w' W : World} {N M C S T : Nat → Prop} {p lg : Nat} {x y : PV} {z : PW} {v u th : Value} {t : Th} {a : At} {R : World → Prop} {f : Lg}

theorem fin_po (h2 : LgAt w S lg x.log) (h3 : ∀ k, S k → T k ∧ k ≠ p ∧ k < w.heap.size) (h4 : T p) (hp : p < w.heap.size) (hpo : PO w w' p lg y.pw v) (hl : y.log = x.log) (hf : y.at_.fit) (ha : AtV w' (Nw (Nx T S p) w) p y.at_ v) : SOut y w T p w' :=
  SOut.of_po h2 h3 h4 hp hpo hl hf (fun _ hk _ => hk) ha

theorem write_full {f : Lg} {a y : Int} (he : errRead f.w a ≠ 0) : f.write a y = f := by
  obtain ⟨fr, fw⟩ := f
  simp only [Lg.write, writeL, errRead] at *
  by_cases h1 : a < 0
  · simp [h1]
  · cases h2 : posL fw a with
    | some i => simp [h1, h2] at he
    | none =>
      by_cases h3 : 128 ≤ fw.length
      · simp [h1, h3]
      · simp [h1, h2, h3] at he
theorem Tch.gr {w1 : World} (h : Tch T w w1) (k : Tch (Gr T w w1) w1 w') : Tch T w w' :=
  ⟨k.os.trans h.os, k.tape.trans h.tape, k.output.trans h.output, Nat.le_trans h.size k.size, fun i hi hc => (k.block i (Nat.lt_of_lt_of_le hi h.size) (fun e => by
    rcases e with e | e
    · exact hc e
    · omega)).trans (h.block i hi hc)⟩
theorem SOut.trans {w1 : World} (h : Tch T w w1) (k : SOut y w1 (Gr T w w1) p w') : SOut y w T p w' := by
  have z1 := h.size
  have z2 := k.2.size
  exact ⟨k.1.more (fun i _ e => by
    rcases e with (e | e) | e
    · exact .inl e
    · exact .inr ⟨e.1, by omega⟩
    · exact .inr ⟨by omega, e.2⟩), h.gr k.2⟩
theorem SOut.after {w1 : World} (hb : Below w.heap.size w w1) (k : SOut y w1 T p w') : SOut y w T p w' := by
  have z1 := hb.size
  refine ⟨k.1.more (fun i _ e => ?_), (Tch.of_idle hb).trans k.2⟩
  rcases e with e | e
  · exact .inl e
  · exact .inr ⟨by omega, e.2⟩
theorem SAt.parts (h : SAt w T p x) (hx : x.at_ = .no) : ∃ lg S, PB w p lg x.pw .nilFunc ∧ LgAt w S lg x.log ∧ (∀ k, S k → T k ∧ k ≠ p ∧ k < w.heap.size) ∧ T p := by
  obtain ⟨lg, S, v, h1, h2, h3, h4, h5, h6⟩ := h
  rw [hx] at h6
  cases h6
  exact ⟨lg, S, h1, h2, h3, h4⟩
theorem SAt.of_parts (h1 : PB w p lg x.pw .nilFunc) (h2 : LgAt w S lg x.log) (h3 : ∀ k, S k → T k ∧ k ≠ p ∧ k < w.heap.size) (h4 : T p) (hx : x.at_ = .no) : SAt w T p x :=
  ⟨lg, S, _, h1, h2, h3, h4, by rw [hx]; trivial, by rw [hx]; rfl⟩
/-- The log turned. -/
theorem SOut.log (h1 : PB w p lg x.pw .nilFunc) (h3 : ∀ k, S k → T k ∧ k ≠ p ∧ k < w.heap.size) (h4 : T p) (hx : x.at_ = .no) (k : LOut w S lg f w') : SOut { x with log := f } w T p w' := by
  have hz := k.2.size
  have hlt := h1.lt
  refine ⟨SAt.of_parts (x := { x with log := f }) (k.2.holds (fun e => (h3 p e).2.1 rfl) (show PB w p lg (PV.pw { x with log := f }) .nilFunc by
    have : PV.pw { x with log := f } = x.pw := by unfold PV.pw PV.req; rw [show ({ x with log := f } : PV).at_ = x.at_ from rfl, hx]
    rw [this]; exact h1)) k.1 (fun i e => ?_) (.inl h4) hx, k.2.mono (fun i _ e => (h3 i e).1)⟩
  rcases e with e | e
  · exact ⟨.inl (h3 i e).1, (h3 i e).2.1, Nat.lt_of_lt_of_le (h3 i e).2.2 hz⟩
  · exact ⟨.inr e, by omega, e.2⟩
theorem sleave (h : SAt w T p x) (how : Int) : Calls Try.prog 51 #[.pointer (some ⟨p, 0, none⟩), .int .i64 how] w fun e w' => e = .returned (.tuple #[]) ∧ SOut { x with at_ := .leaveN how } w T p w' := by
  obtain ⟨lg, S, v, hP, hL, hS, hT, hf, hA⟩ := h
  refine (leave_any hP how).mono ?_
  rintro e w' ⟨rfl, c, d, d2, h1, h2, h3, h4⟩
  exact ⟨rfl, fin_po hL hS hT hP.lt h1 rfl trivial ⟨c, d, d2, rfl, h2.to nx_new, h3.to nx_new, h4.to nx_new⟩⟩
theorem senter (h : SAt w T p x) : Calls Try.prog 49 #[.pointer (some ⟨p, 0, none⟩)] w fun e w' => e = .returned (.tuple #[]) ∧ SOut { x with at_ := .beginN } w T p w' := by
  obtain ⟨lg, S, v, hP, hL, hS, hT, hf, hA⟩ := h
  refine (enter_any hP).mono ?_
  rintro e w' ⟨rfl, c, d, d2, h1, h2, h3, h4⟩
  exact ⟨rfl, fin_po hL hS hT hP.lt h1 rfl trivial ⟨c, d, d2, rfl, h2.to nx_new, h3.to nx_new, h4.to nx_new⟩⟩
theorem ssign (h : SAt w T p x) : Calls Try.prog 54 #[.pointer (some ⟨p, 0, none⟩)] w fun e w' => e = .returned (.tuple #[]) ∧ SOut { x with at_ := .take } w T p w' := by
  obtain ⟨lg, S, v, hP, hL, hS, hT, hf, hA⟩ := h
  refine (sign_any hP).mono ?_
  rintro e w' ⟨rfl, c, d, h1, h2, h3⟩
  exact ⟨rfl, fin_po hL hS hT hP.lt h1 rfl trivial ⟨c, d, rfl, h2.to nx_new, h3.to nx_new⟩⟩
theorem sfetch (h : SAt w T p x) (a : Int) (ha : (Lit.int .i64 a).wf = true) (h8 : 8 ≤ a) : Calls Try.prog 46 #[.pointer (some ⟨p, 0, none⟩), .int .i64 a] w fun e w' => e = .returned (.tuple #[]) ∧ SOut { x with at_ := .loadWord a } w T p w' := by
  obtain ⟨lg, S, v, hP, hL, hS, hT, hf, hA⟩ := h
  refine (fetch_any hP a).mono ?_
  rintro e w' ⟨rfl, c, d, h1, h2, h3⟩
  exact ⟨rfl, fin_po hL hS hT hP.lt h1 rfl ⟨ha, h8⟩ ⟨c, d, rfl, h2.to nx_new, h3.to nx_new⟩⟩
theorem shut_no (h : x.shut = 0) : x.at_ = .no ∧ x.live = true := by
  unfold PV.shut at h
  split at h
  · cases h
  · rename_i h2
    refine ⟨Classical.byContradiction fun e => h2 (.inl e), ?_⟩
    cases hl : x.live
    · exact absurd (.inr hl) h2
    · rfl

set_option maxRecDepth 100000 in
set_option maxHeartbeats 1000000 in
theorem squit (h : SAt w T p x) : Calls Try.prog 22 #[.pointer (some ⟨p, 0, none⟩)] w fun e w' => e = .returned (.int .i64 (x.shut)) ∧ SOut x.quit w T p w' := by
  have HO := Lib.hid (sopen h)
  unfold PV.quit
  by_cases hs : x.shut = 0
  · rw [if_neg (by simpa using hs)]
    rw [hs] at HO ⊢
    have HA := Lib.hid (sleave h 3)
    clear h
    go_enter Try.func22, Try.ntmps22
    go_wp2_with (first | (go_at_call 52; refine HO.out.mono ?_; rintro e w' ⟨rfl, rfl⟩) | (go_at_call 51; refine HA.out.mono ?_; rintro e w' ⟨rfl, h⟩; have H := Lib.hid h; clear h))
    go_ret
    exact ⟨rfl, H.out⟩
  · rw [if_pos hs]
    have HQ := Lib.hid (SOut.refl h)
    generalize x.shut = q at *
    clear h
    go_enter Try.func22, Try.ntmps22
    go_wp2_with (go_at_call 52; refine HO.out.mono ?_; rintro e w' ⟨rfl, rfl⟩)
    go_ret
    exact ⟨rfl, HQ.out⟩

set_option maxRecDepth 100000 in
set_option maxHeartbeats 1000000 in
theorem scommit (h : SAt w T p x) : Calls Try.prog 21 #[.pointer (some ⟨p, 0, none⟩)] w fun e w' => e = .returned (.int .i64 (x.shut)) ∧ SOut x.commit w T p w' := by
  have HO := Lib.hid (sopen h)
  unfold PV.commit
  by_cases hs : x.shut = 0
  · rw [if_neg (by simpa using hs)]
    rw [hs] at HO ⊢
    obtain ⟨lg, S, v, hP, hL, hS, hT, hf, hA⟩ := id h
    have hln := hL.fit.2.2.2
    have c1 := Holds.cell hP (i := 1) rfl
    have HW := Lib.hid (writes_any hL)
    have HA : Hid (∀ w1, Below w.heap.size w w1 → Calls Try.prog 51 #[.pointer (some ⟨p, 0, none⟩), .int .i64 1] w1 fun e w' => e = .returned (.tuple #[]) ∧ SOut { x with at_ := .leaveN 1 } w T p w') := Lib.hid (fun w1 hb => (sleave (h.below hb) 1).mono fun e w' ⟨e1, k⟩ => ⟨e1, k.after hb⟩)
    have HB : Hid (∀ w1, Below w.heap.size w w1 → Calls Try.prog 54 #[.pointer (some ⟨p, 0, none⟩)] w1 fun e w' => e = .returned (.tuple #[]) ∧ SOut { x with at_ := .take } w T p w') := Lib.hid (fun w1 hb => (ssign (h.below hb)).mono fun e w' ⟨e1, k⟩ => ⟨e1, k.after hb⟩)
    clear h hP hL hS hA hT
    by_cases he : x.log.w = []
    · rw [if_pos he]
      rw [he] at HW
      go_enter Try.func21, Try.ntmps21
      go_wp2_with (first | (go_at_call 52; refine HO.out.mono ?_; rintro e w' ⟨rfl, rfl⟩) | (go_at_call 53; refine HW.out.mono ?_; rintro e w1 ⟨lv, rfl, hr, hb⟩; obtain ⟨ad, cap, rfl, -, -⟩ := hr.rows; have HA1 := Lib.hid (HA.out _ hb); clear hr hb) | (go_at_call 51; refine HA1.out.mono ?_; rintro e w' ⟨rfl, h⟩; have H := Lib.hid h; clear h))
      go_ret
      exact ⟨rfl, H.out⟩
    · rw [if_neg he]
      have d0 : 0 < x.log.w.length := by
        rcases hl : x.log.w with _ | _
        · exact absurd hl he
        · simp
      have d1 : decide ((x.log.w.length : Int) = 0) = false := by simp; omega
      go_enter Try.func21, Try.ntmps21
      go_wp2_with (first | (go_at_call 52; refine HO.out.mono ?_; rintro e w' ⟨rfl, rfl⟩) | (go_at_call 53; refine HW.out.mono ?_; rintro e w1 ⟨lv, rfl, hr, hb⟩; obtain ⟨ad, cap, rfl, -, -⟩ := hr.rows; have HB1 := Lib.hid (HB.out _ hb); clear hr hb) | (go_at_call 54; refine HB1.out.mono ?_; rintro e w' ⟨rfl, h⟩; have H := Lib.hid h; clear h))
      go_ret
      exact ⟨rfl, H.out⟩
  · rw [if_pos hs]
    have HQ := Lib.hid (SOut.refl h)
    generalize x.shut = q at *
    clear h
    go_enter Try.func21, Try.ntmps21
    go_wp2_with (go_at_call 52; refine HO.out.mono ?_; rintro e w' ⟨rfl, rfl⟩)
    go_ret
    exact ⟨rfl, HQ.out⟩

set_option maxRecDepth 100000 in
set_option maxHeartbeats 1000000 in
theorem sload (h : SAt w T p x) (a : Int) (ha : (Lit.int .i64 a).wf = true) : Calls Try.prog 13 #[.pointer (some ⟨p, 0, none⟩), .int .i64 a] w fun e w' => e = .returned (.int .i64 (x.errA a)) ∧ SOut (x.load a) w T p w' := by
  have HO := Lib.hid (stakes h a)
  unfold PV.load
  by_cases hs : x.errA a = 0
  · rw [if_neg (by simpa using hs)]
    rw [hs] at HO ⊢
    have h8 : 8 ≤ a := by
      unfold PV.errA at hs
      split at hs
      · rename_i e; exact absurd hs e
      · split at hs
        · cases hs
        · omega
    have hno : x.at_ = .no := by
      refine (shut_no ?_).1
      unfold PV.errA at hs
      split at hs
      · exact hs
      · rename_i e; exact Classical.byContradiction e
    have HF := Lib.hid (sfetch h a ha h8)
    obtain ⟨lg, S, hP, hL, hS, hT⟩ := h.parts hno
    have c1 := Holds.cell hP (i := 1) rfl
    have c3 := Holds.cell hP (i := 3) rfl
    have f3 := Holds.free hP 3
    have HW := Lib.hid (look_any hL a ha)
    have HV : Hid (∀ y, SOut { x with val := y } w T p (w.setCell ⟨p, 3, none⟩ (.int .u64 y))) := Lib.hid (fun y => by
      have ht : Tch (· = p) w (w.setCell ⟨p, 3, none⟩ (.int .u64 y)) := (Tch.refl (· = p) w).setCell (p := ⟨p, 3, none⟩) (.inl rfl) _
      refine ⟨SAt.of_parts (x := { x with val := y }) (lg := lg) ?_ (hL.frame ht (fun k hk => (hS k hk).2.1)) (fun k hk => ⟨.inl (hS k hk).1, (hS k hk).2.1, Nat.lt_of_lt_of_le (hS k hk).2.2 ht.size⟩) (.inl hT) hno, ht.mono (fun k _ e => by subst e; exact hT)⟩
      have : PV.pw { x with val := y } = { x.pw with val := y } := by unfold PV.pw PV.req; rw [show ({ x with val := y } : PV).at_ = x.at_ from rfl, hno]
      rw [this]
      exact Holds.set hP 3 (.int .u64 y))
    clear h hP hL hS hT hno
    cases hh : hasL x.log.w a with
    | true =>
      rw [hh] at HW
      generalize valL x.log.w a = y at *
      go_enter Try.func13, Try.ntmps13
      go_wp2_with (first | (go_at_call 44; refine HO.out.mono ?_; rintro e w' ⟨rfl, rfl⟩) | (go_at_call 45; refine HW.out.mono ?_; rintro e w1 ⟨rfl, rfl⟩))
      go_ret
      exact ⟨rfl, HV.out y⟩
    | false =>
      rw [hh] at HW
      generalize valL x.log.w a = y at *
      go_enter Try.func13, Try.ntmps13
      go_wp2_with (first | (go_at_call 44; refine HO.out.mono ?_; rintro e w' ⟨rfl, rfl⟩) | (go_at_call 45; refine HW.out.mono ?_; rintro e w1 ⟨rfl, rfl⟩) | (go_at_call 46; refine HF.out.mono ?_; rintro e w' ⟨rfl, h⟩; have H := Lib.hid h; clear h))
      go_ret
      exact ⟨rfl, H.out⟩
  · rw [if_pos hs]
    have HQ := Lib.hid (SOut.refl h)
    generalize x.errA a = q at *
    clear h
    go_enter Try.func13, Try.ntmps13
    go_wp2_with (go_at_call 44; refine HO.out.mono ?_; rintro e w' ⟨rfl, rfl⟩)
    go_ret
    exact ⟨rfl, HQ.out⟩

set_option maxRecDepth 100000 in
set_option maxHeartbeats 1000000 in
theorem sstore (h : SAt w T p x) (a y : Int) (ha : (Lit.int .i64 a).wf = true) (hy : (Lit.int .u64 y).wf = true) : Calls Try.prog 17 #[.pointer (some ⟨p, 0, none⟩), .int .i64 a, .int .u64 y] w fun e w' => e = .returned (.int .i64 (x.errA a)) ∧ SOut (x.store a y) w T p w' := by
  have HO := Lib.hid (stakes h a)
  unfold PV.store
  by_cases hs : x.errA a = 0
  · rw [if_neg (by simpa using hs)]
    rw [hs] at HO ⊢
    have hno : x.at_ = .no := by
      refine (shut_no ?_).1
      unfold PV.errA at hs
      split at hs
      · exact hs
      · rename_i e; exact Classical.byContradiction e
    obtain ⟨lg, S, hP, hL, hS, hT⟩ := h.parts hno
    have c1 := Holds.cell hP (i := 1) rfl
    have HW := Lib.hid (write_any hL a y ha hy)
    have HL : Hid (∀ w1, LOut w S lg (x.log.write a y) w1 → SOut { x with log := x.log.write a y } w T p w1) := Lib.hid (fun w1 k => SOut.log hP hS hT hno k)
    clear h hP hL hS hT
    by_cases he : errRead x.log.w a = 0
    · rw [if_neg (by simpa using he)]
      rw [he] at HW
      go_enter Try.func17, Try.ntmps17
      go_wp2_with (first | (go_at_call 44; refine HO.out.mono ?_; rintro e w' ⟨rfl, rfl⟩) | (go_at_call 50; refine HW.out.mono ?_; rintro e w1 ⟨rfl, h⟩; have H := Lib.hid (HL.out _ h); clear h))
      go_ret
      exact ⟨rfl, H.out⟩
    · rw [if_pos he]
      have hwr := write_full (y := y) he
      rw [hwr] at HW HL
      have HA : Hid (∀ w1, LOut w S lg x.log w1 → Calls Try.prog 51 #[.pointer (some ⟨p, 0, none⟩), .int .i64 2] w1 fun e w' => e = .returned (.tuple #[]) ∧ SOut { x with at_ := .leaveN 2 } w T p w') := Lib.hid (fun w1 k => (sleave (HL.out w1 k).1 2).mono fun e w' ⟨e1, k2⟩ => ⟨e1, SOut.trans (HL.out w1 k).2 k2⟩)
      generalize errRead x.log.w a = q at *
      go_enter Try.func17, Try.ntmps17
      go_wp2_with (first | (go_at_call 44; refine HO.out.mono ?_; rintro e w' ⟨rfl, rfl⟩) | (go_at_call 50; refine HW.out.mono ?_; rintro e w1 ⟨rfl, h⟩; have HA1 := Lib.hid (HA.out _ h); clear h) | (go_at_call 51; refine HA1.out.mono ?_; rintro e w' ⟨rfl, h⟩; have H := Lib.hid h; clear h))
      go_ret
      exact ⟨rfl, H.out⟩
  · rw [if_pos hs]
    have HQ := Lib.hid (SOut.refl h)
    generalize x.errA a = q at *
    clear h
    go_enter Try.func17, Try.ntmps17
    go_wp2_with (go_at_call 44; refine HO.out.mono ?_; rintro e w' ⟨rfl, rfl⟩)
    go_ret
    exact ⟨rfl, HQ.out⟩

set_option maxRecDepth 100000 in
set_option maxHeartbeats 1000000 in
theorem sbegin (h : SAt w T p x) : Calls Try.prog 15 #[.pointer (some ⟨p, 0, none⟩)] w fun e w' => e = .returned (.int .i64 (x.errB)) ∧ SOut x.begin w T p w' := by
  have HN : Hid (∀ V, V = w → Calls Try.prog 47 #[.pointer (some ⟨p, 0, none⟩)] V fun e w' => e = .returned (.bool false) ∧ V = w') := Lib.hid (fun V hV => by subst hV; obtain ⟨lg, v, h1, h2⟩ := h.open; exact pnone_any h1)
  have HB := Lib.hid (sbusy h)
  obtain ⟨lg0, v0, hp0, -⟩ := h.open
  have c5 := Holds.cell hp0 (i := 5) rfl
  unfold PV.begin PV.errB
  by_cases hs : x.at_ ≠ .no ∨ x.live = true
  · rw [if_pos hs, if_pos (by decide)]
    have HQ := Lib.hid (SOut.refl h)
    clear hp0 h
    by_cases ha : x.at_ = .no
    · have hl : x.live = true := hs.resolve_left (fun e => e ha)
      have hb : x.busy = false := by simp [PV.busy, ha]
      rw [hb] at HB
      replace c5 : w.cell? ⟨p, 5, none⟩ = some (.bool true) := by rw [← hl]; exact c5
      clear ha hb hl hs
      go_enter Try.func15, Try.ntmps15
      go_wp2_with (first | (go_at_call 47; refine (HN.out _ rfl).mono ?_; rintro e w' ⟨rfl, rfl⟩) | (go_at_call 23; refine HB.out.mono ?_; rintro e w' ⟨rfl, rfl⟩))
      go_ret
      exact ⟨rfl, HQ.out⟩
    · have hb : x.busy = true := by simp [PV.busy, ha]
      rw [hb] at HB
      clear ha hb hs
      go_enter Try.func15, Try.ntmps15
      go_wp2_with (first | (go_at_call 47; refine (HN.out _ rfl).mono ?_; rintro e w' ⟨rfl, rfl⟩) | (go_at_call 23; refine HB.out.mono ?_; rintro e w' ⟨rfl, rfl⟩))
      go_ret
      exact ⟨rfl, HQ.out⟩
  · rw [if_neg hs, if_neg (by decide)]
    have hno : x.at_ = .no := Classical.byContradiction fun e => hs (.inl e)
    have hl : x.live = false := by cases hl : x.live; rfl; exact absurd (.inr hl) hs
    have hb : x.busy = false := by simp [PV.busy, hno]
    rw [hb] at HB
    replace c5 : w.cell? ⟨p, 5, none⟩ = some (.bool false) := by rw [← hl]; exact c5
    clear hp0
    obtain ⟨lg, S, hP, hL, hS, hT⟩ := h.parts hno
    have c1 := Holds.cell hP (i := 1) rfl
    have HC := Lib.hid (clear_any hL)
    have HK : Hid (∀ w1, LOut w S lg Lg.zero w1 → w1.cell? ⟨p, 3, none⟩ = some (.int .u64 x.val) ∧ w1.frozen? ⟨p, 3, none⟩ = false ∧ w1.cell? ⟨p, 7, none⟩ = some (.int .i64 x.ended) ∧ w1.frozen? ⟨p, 7, none⟩ = false ∧ Calls Try.prog 49 #[.pointer (some ⟨p, 0, none⟩)] ((w1.setCell ⟨p, 3, none⟩ (.int .u64 0)).setCell ⟨p, 7, none⟩ (.int .i64 0)) fun e w' => e = .returned (.tuple #[]) ∧ SOut { x with at_ := .beginN, val := 0, ended := 0, log := Lg.zero } w T p w') := Lib.hid (fun w1 k => by
      have hk := SOut.log hP hS hT hno k
      obtain ⟨lg1, S1, hP1, hL1, hS1, hT1⟩ := hk.1.parts hno
      have ht : Tch (· = p) w1 ((w1.setCell ⟨p, 3, none⟩ (.int .u64 0)).setCell ⟨p, 7, none⟩ (.int .i64 0)) := ((Tch.refl (· = p) w1).setCell (p := ⟨p, 3, none⟩) (.inl rfl) _).setCell (p := ⟨p, 7, none⟩) (.inl rfl) _
      refine ⟨Holds.cell hP1 (i := 3) rfl, Holds.free hP1 3, Holds.cell hP1 (i := 7) rfl, Holds.free hP1 7, ?_⟩
      have hs2 : SAt ((w1.setCell ⟨p, 3, none⟩ (.int .u64 0)).setCell ⟨p, 7, none⟩ (.int .i64 0)) (Gr T w w1) p { x with val := 0, ended := 0, log := Lg.zero } := by
        refine SAt.of_parts (lg := lg1) ?_ (hL1.frame ht (fun k hk => (hS1 k hk).2.1)) (fun k hk => ⟨(hS1 k hk).1, (hS1 k hk).2.1, Nat.lt_of_lt_of_le (hS1 k hk).2.2 ht.size⟩) hT1 hno
        have : PV.pw { x with val := 0, ended := 0, log := Lg.zero } = { PV.pw { x with log := Lg.zero } with val := 0, ended := 0 } := by unfold PV.pw PV.req; rw [show ({ x with log := Lg.zero } : PV).at_ = x.at_ from rfl, show ({ x with val := 0, ended := 0, log := Lg.zero } : PV).at_ = x.at_ from rfl, hno]
        rw [this]
        exact (Holds.set hP1 3 (.int .u64 0)).set 7 (.int .i64 0)
      have ht2 : Tch T w ((w1.setCell ⟨p, 3, none⟩ (.int .u64 0)).setCell ⟨p, 7, none⟩ (.int .i64 0)) := hk.2.gr (ht.mono (fun k _ e => by subst e; exact hT1))
      have hz : ((w1.setCell ⟨p, 3, none⟩ (.int .u64 0)).setCell ⟨p, 7, none⟩ (.int .i64 0)).heap.size = w1.heap.size := by simp
      refine (senter (hs2.more (M := Gr T w ((w1.setCell ⟨p, 3, none⟩ (.int .u64 0)).setCell ⟨p, 7, none⟩ (.int .i64 0))) (fun k _ e => ?_))).mono fun e w' ⟨e1, k2⟩ => ⟨e1, SOut.trans ht2 k2⟩
      rcases e with e | e
      · exact .inl e
      · exact .inr ⟨e.1, by rw [hz]; exact e.2⟩)
    clear h hP hL hS hT hno hl hb hs
    go_enter Try.func15, Try.ntmps15
    go_wp2_with (first | (go_at_call 47; refine (HN.out _ rfl).mono ?_; rintro e w' ⟨rfl, rfl⟩) | (go_at_call 23; refine HB.out.mono ?_; rintro e w' ⟨rfl, rfl⟩) | (go_at_call 48; refine HC.out.mono ?_; rintro e w1 ⟨rfl, h⟩; obtain ⟨q3, g3, q7, g7, hE⟩ := HK.out _ h; have HE := Lib.hid hE; clear h hE) | (go_at_call 49; refine HE.out.mono ?_; rintro e w' ⟨rfl, h⟩; have H := Lib.hid h; clear h))
    go_ret
    exact ⟨rfl, H.out⟩

set_option maxRecDepth 100000 in
set_option maxHeartbeats 1000000 in
theorem snew (w : World) : Calls Try.prog 10 #[] w fun e w' => ∃ p, e = .returned (.pointer (some ⟨p, 0, none⟩)) ∧ SAt w' (fun k => w.heap.size ≤ k ∧ k < w'.heap.size) p PV.zero ∧ Below w.heap.size w w' := by
  have HL := Lib.hid (new_any w)
  go_enter Try.func10, Try.ntmps10
  go_wp2_with (go_at_call 35; refine HL.out.mono ?_; rintro e w1 ⟨lg, rfl, h1, h2⟩; have H := Lib.hid (And.intro h1 h2); clear h1 h2)
  go_ret
  have hb : Below w1.heap.size w1 (w1.alloc (.cells (PW.cells w1.heap.size lg PV.zero.pw .nilFunc).toArray 57)) := (Below.refl _ w1).alloc (Nat.le_refl _) _
  have hz := H.out.2.size
  have hs : (w1.alloc (.cells (PW.cells w1.heap.size lg PV.zero.pw .nilFunc).toArray 57)).heap.size = w1.heap.size + 1 := by simp
  refine ⟨w1.heap.size, rfl, SAt.of_parts (x := PV.zero) (lg := lg) (S := fun k => w.heap.size ≤ k ∧ k < w1.heap.size) (Holds.new w1 57 (PW.cells w1.heap.size lg PV.zero.pw .nilFunc)) (H.out.1.below hb) (fun k hk => ⟨⟨hk.1, ?_⟩, by omega, ?_⟩) ⟨hz, ?_⟩ rfl, H.out.2.trans (hb.mono hz)⟩
  · show k < (w1.alloc (.cells (PW.cells w1.heap.size lg PV.zero.pw .nilFunc).toArray 57)).heap.size
    rw [hs]; omega
  · show k < (w1.alloc (.cells (PW.cells w1.heap.size lg PV.zero.pw .nilFunc).toArray 57)).heap.size
    rw [hs]; omega
  · show w1.heap.size < (w1.alloc (.cells (PW.cells w1.heap.size lg PV.zero.pw .nilFunc).toArray 57)).heap.size
    rw [hs]; omega
end

end Go.Proofs.Ytgdfiggloifncaa
