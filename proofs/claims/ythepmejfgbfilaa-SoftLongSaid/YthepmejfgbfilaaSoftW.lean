/- The document's own path: it stands as a plain machine's state; ready, leave, Quit, Commit, Begin, Load, Store. Conditions: those stated in each theorem. -/
import Derived.Test.YthepmejfgbfilaaSoftV
namespace Go.Proofs.Ythepmejfgbfilaa
open Go.RowKit Go.BigFrame Go.Maps

def ThR (t : Th) (x : RW) (l : List Pr) : Prop := match t with
  | .fetch a => x.to = 4 ∧ x.a = a
  | .sign => x.to = 9 ∧ l ≠ []
def AtR (a : At) (x : RW) (f : Lg) : Prop := match a with
  | .no => x.code = 0
  | .beginN => x.code = 1
  | .beginCas n => x.code = 2 ∧ x.n = n
  | .beginSeq => x.code = 3
  | .loadWord a => x.code = 4 ∧ x.a = a
  | .loadSeq a y => x.code = 5 ∧ x.a = a ∧ x.v = y
  | .checkSeq t => x.code = 6 ∧ ThR t x f.w
  | .check g l t => ∃ k : Nat, x.code = (if k < f.r.length then 7 else 8) ∧ x.g = g ∧ x.i = k ∧ k ≤ f.r.length ∧ l = f.r.drop k ∧ ThR t x f.w
  | .take => x.code = 9 ∧ f.w ≠ []
  | .back l => ∃ k : Nat, x.code = (if k < f.w.length then 10 else 11) ∧ x.i = k ∧ k ≤ f.w.length ∧ l = f.w.drop k
  | .leaveN how => x.code = 12 ∧ x.how = how
  | .leaveCas how n => x.code = 13 ∧ x.how = how ∧ x.n = n
/-- The words say what the plain path is. -/
structure Rel (y : PV) (x : RW) : Prop where
  snap : x.snap = y.snap
  val : x.val = y.val
  live : x.live = y.live
  writing : x.writing = y.writing
  ended : x.ended = y.ended
  pts : x.pts = y.pts
  at_ : AtR y.at_ x y.log
/-- The document's path at q, in T. -/
def RAt (w : World) (T : Nat → Prop) (q : Nat) (y : PV) : Prop := ∃ x rv wv, RfAt w q x rv wv y.log ∧ Rel y x ∧ T q ∧ (∀ g, rv.ownBlock = some g → T g) ∧ (∀ g, wv.ownBlock = some g → T g) ∧ y.log.r.length ≤ 128 ∧ y.log.w.length ≤ 128
def ROut (y : PV) (w : World) (T : Nat → Prop) (q : Nat) (w' : World) : Prop := RAt w' (Gr T w w') q y ∧ Tch T w w'

section
variable {w w' W : World} {C M T : Nat → Prop} {q : Nat} {x x' : RW} {y y' : PV} {rv wv : Value} {f : Lg}
theorem RAt.frame (h : RAt w T q y) (ht : Tch C w w') (hC : ∀ k, T k → ¬ C k) : RAt w' T q y := by
  obtain ⟨x, rv, wv, h1, h2, h3, h4, h5, h6⟩ := h
  exact ⟨x, rv, wv, h1.frame ht (hC q h3) (fun g e => hC g (h4 g e)) (fun g e => hC g (h5 g e)), h2, h3, h4, h5, h6⟩
theorem RAt.more (h : RAt w T q y) (hT : ∀ k, k < w.heap.size → T k → M k) : RAt w M q y := by
  obtain ⟨x, rv, wv, h1, h2, h3, h4, h5, h6⟩ := h
  exact ⟨x, rv, wv, h1, h2, hT q h1.head.lt h3, fun g e => hT g (h1.r.lt e).2 (h4 g e), fun g e => hT g (h1.wl.lt e).2 (h5 g e), h6⟩
def refP (q : Nat) (y : PV) : Part := ⟨fun w T => RAt w T q y, fun h ht hC => RAt.frame h ht hC, fun h hT => RAt.more h hT⟩
theorem RfOut.turned (h : RfAt w q x rv wv f) (ht : Tch (· = q) w w') (hh : Holds w' q 31 (x'.cells rv wv)) : RfOut w q x' rv wv f w' :=
  ⟨rv, wv, ⟨hh, h.r.keep ht (h.r.other h.head (by decide)), h.wl.keep ht (h.wl.other h.head (by decide))⟩, ht, .inl rfl, .inl rfl⟩
theorem RfOut.to (k : RfOut w q x' rv wv y'.log w') (hr : Rel y' x') (h3 : T q) (h4 : ∀ g, rv.ownBlock = some g → T g) (h5 : ∀ g, wv.ownBlock = some g → T g) (h6 : y'.log.r.length ≤ 128) (h7 : y'.log.w.length ≤ 128) : ROut y' w T q w' := by
  obtain ⟨rv', wv', k1, k2, k3, k4⟩ := k
  refine ⟨⟨x', rv', wv', k1, hr, .inl h3, fun g e => ?_, fun g e => ?_, h6, h7⟩, k2.mono (fun k _ e => by subst e; exact h3)⟩
  · rcases k3 with rfl | k3
    · exact .inl (h4 g e)
    · exact .inr ⟨k3 g e, (k1.r.lt e).2⟩
  · rcases k4 with rfl | k4
    · exact .inl (h5 g e)
    · exact .inr ⟨k4 g e, (k1.wl.lt e).2⟩
theorem Tch.sq {a w : World} {k : Nat} (h : Tch (· = k) a w) (i : Nat) (v : Value) : Tch (· = k) a (w.setCell ⟨k, i, none⟩ v) := h.setCell (p := ⟨k, i, none⟩) (.inl rfl) v
theorem Tch.gr' {w1 : World} (h : Tch T w w1) (k : Tch (Gr T w w1) w1 w') : Tch T w w' := h.gr k
theorem ROut.trans {w1 : World} (h : Tch T w w1) (k : ROut y w1 (Gr T w w1) q w') : ROut y w T q w' := by
  have z1 := h.size
  have z2 := k.2.size
  exact ⟨k.1.more (fun i _ e => by
    rcases e with (e | e) | e
    · exact .inl e
    · exact .inr ⟨e.1, by omega⟩
    · exact .inr ⟨by omega, e.2⟩), h.gr k.2⟩
theorem rowL_nil (w : World) (lo : Nat) : RowL w lo (.slice none 0 0) [] := World.ownsRow_nil ..
theorem ROut.refl (h : RAt w T q y) : ROut y w T q w := ⟨h.more (fun _ _ e => .inl e), Tch.refl _ _⟩
theorem AtR.no {a : At} (h : AtR a x f) : a = .no ↔ x.code = 0 := by
  constructor
  · rintro rfl; exact h
  · intro e
    cases a with
    | no => rfl
    | beginN | beginSeq => have h : x.code = _ := h; omega
    | beginCas n | loadWord a | loadSeq a y | checkSeq t | take | leaveN how | leaveCas how n => have := h.1; omega
    | check g l t | back l => obtain ⟨k, h1, _⟩ := h; split at h1 <;> omega
theorem shut_if : y.shut = if y.at_ ≠ .no ∨ y.live = false then 80 else 0 := rfl

set_option maxHeartbeats 400000 in
theorem rready (h : RAt w T q y) : Calls Try.prog 57 #[.pointer (some ⟨q, 0, none⟩)] w fun e w' => e = .returned (.bool (decide (y.shut = 0))) ∧ w = w' := by
  obtain ⟨x, rv, wv, h1, h2, -⟩ := h
  have c0 := h1.head.cell (i := 0) rfl
  have c12 := h1.head.cell (i := 12) rfl
  have hn := h2.at_.no
  have hl := h2.live
  by_cases hz : x.code = 0
  · have hs : y.shut = if y.live = false then 80 else 0 := by unfold PV.shut; simp [hn.2 hz]
    rw [hz] at c0
    rw [hs, ← hl]
    cases hx : x.live
    all_goals
      rw [hx] at c12
      clear h1 h2 hn hl hs
      go_enter Try.func57, Try.ntmps57
      go_wp2
      go_ret
      exact ⟨rfl, rfl⟩
  · have hs : y.shut = 80 := by unfold PV.shut; simp [hn, hz]
    rw [hs]
    have d0 : (x.code == 0) = false := by simpa using hz
    clear h1 h2 hn hl hs
    go_enter Try.func57, Try.ntmps57
    go_wp2
    go_ret
    exact ⟨rfl, rfl⟩

set_option maxHeartbeats 400000 in
theorem rleave (h : RAt w T q y) (how : Int) : Calls Try.prog 60 #[.pointer (some ⟨q, 0, none⟩), .int .i64 how] w fun e w' => e = .returned (.tuple #[]) ∧ ROut { y with at_ := .leaveN how } w T q w' := by
  obtain ⟨x, rv, wv, h1, h2, h3, h4, h5, h6, h7⟩ := h
  have f0 := h1.head.free 0
  have f7 := h1.head.free 7
  have c0 := h1.head.cell (i := 0) rfl
  have c7 := h1.head.cell (i := 7) rfl
  have HE : Hid (ROut { y with at_ := .leaveN how } w T q ((w.setCell ⟨q, 7, none⟩ (.int .i64 how)).setCell ⟨q, 0, none⟩ (.int .i64 12))) := Lib.hid (RfOut.to (RfOut.turned (x' := { x with how := how, code := 12 }) h1 (((Tch.refl (· = q) w).sq 7 _).sq 0 _) ((h1.head.set 7 _).set 0 _)) ⟨h2.snap, h2.val, h2.live, h2.writing, h2.ended, h2.pts, rfl, rfl⟩ h3 h4 h5 h6 h7)
  clear h1 h2 h3 h4 h5 h6 h7
  go_enter Try.func60, Try.ntmps60
  go_wp2
  refine ⟨rfl, .tuple #[], (by simp [results, Try.results60, go_sem]), rfl, ?_⟩
  exact HE.out

set_option maxHeartbeats 400000 in
theorem rquit (h : RAt w T q y) : Calls Try.prog 40 #[.pointer (some ⟨q, 0, none⟩)] w fun e w' => e = .returned (.int .i64 y.shut) ∧ ROut y.quit w T q w' := by
  have HO := Lib.hid (rready h)
  unfold PV.quit
  by_cases hs : y.shut = 0
  · rw [if_neg (by simpa using hs)]
    rw [hs] at HO ⊢
    have HA := Lib.hid (rleave h 3)
    clear h
    go_enter Try.func40, Try.ntmps40
    go_wp2_with (first | (go_at_call 57; refine HO.out.mono ?_; rintro e w' ⟨rfl, rfl⟩) | (go_at_call 60; refine HA.out.mono ?_; rintro e w' ⟨rfl, h⟩; have H := Lib.hid h; clear h))
    go_ret
    exact ⟨rfl, H.out⟩
  · rw [if_pos hs]
    have h80 : y.shut = 80 := by unfold PV.shut at hs ⊢; split at hs <;> simp_all
    have d : decide (y.shut = 0) = false := by simpa using hs
    rw [d] at HO
    rw [h80]
    have HQ := Lib.hid (ROut.refl h)
    clear h hs h80 d
    go_enter Try.func40, Try.ntmps40
    go_wp2_with (go_at_call 57; refine HO.out.mono ?_; rintro e w' ⟨rfl, rfl⟩)
    go_ret
    exact ⟨rfl, HQ.out⟩

theorem shut_80 (hs : ¬ y.shut = 0) : y.shut = 80 := by unfold PV.shut at hs ⊢; split at hs <;> simp_all
theorem errA_if (a : Int) (hs : y.shut = 0) : y.errA a = if a < 8 then 2 else 0 := by unfold PV.errA; rw [if_neg (by simpa using hs)]
theorem errA_80 (a : Int) (hs : ¬ y.shut = 0) : y.errA a = 80 := by unfold PV.errA; rw [if_pos hs, shut_80 hs]

set_option maxHeartbeats 400000 in
theorem rcommit (h : RAt w T q y) : Calls Try.prog 39 #[.pointer (some ⟨q, 0, none⟩)] w fun e w' => e = .returned (.int .i64 y.shut) ∧ ROut y.commit w T q w' := by
  have HO := Lib.hid (rready h)
  unfold PV.commit
  by_cases hs : y.shut = 0
  · rw [if_neg (by simpa using hs)]
    rw [hs] at HO ⊢
    have HA := Lib.hid (rleave h 1)
    obtain ⟨x, rv, wv, h1, h2, h3, h4, h5, h6, h7⟩ := h
    obtain ⟨ad, cap, rfl, -, -⟩ := h1.wl.spot
    have c11 := h1.head.cell (i := 11) rfl
    by_cases he : y.log.w = []
    · rw [if_pos he]
      rw [he] at c11
      clear h1 h2 h3 h4 h5 h6 h7
      go_enter Try.func39, Try.ntmps39
      go_wp2_with (first | (go_at_call 57; refine HO.out.mono ?_; rintro e w' ⟨rfl, rfl⟩) | (go_at_call 60; refine HA.out.mono ?_; rintro e w' ⟨rfl, h⟩; have H := Lib.hid h; clear h))
      go_ret
      exact ⟨rfl, H.out⟩
    · rw [if_neg he]
      have hp : 0 < y.log.w.length := by
        rcases hl : y.log.w with _ | _
        · exact absurd hl he
        · simp
      have d1 : decide ((y.log.w.length : Int) = 0) = false := by simp; omega
      have d2 : ((y.log.w.length : Int) == 0) = false := by simp; omega
      have f0 := h1.head.free 0
      have c0 := h1.head.cell (i := 0) rfl
      have HE : Hid (ROut { y with at_ := .take } w T q (w.setCell ⟨q, 0, none⟩ (.int .i64 9))) := Lib.hid (RfOut.to (RfOut.turned (x' := { x with code := 9 }) h1 ((Tch.refl (· = q) w).sq 0 _) (h1.head.set 0 _)) ⟨h2.snap, h2.val, h2.live, h2.writing, h2.ended, h2.pts, rfl, he⟩ h3 h4 h5 h6 h7)
      clear h1 h2 h3 h4 h5 h6
      go_enter Try.func39, Try.ntmps39
      go_wp2_with (go_at_call 57; refine HO.out.mono ?_; rintro e w' ⟨rfl, rfl⟩)
      go_ret
      exact ⟨rfl, HE.out⟩
  · rw [if_pos hs]
    have d : decide (y.shut = 0) = false := by simpa using hs
    rw [d] at HO
    rw [shut_80 hs]
    have HQ := Lib.hid (ROut.refl h)
    clear h hs d
    go_enter Try.func39, Try.ntmps39
    go_wp2_with (go_at_call 57; refine HO.out.mono ?_; rintro e w' ⟨rfl, rfl⟩)
    go_ret
    exact ⟨rfl, HQ.out⟩

set_option maxHeartbeats 400000 in
theorem rload (h : RAt w T q y) (a : Int) : Calls Try.prog 37 #[.pointer (some ⟨q, 0, none⟩), .int .i64 a] w fun e w' => e = .returned (.int .i64 (y.errA a)) ∧ ROut (y.load a) w T q w' := by
  have HO := Lib.hid (rready h)
  have HQ := Lib.hid (ROut.refl h)
  unfold PV.load
  by_cases hs : y.shut = 0
  · rw [errA_if a hs]
    have d : decide (y.shut = 0) = true := by simpa using hs
    rw [d] at HO
    by_cases ha : a < 8
    · rw [if_pos ha, if_pos (by decide)]
      have da : decide (a < 8) = true := by simpa using ha
      clear h hs d
      go_enter Try.func37, Try.ntmps37
      go_wp2_with (go_at_call 57; refine HO.out.mono ?_; rintro e w' ⟨rfl, rfl⟩)
      go_ret
      exact ⟨rfl, HQ.out⟩
    · rw [if_neg ha, if_neg (by decide)]
      have da : decide (a < 8) = false := by simpa using ha
      obtain ⟨x, rv, wv, h1, h2, h3, h4, h5, h6, h7⟩ := h
      obtain ⟨ad, cap, rfl, hr, -⟩ := h1.wl.spot
      have c11 := h1.head.cell (i := 11) rfl
      have c0 := h1.head.cell (i := 0) rfl
      have c2 := h1.head.cell (i := 2) rfl
      have c9 := h1.head.cell (i := 9) rfl
      have f0 := h1.head.free 0
      have f2 := h1.head.free 2
      have f9 := h1.head.free 9
      have HV := Lib.hid (rvalue_any w ad cap y.log.w hr (by omega) a)
      have hno := shut_no hs
      cases hh : hasL y.log.w a with
      | true =>
        rw [if_pos rfl]
        rw [hh] at HV
        have HE : Hid (ROut { y with val := valL y.log.w a } w T q (w.setCell ⟨q, 9, none⟩ (.int .u64 (valL y.log.w a)))) := Lib.hid (RfOut.to (RfOut.turned (x' := { x with val := valL y.log.w a }) h1 ((Tch.refl (· = q) w).sq 9 _) (h1.head.set 9 _)) ⟨h2.snap, rfl, h2.live, h2.writing, h2.ended, h2.pts, by have := h2.at_; rw [hno.1] at this; show AtR y.at_ _ _; rw [hno.1]; exact this⟩ h3 h4 h5 h6 h7)
        clear h1 h2 h3 h4 h5 hr hs
        go_enter Try.func37, Try.ntmps37
        go_wp2_with (first | (go_at_call 57; refine HO.out.mono ?_; rintro e w' ⟨rfl, rfl⟩) | (go_at_call 58; refine HV.out.mono ?_; rintro e w' ⟨rfl, rfl⟩))
        go_ret
        exact ⟨rfl, HE.out⟩
      | false =>
        rw [if_neg (by decide)]
        rw [hh] at HV
        have HE : Hid (ROut { y with at_ := .loadWord a } w T q ((w.setCell ⟨q, 2, none⟩ (.int .i64 a)).setCell ⟨q, 0, none⟩ (.int .i64 4))) := Lib.hid (RfOut.to (RfOut.turned (x' := { x with a := a, code := 4 }) h1 (((Tch.refl (· = q) w).sq 2 _).sq 0 _) ((h1.head.set 2 _).set 0 _)) ⟨h2.snap, h2.val, h2.live, h2.writing, h2.ended, h2.pts, rfl, rfl⟩ h3 h4 h5 h6 h7)
        clear h1 h2 h3 h4 h5 hr hs
        go_enter Try.func37, Try.ntmps37
        go_wp2_with (first | (go_at_call 57; refine HO.out.mono ?_; rintro e w' ⟨rfl, rfl⟩) | (go_at_call 58; refine HV.out.mono ?_; rintro e w' ⟨rfl, rfl⟩))
        go_ret
        exact ⟨rfl, HE.out⟩
  · rw [errA_80 a hs, if_pos (by decide)]
    have d : decide (y.shut = 0) = false := by simpa using hs
    rw [d] at HO
    clear h hs d
    go_enter Try.func37, Try.ntmps37
    go_wp2_with (go_at_call 57; refine HO.out.mono ?_; rintro e w' ⟨rfl, rfl⟩)
    go_ret
    exact ⟨rfl, HQ.out⟩

set_option maxHeartbeats 400000 in
theorem rstore (h : RAt w T q y) (a v : Int) : Calls Try.prog 38 #[.pointer (some ⟨q, 0, none⟩), .int .i64 a, .int .u64 v] w fun e w' => e = .returned (.int .i64 (y.errA a)) ∧ ROut (y.store a v) w T q w' := by
  have HO := Lib.hid (rready h)
  have HQ := Lib.hid (ROut.refl h)
  unfold PV.store
  by_cases hs : y.shut = 0
  · rw [errA_if a hs]
    have d : decide (y.shut = 0) = true := by simpa using hs
    rw [d] at HO
    by_cases ha : a < 8
    · rw [if_pos ha, if_pos (by decide)]
      have da : decide (a < 8) = true := by simpa using ha
      clear h hs d
      go_enter Try.func38, Try.ntmps38
      go_wp2_with (go_at_call 57; refine HO.out.mono ?_; rintro e w' ⟨rfl, rfl⟩)
      go_ret
      exact ⟨rfl, HQ.out⟩
    · rw [if_neg ha, if_neg (by decide)]
      have da : decide (a < 8) = false := by simpa using ha
      obtain ⟨x, rv, wv, h1, h2, h3, h4, h5, h6, h7⟩ := h
      have hno := shut_no hs
      have HW := Lib.hid (rwrite_any h1 h7 a v)
      by_cases he : errRead y.log.w a = 0
      · rw [if_neg (by simpa using he)]
        rw [he] at HW
        have HK : Hid (∀ w', RfOut w q x rv wv (y.log.write a v) w' → ROut { y with log := y.log.write a v } w T q w') := Lib.hid (fun w' k => RfOut.to (y' := { y with log := y.log.write a v }) k ⟨h2.snap, h2.val, h2.live, h2.writing, h2.ended, h2.pts, by have := h2.at_; rw [hno.1] at this; show AtR y.at_ _ _; rw [hno.1]; exact this⟩ h3 h4 h5 h6 (writeL_len h7 a v))
        clear h1 h2 h3 h4 h5 hs
        go_enter Try.func38, Try.ntmps38
        go_wp2_with (first | (go_at_call 57; refine HO.out.mono ?_; rintro e w' ⟨rfl, rfl⟩) | (go_at_call 59; refine HW.out.mono ?_; rintro e w1 ⟨rfl, h⟩; have HE := Lib.hid (HK.out _ h); clear h))
        go_ret
        exact ⟨rfl, HE.out⟩
      · rw [if_pos he]
        have dn : (errRead y.log.w a == 0) = false := by simpa using he
        have HK : Hid (∀ w', RfOut w q x rv wv (y.log.write a v) w' → Calls Try.prog 60 #[.pointer (some ⟨q, 0, none⟩), .int .i64 2] w' fun e w2 => e = .returned (.tuple #[]) ∧ ROut { y with at_ := .leaveN 2 } w T q w2) := Lib.hid (fun w' k => by
          rw [write_full he] at k
          have k2 := RfOut.to (y' := y) k h2 h3 h4 h5 h6 h7
          exact (rleave k2.1 2).mono fun e w2 ⟨e1, k3⟩ => ⟨e1, ROut.trans k2.2 k3⟩)
        clear h1 h2 h3 h4 h5 hs
        go_enter Try.func38, Try.ntmps38
        go_wp2_with (first | (go_at_call 57; refine HO.out.mono ?_; rintro e w' ⟨rfl, rfl⟩) | (go_at_call 59; refine HW.out.mono ?_; rintro e w1 ⟨rfl, h⟩; have HL := Lib.hid (HK.out _ h); clear h) | (go_at_call 60; refine HL.out.mono ?_; rintro e w' ⟨rfl, h⟩; have HE := Lib.hid h; clear h))
        go_ret
        exact ⟨rfl, HE.out⟩
  · rw [errA_80 a hs, if_pos (by decide)]
    have d : decide (y.shut = 0) = false := by simpa using hs
    rw [d] at HO
    clear h hs d
    go_enter Try.func38, Try.ntmps38
    go_wp2_with (go_at_call 57; refine HO.out.mono ?_; rintro e w' ⟨rfl, rfl⟩)
    go_ret
    exact ⟨rfl, HQ.out⟩

set_option maxHeartbeats 400000 in
theorem rbegin (h : RAt w T q y) : Calls Try.prog 36 #[.pointer (some ⟨q, 0, none⟩)] w fun e w' => e = .returned (.int .i64 y.errB) ∧ ROut y.begin w T q w' := by
  have HQ := Lib.hid (ROut.refl h)
  obtain ⟨x, rv, wv, h1, h2, h3, h4, h5, h6, h7⟩ := h
  have c0 := h1.head.cell (i := 0) rfl
  have c9 := h1.head.cell (i := 9) rfl
  have c10 := h1.head.cell (i := 10) rfl
  have c11 := h1.head.cell (i := 11) rfl
  have c12 := h1.head.cell (i := 12) rfl
  have c14 := h1.head.cell (i := 14) rfl
  have f0 := h1.head.free 0
  have f9 := h1.head.free 9
  have f10 := h1.head.free 10
  have f11 := h1.head.free 11
  have f14 := h1.head.free 14
  have hn := h2.at_.no
  have hl := h2.live
  unfold PV.begin
  by_cases hz : x.code = 0
  · rw [hz] at c0
    have hb : y.errB = if y.live = true then 80 else 0 := by unfold PV.errB; simp [hn.2 hz]
    cases hx : x.live with
    | true =>
      rw [← hl, hx] at hb
      rw [hx] at c12
      rw [hb, if_pos rfl, if_pos (by decide)]
      clear h1 h2 h3 h4 h5 h6 h7
      go_enter Try.func36, Try.ntmps36
      go_wp2
      go_ret
      exact ⟨rfl, HQ.out⟩
    | false =>
      rw [← hl, hx] at hb
      rw [hx] at c12
      rw [hb, if_neg (by decide), if_neg (by decide)]
      have hql := h1.head.lt
      have HE : Hid (∀ w', w' = (((((w.setCell ⟨q, 10, none⟩ (.slice none 0 0)).setCell ⟨q, 11, none⟩ (.slice none 0 0)).setCell ⟨q, 9, none⟩ (.int .u64 0)).setCell ⟨q, 14, none⟩ (.int .i64 0)).setCell ⟨q, 0, none⟩ (.int .i64 1)) → ROut { y with at_ := .beginN, val := 0, ended := 0, log := Lg.zero } w T q w') := Lib.hid (fun w' e => by
        subst e
        refine RfOut.to (x' := { x with val := 0, ended := 0, code := 1 }) (y' := { y with at_ := .beginN, val := 0, ended := 0, log := Lg.zero }) ⟨.slice none 0 0, .slice none 0 0, ⟨((((h1.head.set 10 _).set 11 _).set 9 _).set 14 _).set 0 _, rowL_nil _ _, rowL_nil _ _⟩, (((((Tch.refl (· = q) w).sq 10 _).sq 11 _).sq 9 _).sq 14 _).sq 0 _, .inr (fun g e => by cases e), .inr (fun g e => by cases e)⟩ ⟨h2.snap, rfl, h2.live, h2.writing, rfl, h2.pts, rfl⟩ h3 h4 h5 (by simp [Lg.zero]) (by simp [Lg.zero]))
      clear h1 h2 h3 h4 h5 h6 h7
      go_enter Try.func36, Try.ntmps36
      go_wp2
      go_ret
      exact ⟨rfl, HE.out _ rfl⟩
  · have hb : y.errB = 80 := by unfold PV.errB; simp [hn, hz]
    rw [hb, if_pos (by decide)]
    have d0 : (x.code == 0) = false := by simpa using hz
    clear h1 h2 h3 h4 h5 h6 h7
    go_enter Try.func36, Try.ntmps36
    go_wp2
    go_ret
    exact ⟨rfl, HQ.out⟩
end

end Go.Proofs.Ythepmejfgbfilaa
