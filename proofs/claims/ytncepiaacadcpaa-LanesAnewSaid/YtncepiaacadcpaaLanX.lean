/- LanesAnew: the walk. It answers true, and turns nothing that was there. -/
import Derived.Test.YtncepiaacadcpaaLanI
namespace Go.Proofs.Ytncepiaacadcpaa
open Go.RowKit Go.BigFrame

/-- Two budgets in boxes, and two controls. -/
def LX (w0 V : World) (bx bb a d : Nat) (x0 x1 x2 f s o : Int) (c g : Ct) : Prop :=
  Aparts w0 V [holdP bx 23 [.int .i64 x0, .int .i64 x1, .int .i64 x2], holdP bb 23 [.int .i64 f, .int .i64 s, .int .i64 o], ctP a c, ctP d g] ∧ c.f = f ∧ c.s = s ∧ c.o = o
section
variable {w0 V : World} {bx bb a d : Nat} {x0 x1 x2 f s o : Int} {c g : Ct}
theorem LX.enter (h : LX w0 V bx bb a d x0 x1 x2 f s o c g) : Calls Try.prog 13 #[.pointer (some ⟨a, 0, none⟩)] V fun e w' => e = .returned (.tuple #[.int .i64 c.ansE, .int .i64 c.errE]) ∧ LX w0 w' bx bb a d x0 x1 x2 f s o c.enter g :=
  (enter_a h.1 2 rfl rfl rfl rfl rfl).mono fun _ _ ⟨h1, h2⟩ => ⟨h1, h2, c.enter_lim.1.trans h.2.1, c.enter_lim.2.1.trans h.2.2.1, c.enter_lim.2.2.trans h.2.2.2⟩
theorem LX.abort (h : LX w0 V bx bb a d x0 x1 x2 f s o c g) (n : Int) : Calls Try.prog 14 #[.pointer (some ⟨a, 0, none⟩), .int .i64 n] V fun e w' => e = .returned (.tuple #[.int .i64 (c.ansA n), .int .i64 (c.errA n)]) ∧ LX w0 w' bx bb a d x0 x1 x2 f s o (c.abort n) g :=
  (abort_a h.1 2 rfl n rfl rfl rfl rfl).mono fun _ _ ⟨h1, h2⟩ => ⟨h1, h2, (c.abort_lim n).1.trans h.2.1, (c.abort_lim n).2.1.trans h.2.2.1, (c.abort_lim n).2.2.trans h.2.2.2⟩
theorem LX.leave (h : LX w0 V bx bb a d x0 x1 x2 f s o c g) : Calls Try.prog 16 #[.pointer (some ⟨a, 0, none⟩)] V fun e w' => e = .returned (.int .i64 c.errL) ∧ LX w0 w' bx bb a d x0 x1 x2 f s o c.leave g :=
  (leave_a h.1 2 rfl rfl rfl rfl).mono fun _ _ ⟨h1, h2⟩ => ⟨h1, h2, c.leave_lim.1.trans h.2.1, c.leave_lim.2.1.trans h.2.2.1, c.leave_lim.2.2.trans h.2.2.2⟩
theorem Ct.idle_new {c : Ct} (h : c.Good) (h0 : c.ln = 0) : c = Ct.new c.f c.s c.o := by
  have h1 := h.z1 h0
  have h2 := h.z2 (by omega)
  have h3 := h.z3 (by omega)
  obtain ⟨f, s, o, ln, a1, a2, a3⟩ := c
  simp only at h0 h1 h2 h3
  subst h0 h1 h2 h3
  rfl
end

set_option maxRecDepth 100000 in
set_option maxHeartbeats 1000000 in
theorem lanew_long (f s o : Int) (a0 a1 : Option Addr) (l0 l1 c0 c1 : Nat) (w : World) (hl : 1000 < l0 ∨ 1000 < l1) :
    Calls Try.prog 7 #[bud f s o, .slice a0 l0 c0, .slice a1 l1 c1] w fun e w' => e = .returned (.bool true) ∧ Below w.heap.size w w' := by
  have HL : Hid (1000 < l0 ∨ 1000 < l1) := Lib.hid hl
  clear hl
  have H := Lib.hid ((Aparts.nil w).box 23 [.int .i64 f, .int .i64 s, .int .i64 o])
  unfold bud
  go_enter Try.func7, Try.ntmps7
  go_wp2_with fail
  refine (alive_ok _).mono ?_
  rintro e w1 ⟨rfl, hb⟩
  have Hb := Lib.hid (H.out.idle hb).below; clear hb H
  by_cases h0 : 1000 < l0
  · have d0 : decide ((1000 : Int) < (l0 : Int)) = true := by simp; omega
    go_wp2
    go_ret
    exact ⟨rfl, Hb.out⟩
  · have h1 : 1000 < l1 := HL.out.resolve_left h0
    have d0 : decide ((1000 : Int) < (l0 : Int)) = false := by simp; omega
    have d1 : decide ((1000 : Int) < (l1 : Int)) = true := by simp; omega
    go_wp2
    go_ret
    exact ⟨rfl, Hb.out⟩

set_option maxRecDepth 100000 in
set_option maxHeartbeats 4000000 in
theorem lanew_ok (f s o : Int) (a0 a1 : Option Addr) (xs : List OpV) (ys : List Int) (c0 c1 : Nat) (w : World) (hx : RowsIn w a0 2 OpV.cells xs) (hy : RowsIn w a1 1 icells ys) (hl0 : xs.length ≤ 1000) (hl1 : ys.length ≤ 1000) :
    Calls Try.prog 7 #[bud f s o, .slice a0 xs.length c0, .slice a1 ys.length c1] w fun e w' => e = .returned (.bool true) ∧ Below w.heap.size w w' := by
  have HX := Lib.hid hx; clear hx
  have HY := Lib.hid hy; clear hy
  have d0 : decide ((1000 : Int) < (xs.length : Int)) = false := by simp; omega
  have d1 : decide ((1000 : Int) < (ys.length : Int)) = false := by simp; omega
  have H := Lib.hid ((Aparts.nil w).box 23 [.int .i64 f, .int .i64 s, .int .i64 o])
  unfold bud
  go_enter Try.func7, Try.ntmps7
  go_wp2_with fail
  refine (alive_ok _).mono ?_
  rintro e V ⟨rfl, hb⟩
  have H1 := Lib.hid (H.out.idle hb); clear hb H
  have x0 := (H1.out.hold (i := 0) rfl).cell (i := 0) rfl
  have x1 := (H1.out.hold (i := 0) rfl).cell (i := 1) rfl
  have x2 := (H1.out.hold (i := 0) rfl).cell (i := 2) rfl
  go_wp2_with fail
  refine (small_any f s o _).mono ?_
  rintro e V ⟨f', s', o', rfl, hm, hb⟩
  unfold bud
  have H := Lib.hid ((H1.out.idle hb).box 23 [.int .i64 f', .int .i64 s', .int .i64 o'])
  clear x0 x1 x2 hb H1 d0 d1
  go_wp2_with fail
  refine (new_a H.out hm).mono ?_
  rintro e V2 ⟨a, rfl, h⟩
  generalize w.heap.size = bx at *
  generalize V.heap.size = bb at *
  clear H; have H := Lib.hid h; clear h
  have x0 := (H.out.hold (i := 1) rfl).cell (i := 0) rfl
  have x1 := (H.out.hold (i := 1) rfl).cell (i := 1) rfl
  have x2 := (H.out.hold (i := 1) rfl).cell (i := 2) rfl
  go_wp2_with fail
  refine (new_a H.out hm).mono ?_
  rintro e V3 ⟨d, rfl, h⟩
  have hs : LX w V3 bx bb a d f s o f' s' o' (Ct.new f' s' o') (Ct.new f' s' o') := ⟨h, rfl, rfl, rfl⟩
  clear H h x0 x1 x2; have H := Lib.hid hs; clear hs
  go_wp2
  go_loopw [13] (fun i wr => ∃ (k : Nat) (c : Ct), k ≤ xs.length ∧ i = .int .i64 k ∧ LX w wr bx bb a d f s o f' s' o' c (Ct.new f' s' o')) (fun i _ => xs.length - (intOf i).toNat)
  case atStart => exact ⟨0, _, by omega, rfl, H.out⟩
  case round =>
    clear H
    obtain ⟨k, c, hk, rfl, hs⟩ := hrel
    have HS := Lib.hid hs; clear hs
    by_cases hlt : k < xs.length
    · obtain ⟨x, hxk⟩ : ∃ x, xs[k]? = some x := ⟨xs[k], List.getElem?_eq_getElem hlt⟩
      obtain ⟨q, p, rfl, hq, hr⟩ := HX.out.row hxk
      have hr := row_later hr hq HS.out.1.below
      have r0 := hr 0 _ rfl
      have r1 := hr 1 _ rfl
      rw [Nat.add_zero] at r0
      obtain ⟨kd, cd⟩ := x
      simp only at r0 r1
      clear hr hxk
      by_cases k0 : kd = 0
      · subst k0
        go_wp2_with fail
        refine HS.out.enter.mono ?_
        rintro e V5 ⟨rfl, h⟩
        have HU := Lib.hid h; clear h HS r0 r1
        go_wp2
        go_roundw
        case rel => exact ⟨k + 1, _, by omega, by go_num, HU.out⟩
        case measure => simp [intOf]; omega
      have j0 : (kd == 0) = false := by simpa using k0
      clear k0
      by_cases k1 : kd = 1
      · subst k1
        go_wp2_with fail
        refine (HS.out.abort cd).mono ?_
        rintro e V5 ⟨rfl, h⟩
        have HU := Lib.hid h; clear h HS r0 r1
        go_wp2
        go_roundw
        case rel => exact ⟨k + 1, _, by omega, by go_num, HU.out⟩
        case measure => simp [intOf]; omega
      have j1 : (kd == 1) = false := by simpa using k1
      clear k1
      by_cases k2 : kd = 2
      · subst k2
        go_wp2_with fail
        refine HS.out.leave.mono ?_
        rintro e V5 ⟨rfl, h⟩
        have HU := Lib.hid h; clear h HS r0 r1
        go_wp2
        go_roundw
        case rel => exact ⟨k + 1, _, by omega, by go_num, HU.out⟩
        case measure => simp [intOf]; omega
      have j2 : (kd == 2) = false := by simpa using k2
      clear k2
      go_wp2
      go_roundw
      case rel => exact ⟨k + 1, _, by omega, by go_num, HS.out⟩
      case measure => simp [intOf]; omega
    · obtain rfl : k = xs.length := by omega
      have hg := (HS.out.1.ct (i := 2) rfl).2
      by_cases h0 : c.ln = 0
      · have hc := Ct.idle_new hg h0
        rw [HS.out.2.1, HS.out.2.2.1, HS.out.2.2.2] at hc
        obtain ⟨hs, -⟩ := HS.out
        subst hc
        clear HS hg h0
        have H := Lib.hid hs; clear hs
        go_wp2_with fail
        refine (lane_a H.out 2 rfl).mono ?_
        rintro e _ ⟨rfl, rfl⟩
        rw [show (((Ct.new f' s' o').ln : Nat) : Int) = 0 from rfl]
        go_wp2_with fail
        refine (lane_a H.out 2 rfl).mono ?_
        rintro e _ ⟨rfl, rfl⟩
        rw [show (((Ct.new f' s' o').ln : Nat) : Int) = 0 from rfl]
        go_wp2_with fail
        refine (try_a H.out 2 rfl).mono ?_
        rintro e _ ⟨rfl, h⟩
        rw [show (Ct.new f' s' o').try_ = 0 from rfl]
        clear H; have H := Lib.hid h; clear h
        go_wp2_with fail
        refine (counts_a H.out 2 rfl).mono ?_
        rintro e _ ⟨rfl, h⟩
        rw [show (Ct.new f' s' o').a1 = 0 from rfl, show (Ct.new f' s' o').a2 = 0 from rfl, show (Ct.new f' s' o').a3 = 0 from rfl]
        clear H; have H := Lib.hid h; clear h
        go_wp2_with fail
        refine (hard_a H.out 2 rfl).mono ?_
        rintro e _ ⟨rfl, rfl⟩
        rw [show (Ct.new f' s' o').hard = false from rfl]
        go_wp2_with fail
        refine (enter_a H.out 2 rfl (er := 0) rfl rfl rfl rfl).mono ?_
        rintro e _ ⟨rfl, h⟩
        clear H; have H := Lib.hid h; clear h
        go_wp2_with fail
        refine (enter_a H.out 3 rfl (er := 0) rfl rfl rfl rfl).mono ?_
        rintro e _ ⟨rfl, h⟩
        clear H; have H := Lib.hid h; clear h
        generalize (Ct.new f' s' o').ansE = z at *
        generalize (Ct.new f' s' o').enter = e0 at *
        go_wp2
        go_loopw [18] (fun i wr => ∃ (k : Nat) (e : Ct), k ≤ ys.length ∧ i = .int .i64 k ∧ Aparts w wr [holdP bx 23 [.int .i64 f, .int .i64 s, .int .i64 o], holdP bb 23 [.int .i64 f', .int .i64 s', .int .i64 o'], ctP a e, ctP d e]) (fun i _ => ys.length - (intOf i).toNat)
        case atStart => exact ⟨0, _, by omega, rfl, H.out⟩
        case round =>
          clear H
          obtain ⟨k, e, hk2, rfl, hs⟩ := hrel
          have HS := Lib.hid hs; clear hs
          by_cases hlt2 : k < ys.length
          · obtain ⟨y, hyk⟩ : ∃ y, ys[k]? = some y := ⟨ys[k], List.getElem?_eq_getElem hlt2⟩
            obtain ⟨q, p, rfl, hq, hr⟩ := HY.out.row hyk
            have r0 := row_later hr hq HS.out.below 0 _ rfl
            rw [Nat.add_zero, Nat.mul_one] at r0
            clear hyk
            go_wp2_with fail
            refine (abort_a HS.out 2 rfl y rfl rfl rfl rfl).mono ?_
            rintro e _ ⟨rfl, h⟩
            clear HS r0
            have r0 := row_later hr hq h.below 0 _ rfl
            rw [Nat.add_zero, Nat.mul_one] at r0
            have HS := Lib.hid h; clear h
            go_wp2_with fail
            refine (abort_a HS.out 3 rfl y rfl rfl rfl rfl).mono ?_
            rintro e _ ⟨rfl, h⟩
            clear HS r0 hr
            have HS := Lib.hid h; clear h
            go_wp2
            go_roundw
            case rel => exact ⟨k + 1, _, by omega, by go_num, HS.out⟩
            case measure => simp [intOf]; omega
          · obtain rfl : k = ys.length := by omega
            go_wp2_with fail
            refine (lane_a HS.out 2 rfl).mono ?_
            rintro e _ ⟨rfl, rfl⟩
            go_wp2_with fail
            refine (lane_a HS.out 3 rfl).mono ?_
            rintro e _ ⟨rfl, rfl⟩
            go_wp2_with fail
            refine (try_a HS.out 2 rfl).mono ?_
            rintro e _ ⟨rfl, h⟩
            clear HS; have HS := Lib.hid h; clear h
            go_wp2_with fail
            refine (try_a HS.out 3 rfl).mono ?_
            rintro e _ ⟨rfl, h⟩
            clear HS; have HS := Lib.hid h; clear h
            go_wp2_with fail
            refine (counts_a HS.out 2 rfl).mono ?_
            rintro e _ ⟨rfl, h⟩
            clear HS; have HS := Lib.hid h; clear h
            go_wp2_with fail
            refine (counts_a HS.out 3 rfl).mono ?_
            rintro e _ ⟨rfl, h⟩
            have HB := Lib.hid h.below; clear HS h
            go_wp2
            go_ret
            exact ⟨by simp, HB.out⟩
      · have hc : c.leave = (Ct.new f' s' o') := by unfold Ct.leave; rw [if_neg h0, HS.out.2.1, HS.out.2.2.1, HS.out.2.2.2]
        have he : c.errL = 0 := by unfold Ct.errL; rw [if_neg h0]
        have hn : ((c.ln : Int) != 0) = true := by simp; omega
        obtain ⟨hs, -⟩ := HS.out
        clear HS hg h0
        have H := Lib.hid hs; clear hs
        go_wp2_with fail
        refine (lane_a H.out 2 rfl).mono ?_
        rintro e _ ⟨rfl, rfl⟩
        go_wp2_with fail
        refine (leave_a H.out 2 rfl hc he rfl).mono ?_
        rintro e _ ⟨rfl, h⟩
        clear hc he hn
        clear H; have H := Lib.hid h; clear h
        go_wp2_with fail
        refine (lane_a H.out 2 rfl).mono ?_
        rintro e _ ⟨rfl, rfl⟩
        rw [show (((Ct.new f' s' o').ln : Nat) : Int) = 0 from rfl]
        go_wp2_with fail
        refine (try_a H.out 2 rfl).mono ?_
        rintro e _ ⟨rfl, h⟩
        rw [show (Ct.new f' s' o').try_ = 0 from rfl]
        clear H; have H := Lib.hid h; clear h
        go_wp2_with fail
        refine (counts_a H.out 2 rfl).mono ?_
        rintro e _ ⟨rfl, h⟩
        rw [show (Ct.new f' s' o').a1 = 0 from rfl, show (Ct.new f' s' o').a2 = 0 from rfl, show (Ct.new f' s' o').a3 = 0 from rfl]
        clear H; have H := Lib.hid h; clear h
        go_wp2_with fail
        refine (hard_a H.out 2 rfl).mono ?_
        rintro e _ ⟨rfl, rfl⟩
        rw [show (Ct.new f' s' o').hard = false from rfl]
        go_wp2_with fail
        refine (enter_a H.out 2 rfl (er := 0) rfl rfl rfl rfl).mono ?_
        rintro e _ ⟨rfl, h⟩
        clear H; have H := Lib.hid h; clear h
        go_wp2_with fail
        refine (enter_a H.out 3 rfl (er := 0) rfl rfl rfl rfl).mono ?_
        rintro e _ ⟨rfl, h⟩
        clear H; have H := Lib.hid h; clear h
        generalize (Ct.new f' s' o').ansE = z at *
        generalize (Ct.new f' s' o').enter = e0 at *
        go_wp2
        go_loopw [18] (fun i wr => ∃ (k : Nat) (e : Ct), k ≤ ys.length ∧ i = .int .i64 k ∧ Aparts w wr [holdP bx 23 [.int .i64 f, .int .i64 s, .int .i64 o], holdP bb 23 [.int .i64 f', .int .i64 s', .int .i64 o'], ctP a e, ctP d e]) (fun i _ => ys.length - (intOf i).toNat)
        case atStart => exact ⟨0, _, by omega, rfl, H.out⟩
        case round =>
          clear H
          obtain ⟨k, e, hk2, rfl, hs⟩ := hrel
          have HS := Lib.hid hs; clear hs
          by_cases hlt2 : k < ys.length
          · obtain ⟨y, hyk⟩ : ∃ y, ys[k]? = some y := ⟨ys[k], List.getElem?_eq_getElem hlt2⟩
            obtain ⟨q, p, rfl, hq, hr⟩ := HY.out.row hyk
            have r0 := row_later hr hq HS.out.below 0 _ rfl
            rw [Nat.add_zero, Nat.mul_one] at r0
            clear hyk
            go_wp2_with fail
            refine (abort_a HS.out 2 rfl y rfl rfl rfl rfl).mono ?_
            rintro e _ ⟨rfl, h⟩
            clear HS r0
            have r0 := row_later hr hq h.below 0 _ rfl
            rw [Nat.add_zero, Nat.mul_one] at r0
            have HS := Lib.hid h; clear h
            go_wp2_with fail
            refine (abort_a HS.out 3 rfl y rfl rfl rfl rfl).mono ?_
            rintro e _ ⟨rfl, h⟩
            clear HS r0 hr
            have HS := Lib.hid h; clear h
            go_wp2
            go_roundw
            case rel => exact ⟨k + 1, _, by omega, by go_num, HS.out⟩
            case measure => simp [intOf]; omega
          · obtain rfl : k = ys.length := by omega
            go_wp2_with fail
            refine (lane_a HS.out 2 rfl).mono ?_
            rintro e _ ⟨rfl, rfl⟩
            go_wp2_with fail
            refine (lane_a HS.out 3 rfl).mono ?_
            rintro e _ ⟨rfl, rfl⟩
            go_wp2_with fail
            refine (try_a HS.out 2 rfl).mono ?_
            rintro e _ ⟨rfl, h⟩
            clear HS; have HS := Lib.hid h; clear h
            go_wp2_with fail
            refine (try_a HS.out 3 rfl).mono ?_
            rintro e _ ⟨rfl, h⟩
            clear HS; have HS := Lib.hid h; clear h
            go_wp2_with fail
            refine (counts_a HS.out 2 rfl).mono ?_
            rintro e _ ⟨rfl, h⟩
            clear HS; have HS := Lib.hid h; clear h
            go_wp2_with fail
            refine (counts_a HS.out 3 rfl).mono ?_
            rintro e _ ⟨rfl, h⟩
            have HB := Lib.hid h.below; clear HS h
            go_wp2
            go_ret
            exact ⟨by simp, HB.out⟩

theorem lanew_any (f s o : Int) (a0 a1 : Option Addr) (l0 l1 c0 c1 : Nat) (w : World) (hx : Came w a0 l0 opKinds) (hy : Came w a1 l1 intKinds) :
    Calls Try.prog 7 #[bud f s o, .slice a0 l0 c0, .slice a1 l1 c1] w fun e w' => e = .returned (.bool true) ∧ Below w.heap.size w w' := by
  by_cases hl : 1000 < l0 ∨ 1000 < l1
  · exact lanew_long f s o a0 a1 l0 l1 c0 c1 w hl
  · obtain ⟨xs, rfl, h1⟩ := ops_in hx
    obtain ⟨ys, rfl, h2⟩ := ints_in hy
    exact lanew_ok f s o a0 a1 xs ys c0 c1 w h1 h2 (by omega) (by omega)

end Go.Proofs.Ytncepiaacadcpaa
