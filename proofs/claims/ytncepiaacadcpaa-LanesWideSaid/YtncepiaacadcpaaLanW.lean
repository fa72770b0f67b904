/- LanesWide: the walk. It answers true, and turns nothing that was there. -/
import Derived.Test.YtncepiaacadcpaaLanI
import Derived.Deep.RegionHeld3
namespace Go.Proofs.Ytncepiaacadcpaa
open Go.RowKit Go.BigFrame

/-- Two budgets in boxes, and a control. -/
def LW (w0 V : World) (bx bb a : Nat) (x0 x1 x2 f s o : Int) (c : Ct) : Prop :=
  Aparts w0 V [holdP bx 23 [.int .i64 x0, .int .i64 x1, .int .i64 x2], holdP bb 23 [.int .i64 f, .int .i64 s, .int .i64 o], ctP a c] ∧ c.f = f ∧ c.s = s ∧ c.o = o
/-- Besides, five numbers in a box. -/
def LV (w0 V : World) (bx bb a nb : Nat) (x0 x1 x2 f s o : Int) (c : Ct) (n0 n1 n2 n3 n4 : Int) : Prop :=
  Aparts w0 V [holdP bx 23 [.int .i64 x0, .int .i64 x1, .int .i64 x2], holdP bb 23 [.int .i64 f, .int .i64 s, .int .i64 o], ctP a c, holdP nb 42 [.int .i64 n0, .int .i64 n1, .int .i64 n2, .int .i64 n3, .int .i64 n4]]
section
variable {w0 V : World} {bx bb a nb : Nat} {x0 x1 x2 f s o n0 n1 n2 n3 n4 : Int} {c : Ct}
theorem LW.abort (h : LW w0 V bx bb a x0 x1 x2 f s o c) (n : Int) : Calls Try.prog 14 #[.pointer (some ⟨a, 0, none⟩), .int .i64 n] V fun e w' => e = .returned (.tuple #[.int .i64 (c.ansA n), .int .i64 (c.errA n)]) ∧ LW w0 w' bx bb a x0 x1 x2 f s o (c.abort n) :=
  (abort_a h.1 2 rfl n rfl rfl rfl rfl).mono fun _ _ ⟨h1, h2⟩ => ⟨h1, h2, (c.abort_lim n).1.trans h.2.1, (c.abort_lim n).2.1.trans h.2.2.1, (c.abort_lim n).2.2.trans h.2.2.2⟩
theorem LW.idle {V' : World} (h : LW w0 V bx bb a x0 x1 x2 f s o c) (hb : Below V.heap.size V V') : LW w0 V' bx bb a x0 x1 x2 f s o c := ⟨h.1.idle hb, h.2⟩
theorem lv_lane (h : LV w0 V bx bb a nb x0 x1 x2 f s o c n0 n1 n2 n3 n4) : Calls Try.prog 18 #[.pointer (some ⟨a, 0, none⟩)] V fun e w' => e = .returned (.int .i64 (c.ln : Int)) ∧ V = w' := lane_a h 2 rfl
theorem lv_hard (h : LV w0 V bx bb a nb x0 x1 x2 f s o c n0 n1 n2 n3 n4) : Calls Try.prog 20 #[.pointer (some ⟨a, 0, none⟩)] V fun e w' => e = .returned (.bool c.hard) ∧ V = w' := hard_a h 2 rfl
theorem lv_counts (h : LV w0 V bx bb a nb x0 x1 x2 f s o c n0 n1 n2 n3 n4) : Calls Try.prog 15 #[.pointer (some ⟨a, 0, none⟩)] V fun e w' => e = .returned (.agg #[.int .i64 0, .int .i64 c.a1, .int .i64 c.a2, .int .i64 c.a3, .int .i64 0]) ∧ LV w0 w' bx bb a nb x0 x1 x2 f s o c n0 n1 n2 n3 n4 := counts_a h 2 rfl
theorem LV.cells (h : LV w0 V bx bb a nb x0 x1 x2 f s o c n0 n1 n2 n3 n4) : V.cell? ⟨nb, 0, none⟩ = some (.int .i64 n0) ∧ V.cell? ⟨nb, 1, none⟩ = some (.int .i64 n1) ∧ V.cell? ⟨nb, 2, none⟩ = some (.int .i64 n2) ∧ V.cell? ⟨nb, 3, none⟩ = some (.int .i64 n3) ∧ V.cell? ⟨nb, 4, none⟩ = some (.int .i64 n4) := by
  have k := Aparts.hold h (i := 3) rfl
  exact ⟨k.cell (i := 0) rfl, k.cell (i := 1) rfl, k.cell (i := 2) rfl, k.cell (i := 3) rfl, k.cell (i := 4) rfl⟩
end

set_option maxRecDepth 100000 in
set_option maxHeartbeats 1000000 in
theorem lwide_long (f s o : Int) (a0 : Option Addr) (l0 c0 : Nat) (w : World) (hl : 100 < l0) :
    Calls Try.prog 6 #[bud f s o, .slice a0 l0 c0] w fun e w' => e = .returned (.bool true) ∧ Below w.heap.size w w' := by
  have d0 : decide ((100 : Int) < (l0 : Int)) = true := by simp; omega
  have H := Lib.hid ((Aparts.nil w).box 23 [.int .i64 f, .int .i64 s, .int .i64 o])
  unfold bud
  go_enter Try.func6, Try.ntmps6
  go_wp2_with fail
  refine (alive_ok _).mono ?_
  rintro e w1 ⟨rfl, hb⟩
  have Hb := Lib.hid (H.out.idle hb).below; clear hb H
  go_wp2
  go_ret
  exact ⟨rfl, Hb.out⟩

set_option maxRecDepth 100000 in
set_option maxHeartbeats 4000000 in
theorem lwide_ok (f s o : Int) (a0 : Option Addr) (xs : List Int) (c0 : Nat) (w : World) (hx : RowsIn w a0 1 icells xs) (hl : xs.length ≤ 100) :
    Calls Try.prog 6 #[bud f s o, .slice a0 xs.length c0] w fun e w' => e = .returned (.bool true) ∧ Below w.heap.size w w' := by
  have HX := Lib.hid hx; clear hx
  have d0 : decide ((100 : Int) < (xs.length : Int)) = false := by simp; omega
  have H := Lib.hid ((Aparts.nil w).box 23 [.int .i64 f, .int .i64 s, .int .i64 o])
  unfold bud
  go_enter Try.func6, Try.ntmps6
  go_wp2_with fail
  refine (alive_ok _).mono ?_
  rintro e V ⟨rfl, hb⟩
  have H1 := Lib.hid (H.out.idle hb); clear hb H
  have x0 := (H1.out.hold (i := 0) rfl).cell (i := 0) rfl
  have x1 := (H1.out.hold (i := 0) rfl).cell (i := 1) rfl
  have x2 := (H1.out.hold (i := 0) rfl).cell (i := 2) rfl
  go_wp2_with fail
  refine (small_any f s o _).mono ?_
  rintro e V ⟨f', s', o', rfl, hm, hb⟩
  unfold bud
  have H := Lib.hid ((H1.out.idle hb).box 23 [.int .i64 f', .int .i64 s', .int .i64 o'])
  clear x0 x1 x2 hb H1 d0
  go_wp2_with fail
  refine (new_a H.out hm).mono ?_
  rintro e V2 ⟨a, rfl, h⟩
  generalize w.heap.size = bx at *
  generalize V.heap.size = bb at *
  clear H; have H := Lib.hid h; clear h
  go_wp2_with fail
  refine (enter_a H.out 2 rfl rfl rfl rfl rfl).mono ?_
  rintro e V3 ⟨rfl, h⟩
  have hs : LW w V3 bx bb a f s o f' s' o' (Ct.new f' s' o').enter := ⟨h, ((Ct.new f' s' o').enter_lim).1, ((Ct.new f' s' o').enter_lim).2.1, ((Ct.new f' s' o').enter_lim).2.2⟩
  clear H h; have H := Lib.hid hs; clear hs
  generalize (Ct.new f' s' o').enter = ce at *
  generalize (Ct.new f' s' o').ansE = zk at *
  generalize (Ct.new f' s' o').errE = ze at *
  go_wp2
  go_loopw [9] (fun i wr => ∃ (k : Nat) (c : Ct), k ≤ xs.length ∧ i = .int .i64 k ∧ LW w wr bx bb a f s o f' s' o' c) (fun i _ => xs.length - (intOf i).toNat)
  case atStart => exact ⟨0, ce, by omega, rfl, H.out⟩
  case round =>
    clear H
    obtain ⟨k, c, hk, rfl, hs⟩ := hrel
    have HS := Lib.hid hs; clear hs
    have HH := Lib.hid (hard_a HS.out.1 2 rfl)
    by_cases hh : c.hard = true
    · rw [hh] at HH
      by_cases hlt : k < xs.length
      · obtain ⟨x, hxk⟩ : ∃ x, xs[k]? = some x := ⟨xs[k], List.getElem?_eq_getElem hlt⟩
        obtain ⟨q, p, rfl, hq, hr⟩ := HX.out.row hxk
        have hr0 : wr.cell? ⟨q, p + k * 1, none⟩ = some (.int .i64 x) := by
          rw [World.cell?_of_block (a := ⟨q, p + k * 1, none⟩) (HS.out.1.below.block q hq)]
          exact hr 0 _ rfl
        rw [Nat.mul_one] at hr0
        clear hr hxk hh
        go_wp2_with (go_at_call 20; refine HH.out.mono ?_; rintro e V ⟨rfl, rfl⟩)
        refine (code_any x _).mono ?_
        rintro e V4 ⟨kd, rfl, hkd, hb⟩
        have HT := Lib.hid (HS.out.idle hb); clear hb HS HH hr0 hq hkd
        by_cases h3 : kd = 3
        · subst h3
          go_wp2
          go_roundw
          case rel => exact ⟨k + 1, c, by omega, by go_num, HT.out⟩
          case measure => simp [intOf]; omega
        · have d3 : (kd != 3) = true := by simpa using h3
          clear h3
          go_wp2_with fail
          refine (HT.out.abort kd).mono ?_
          rintro e V5 ⟨rfl, h⟩
          have HU := Lib.hid h; clear h HT
          go_wp2
          go_roundw
          case rel => exact ⟨k + 1, _, by omega, by go_num, HU.out⟩
          case measure => simp [intOf]; omega
      · obtain rfl : k = xs.length := by omega
        have hln : c.ln = 1 ∨ c.ln = 2 := by simpa [Ct.hard] using hh
        have hg := (HS.out.1.ct (i := 2) rfl).2
        have g1 := hg.b1
        have g2 := hg.b2
        clear hg
        obtain ⟨hs, hf1, hf2, hf3⟩ := HS.out
        clear HS
        obtain ⟨fc, sc, oc, ln, a1, a2, a3⟩ := c
        simp only at hf1 hf2 hf3 hln g1 g2
        subst hf1 hf2 hf3
        have HS := Lib.hid hs; clear hs
        have e3 := (⟨fc, sc, oc, ln, a1, a2, a3⟩ : Ct).from3
        go_wp2_with (go_at_call 20; refine HH.out.mono ?_; rintro e V ⟨rfl, rfl⟩)
        refine (counts_a HS.out 2 rfl).mono ?_
        rintro e V4 ⟨rfl, h⟩
        clear HH HX
        have H1 := Lib.hid (h.box 42 [.int .i64 0, .int .i64 a1, .int .i64 a2, .int .i64 a3, .int .i64 0]); clear h HS
        go_wp2_with fail
        refine (lane_a H1.out 2 rfl).mono ?_
        rintro e V5 ⟨rfl, rfl⟩
        have HA := Lib.hid (Ct.abort3 (c := ⟨fc, sc, oc, ln, a1, a2, a3⟩) hln)
        clear e3
        by_cases ho : oc = 0
        · rcases hln with rfl | rfl
          · go_wp2_with fail
            refine (abort_a H1.out 2 rfl 3 (c' := ⟨fc, sc, oc, 4, a1 + 1, a2, a3⟩) (k := 4) (er := 0) (by rw [HA.out.2.2]; simp [Ct.inc, ho]) (by rw [HA.out.2.1]; simp [ho]) HA.out.1 rfl).mono ?_
            rintro e V5 ⟨rfl, h⟩
            have y2 := (h.hold (i := 1) rfl).cell (i := 2) rfl
            have hn := h.hold (i := 3) rfl
            have n1 := hn.cell (i := 1) rfl
            have f1 := hn.free 1
            have HP : Hid (LV w ((V5.setCell ⟨V4.heap.size, 1, none⟩ (.int .i64 (a1 + 1))).drew) bx bb a V4.heap.size f s o fc sc oc ⟨fc, sc, oc, 4, a1 + 1, a2, a3⟩ 0 (a1 + 1) a2 a3 0) :=
              Lib.hid (Aparts.idle (h.put (i := 3) rfl rfl (hn.set 1 (.int .i64 (a1 + 1))) (Tch.setCell (C := (· = V4.heap.size)) (Tch.refl _ _) (p := ⟨V4.heap.size, 1, none⟩) (.inl rfl) _)) (below_drew1 (Below.refl _ _)))
            clear h hn H1 HA
            have ho' : (oc == 0) = true := by simpa using ho
            clear ho
            generalize V4.heap.size = nb at *
            go_wp2
            have hP := HP.out
            have HK : Hid (∀ V, LV w V bx bb a nb f s o fc sc oc ⟨fc, sc, oc, 4, a1 + 1, a2, a3⟩ 0 (a1 + 1) a2 a3 0 → V.cell? ⟨nb, 0, none⟩ = some (.int .i64 0) ∧ V.cell? ⟨nb, 1, none⟩ = some (.int .i64 (a1 + 1)) ∧ V.cell? ⟨nb, 2, none⟩ = some (.int .i64 a2) ∧ V.cell? ⟨nb, 3, none⟩ = some (.int .i64 a3) ∧ V.cell? ⟨nb, 4, none⟩ = some (.int .i64 0)) := Lib.hid (fun V h => h.cells)
            clear y2 n1 f1 ho' HP
            go_region_held3 (fun V => V.cell? ⟨nb, 0, none⟩ = some (.int .i64 0) ∧ V.cell? ⟨nb, 1, none⟩ = some (.int .i64 (a1 + 1)) ∧ V.cell? ⟨nb, 2, none⟩ = some (.int .i64 a2) ∧ V.cell? ⟨nb, 3, none⟩ = some (.int .i64 a3) ∧ V.cell? ⟨nb, 4, none⟩ = some (.int .i64 0)) (first | with_reducible exact HK.out _ hP) (first | (go_at_call 18; (with_reducible refine (lv_lane hP).mono ?_); rintro e V ⟨rfl, rfl⟩) | (go_at_call 20; (with_reducible refine (lv_hard hP).mono ?_); rintro e V ⟨rfl, rfl⟩) | (go_at_call 15; (with_reducible refine (lv_counts hP).mono ?_); rintro e V ⟨rfl, hP⟩))
            all_goals
              have HB := Lib.hid (Aparts.below hP)
              clear hP HK
              go_wp2
              go_ret
              exact ⟨by simp, HB.out⟩
          · go_wp2_with fail
            refine (abort_a H1.out 2 rfl 3 (c' := ⟨fc, sc, oc, 4, a1, a2 + 1, a3⟩) (k := 4) (er := 0) (by rw [HA.out.2.2]; simp [Ct.inc, ho]) (by rw [HA.out.2.1]; simp [ho]) HA.out.1 rfl).mono ?_
            rintro e V5 ⟨rfl, h⟩
            have y2 := (h.hold (i := 1) rfl).cell (i := 2) rfl
            have hn := h.hold (i := 3) rfl
            have n1 := hn.cell (i := 2) rfl
            have f1 := hn.free 2
            have HP : Hid (LV w ((V5.setCell ⟨V4.heap.size, 2, none⟩ (.int .i64 (a2 + 1))).drew) bx bb a V4.heap.size f s o fc sc oc ⟨fc, sc, oc, 4, a1, a2 + 1, a3⟩ 0 a1 (a2 + 1) a3 0) :=
              Lib.hid (Aparts.idle (h.put (i := 3) rfl rfl (hn.set 2 (.int .i64 (a2 + 1))) (Tch.setCell (C := (· = V4.heap.size)) (Tch.refl _ _) (p := ⟨V4.heap.size, 2, none⟩) (.inl rfl) _)) (below_drew1 (Below.refl _ _)))
            clear h hn H1 HA
            have ho' : (oc == 0) = true := by simpa using ho
            clear ho
            generalize V4.heap.size = nb at *
            go_wp2
            have hP := HP.out
            have HK : Hid (∀ V, LV w V bx bb a nb f s o fc sc oc ⟨fc, sc, oc, 4, a1, a2 + 1, a3⟩ 0 a1 (a2 + 1) a3 0 → V.cell? ⟨nb, 0, none⟩ = some (.int .i64 0) ∧ V.cell? ⟨nb, 1, none⟩ = some (.int .i64 a1) ∧ V.cell? ⟨nb, 2, none⟩ = some (.int .i64 (a2 + 1)) ∧ V.cell? ⟨nb, 3, none⟩ = some (.int .i64 a3) ∧ V.cell? ⟨nb, 4, none⟩ = some (.int .i64 0)) := Lib.hid (fun V h => h.cells)
            clear y2 n1 f1 ho' HP
            go_region_held3 (fun V => V.cell? ⟨nb, 0, none⟩ = some (.int .i64 0) ∧ V.cell? ⟨nb, 1, none⟩ = some (.int .i64 a1) ∧ V.cell? ⟨nb, 2, none⟩ = some (.int .i64 (a2 + 1)) ∧ V.cell? ⟨nb, 3, none⟩ = some (.int .i64 a3) ∧ V.cell? ⟨nb, 4, none⟩ = some (.int .i64 0)) (first | with_reducible exact HK.out _ hP) (first | (go_at_call 18; (with_reducible refine (lv_lane hP).mono ?_); rintro e V ⟨rfl, rfl⟩) | (go_at_call 20; (with_reducible refine (lv_hard hP).mono ?_); rintro e V ⟨rfl, rfl⟩) | (go_at_call 15; (with_reducible refine (lv_counts hP).mono ?_); rintro e V ⟨rfl, hP⟩))
            all_goals
              have HB := Lib.hid (Aparts.below hP)
              clear hP HK
              go_wp2
              go_ret
              exact ⟨by simp, HB.out⟩
        · rcases hln with rfl | rfl
          · go_wp2_with fail
            refine (abort_a H1.out 2 rfl 3 (c' := ⟨fc, sc, oc, 3, a1 + 1, a2, a3⟩) (k := 3) (er := 0) (by rw [HA.out.2.2]; simp [Ct.inc, ho]) (by rw [HA.out.2.1]; simp [ho]) HA.out.1 rfl).mono ?_
            rintro e V5 ⟨rfl, h⟩
            have y2 := (h.hold (i := 1) rfl).cell (i := 2) rfl
            have hn := h.hold (i := 3) rfl
            have n1 := hn.cell (i := 1) rfl
            have f1 := hn.free 1
            have HP : Hid (LV w ((V5.setCell ⟨V4.heap.size, 1, none⟩ (.int .i64 (a1 + 1))).drew) bx bb a V4.heap.size f s o fc sc oc ⟨fc, sc, oc, 3, a1 + 1, a2, a3⟩ 0 (a1 + 1) a2 a3 0) :=
              Lib.hid (Aparts.idle (h.put (i := 3) rfl rfl (hn.set 1 (.int .i64 (a1 + 1))) (Tch.setCell (C := (· = V4.heap.size)) (Tch.refl _ _) (p := ⟨V4.heap.size, 1, none⟩) (.inl rfl) _)) (below_drew1 (Below.refl _ _)))
            clear h hn H1 HA
            have ho' : (oc == 0) = false := by simpa using ho
            clear ho
            generalize V4.heap.size = nb at *
            go_wp2
            have hP := HP.out
            have HK : Hid (∀ V, LV w V bx bb a nb f s o fc sc oc ⟨fc, sc, oc, 3, a1 + 1, a2, a3⟩ 0 (a1 + 1) a2 a3 0 → V.cell? ⟨nb, 0, none⟩ = some (.int .i64 0) ∧ V.cell? ⟨nb, 1, none⟩ = some (.int .i64 (a1 + 1)) ∧ V.cell? ⟨nb, 2, none⟩ = some (.int .i64 a2) ∧ V.cell? ⟨nb, 3, none⟩ = some (.int .i64 a3) ∧ V.cell? ⟨nb, 4, none⟩ = some (.int .i64 0)) := Lib.hid (fun V h => h.cells)
            clear y2 n1 f1 ho' HP
            go_region_held3 (fun V => V.cell? ⟨nb, 0, none⟩ = some (.int .i64 0) ∧ V.cell? ⟨nb, 1, none⟩ = some (.int .i64 (a1 + 1)) ∧ V.cell? ⟨nb, 2, none⟩ = some (.int .i64 a2) ∧ V.cell? ⟨nb, 3, none⟩ = some (.int .i64 a3) ∧ V.cell? ⟨nb, 4, none⟩ = some (.int .i64 0)) (first | with_reducible exact HK.out _ hP) (first | (go_at_call 18; (with_reducible refine (lv_lane hP).mono ?_); rintro e V ⟨rfl, rfl⟩) | (go_at_call 20; (with_reducible refine (lv_hard hP).mono ?_); rintro e V ⟨rfl, rfl⟩) | (go_at_call 15; (with_reducible refine (lv_counts hP).mono ?_); rintro e V ⟨rfl, hP⟩))
            all_goals
              have HB := Lib.hid (Aparts.below hP)
              clear hP HK
              go_wp2
              go_ret
              exact ⟨by simp, HB.out⟩
          · go_wp2_with fail
            refine (abort_a H1.out 2 rfl 3 (c' := ⟨fc, sc, oc, 3, a1, a2 + 1, a3⟩) (k := 3) (er := 0) (by rw [HA.out.2.2]; simp [Ct.inc, ho]) (by rw [HA.out.2.1]; simp [ho]) HA.out.1 rfl).mono ?_
            rintro e V5 ⟨rfl, h⟩
            have y2 := (h.hold (i := 1) rfl).cell (i := 2) rfl
            have hn := h.hold (i := 3) rfl
            have n1 := hn.cell (i := 2) rfl
            have f1 := hn.free 2
            have HP : Hid (LV w ((V5.setCell ⟨V4.heap.size, 2, none⟩ (.int .i64 (a2 + 1))).drew) bx bb a V4.heap.size f s o fc sc oc ⟨fc, sc, oc, 3, a1, a2 + 1, a3⟩ 0 a1 (a2 + 1) a3 0) :=
              Lib.hid (Aparts.idle (h.put (i := 3) rfl rfl (hn.set 2 (.int .i64 (a2 + 1))) (Tch.setCell (C := (· = V4.heap.size)) (Tch.refl _ _) (p := ⟨V4.heap.size, 2, none⟩) (.inl rfl) _)) (below_drew1 (Below.refl _ _)))
            clear h hn H1 HA
            have ho' : (oc == 0) = false := by simpa using ho
            clear ho
            generalize V4.heap.size = nb at *
            go_wp2
            have hP := HP.out
            have HK : Hid (∀ V, LV w V bx bb a nb f s o fc sc oc ⟨fc, sc, oc, 3, a1, a2 + 1, a3⟩ 0 a1 (a2 + 1) a3 0 → V.cell? ⟨nb, 0, none⟩ = some (.int .i64 0) ∧ V.cell? ⟨nb, 1, none⟩ = some (.int .i64 a1) ∧ V.cell? ⟨nb, 2, none⟩ = some (.int .i64 (a2 + 1)) ∧ V.cell? ⟨nb, 3, none⟩ = some (.int .i64 a3) ∧ V.cell? ⟨nb, 4, none⟩ = some (.int .i64 0)) := Lib.hid (fun V h => h.cells)
            clear y2 n1 f1 ho' HP
            go_region_held3 (fun V => V.cell? ⟨nb, 0, none⟩ = some (.int .i64 0) ∧ V.cell? ⟨nb, 1, none⟩ = some (.int .i64 a1) ∧ V.cell? ⟨nb, 2, none⟩ = some (.int .i64 (a2 + 1)) ∧ V.cell? ⟨nb, 3, none⟩ = some (.int .i64 a3) ∧ V.cell? ⟨nb, 4, none⟩ = some (.int .i64 0)) (first | with_reducible exact HK.out _ hP) (first | (go_at_call 18; (with_reducible refine (lv_lane hP).mono ?_); rintro e V ⟨rfl, rfl⟩) | (go_at_call 20; (with_reducible refine (lv_hard hP).mono ?_); rintro e V ⟨rfl, rfl⟩) | (go_at_call 15; (with_reducible refine (lv_counts hP).mono ?_); rintro e V ⟨rfl, hP⟩))
            all_goals
              have HB := Lib.hid (Aparts.below hP)
              clear hP HK
              go_wp2
              go_ret
              exact ⟨by simp, HB.out⟩
    · have hh : c.hard = false := by simpa using hh
      rw [hh] at HH
      by_cases hlt : k < xs.length
      · have HB := Lib.hid HS.out.1.below; clear HS
        go_wp2_with (go_at_call 20; refine HH.out.mono ?_; rintro e V ⟨rfl, rfl⟩)
        go_ret
        exact ⟨rfl, HB.out⟩
      · have HB := Lib.hid HS.out.1.below; clear HS
        go_wp2_with (go_at_call 20; refine HH.out.mono ?_; rintro e V ⟨rfl, rfl⟩)
        go_ret
        exact ⟨rfl, HB.out⟩

theorem lwide_any (f s o : Int) (a0 : Option Addr) (l0 c0 : Nat) (w : World) (hx : Came w a0 l0 intKinds) :
    Calls Try.prog 6 #[bud f s o, .slice a0 l0 c0] w fun e w' => e = .returned (.bool true) ∧ Below w.heap.size w w' := by
  by_cases hl : 100 < l0
  · exact lwide_long f s o a0 l0 c0 w hl
  · obtain ⟨xs, rfl, h1⟩ := ints_in hx
    exact lwide_ok f s o a0 xs c0 w h1 (by omega)

end Go.Proofs.Ytncepiaacadcpaa
