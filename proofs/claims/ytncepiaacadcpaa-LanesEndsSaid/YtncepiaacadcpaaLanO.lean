/- LanesEnds: the walk. It answers true, and turns nothing that was there. -/
import Derived.Test.YtncepiaacadcpaaLanW
namespace Go.Proofs.Ytncepiaacadcpaa
open Go.RowKit Go.BigFrame

theorem Aparts.init {w0 w : World} {l : List Part} {P : Part} (h : Aparts w0 w (l ++ [P])) : Aparts w0 w l := by
  obtain ⟨⟨o, h1, h2⟩, h3⟩ := h
  exact ⟨⟨o, h1, fun i Q e => h2 i Q (by rw [List.getElem?_append_left (List.getElem?_eq_some_iff.1 e).1]; exact e)⟩, h3⟩
theorem Ct.from_ge (c : Ct) {k : Nat} (h : k ≤ 4) : k ≤ c.from k := by
  unfold Ct.from
  by_cases h1 : k ≤ 1 ∧ c.f ≠ 0
  · rw [if_pos h1]; exact h1.1
  rw [if_neg h1]
  by_cases h2 : k ≤ 2 ∧ c.s ≠ 0
  · rw [if_pos h2]; exact h2.1
  rw [if_neg h2]
  by_cases h3 : k ≤ 3 ∧ c.o ≠ 0
  · rw [if_pos h3]; exact h3.1
  rw [if_neg h3]; exact h
theorem Ct.step_facts {c : Ct} (h1 : 1 ≤ c.ln) (h3 : c.ln ≤ 3) {n : Int} (hk : okCode n = true) :
    c.errA n = 0 ∧ c.ansA n = ((c.abort n).ln : Int) ∧ c.ln ≤ (c.abort n).ln ∧ (c.abort n).try_ = c.try_ + 1 := by
  have he : c.errA n = 0 := by unfold Ct.errA; rw [if_neg (by omega), hk]; rfl
  have hi : c.inc.ln = c.ln := by unfold Ct.inc; split <;> rfl
  have ha : c.abort n = { c.inc with ln := c.inc.follow n } := by unfold Ct.abort; rw [he, if_pos rfl]
  refine ⟨he, ?_, ?_, ?_⟩
  · rw [ha]; unfold Ct.ansA; rw [he, if_pos rfl]
  · rw [ha]
    change c.ln ≤ c.inc.follow n
    unfold Ct.follow
    rw [hi]
    by_cases q : (c.ln = 1 ∨ c.ln = 2) ∧ n = 3
    · rw [if_pos q]; exact Nat.le_trans (by omega) (c.inc.from_ge (k := 3) (by omega))
    rw [if_neg q]
    by_cases q2 : c.inc.cnt c.ln = c.inc.lim c.ln
    · rw [if_pos q2]; exact Nat.le_trans (by omega) (c.inc.from_ge (k := c.ln + 1) (by omega))
    · rw [if_neg q2]; exact Nat.le_refl _
  · rw [ha]
    have h4 : c.ln = 1 ∨ c.ln = 2 ∨ c.ln = 3 := by omega
    unfold Ct.try_ Ct.inc
    rcases h4 with h | h | h <;> rw [h] <;> simp only <;> omega
theorem Ct.lim_ne {c : Ct} (hg : c.Good) (h1 : 1 ≤ c.ln) (h3 : c.ln ≤ 3) : (c.lim c.ln == 0) = false := by
  have l1 := hg.l1
  have l2 := hg.l2
  have l3 := hg.l3
  have p1 := hg.a10
  have p2 := hg.a20
  have p3 := hg.a30
  have h4 : c.ln = 1 ∨ c.ln = 2 ∨ c.ln = 3 := by omega
  rw [beq_eq_false_iff_ne]
  rcases h4 with h | h | h
  · rw [h]; have := l1 h; show c.f ≠ 0; omega
  · rw [h]; have := l2 h; show c.s ≠ 0; omega
  · rw [h]; have := l3 h; show c.o ≠ 0; omega
theorem Ct.hard_lt {c : Ct} (h1 : 1 ≤ c.ln) : c.hard = decide ((c.ln : Int) < 3) := by
  unfold Ct.hard
  by_cases h : c.ln = 1 ∨ c.ln = 2
  · rw [decide_eq_true h, decide_eq_true (by omega)]
  · rw [decide_eq_false h, decide_eq_false (by omega)]
theorem Ct.try_lt {c : Ct} (hg : c.Good) (h1 : 1 ≤ c.ln) (h3 : c.ln ≤ 3) : c.try_ < c.f + c.s + c.o := by
  have l1 := hg.l1
  have l2 := hg.l2
  have l3 := hg.l3
  have p1 := hg.a11
  have p2 := hg.a21
  have p3 := hg.a31
  unfold Ct.try_
  have h4 : c.ln = 1 ∨ c.ln = 2 ∨ c.ln = 3 := by omega
  rcases h4 with h | h | h
  · have := l1 h; omega
  · have := l2 h; omega
  · have := l3 h; omega
theorem Ct.enter_ln (f s o : Int) : 1 ≤ (Ct.new f s o).enter.ln ∧ (Ct.new f s o).ansE = ((Ct.new f s o).enter.ln : Int) :=
  ⟨Nat.le_trans (Nat.le_refl 1) (Ct.from_ge (Ct.new f s o) (k := 1) (by omega)), rfl⟩

section
variable {w0 V : World} {bx bb a nb : Nat} {x0 x1 x2 f s o n0 n1 n2 n3 n4 : Int} {c : Ct}
theorem lv_bud1 (h : LV w0 V bx bb a nb x0 x1 x2 f s o c n0 n1 n2 n3 n4) : Calls Try.prog 24 #[.agg #[.int .i64 f, .int .i64 s, .int .i64 o], .int .i64 1] V fun e w' => e = .returned (.int .i64 f) ∧ LV w0 w' bx bb a nb x0 x1 x2 f s o c n0 n1 n2 n3 n4 :=
  (budget_any (Ct.new f s o) 1 (by omega) V).mono fun _ _ ⟨h1, h2⟩ => ⟨h1, Aparts.idle h h2⟩
theorem LV.cell1 (h : LV w0 V bx bb a nb x0 x1 x2 f s o c n0 n1 n2 n3 n4) : V.cell? ⟨nb, 1, none⟩ = some (.int .i64 n1) ∧ V.cell? ⟨bb, 0, none⟩ = some (.int .i64 f) ∧ V.cell? ⟨bb, 1, none⟩ = some (.int .i64 s) ∧ V.cell? ⟨bb, 2, none⟩ = some (.int .i64 o) := by
  have k := Aparts.hold h (i := 3) rfl
  have q := Aparts.hold h (i := 1) rfl
  exact ⟨k.cell (i := 1) rfl, q.cell (i := 0) rfl, q.cell (i := 1) rfl, q.cell (i := 2) rfl⟩
theorem lv_bud2 (h : LV w0 V bx bb a nb x0 x1 x2 f s o c n0 n1 n2 n3 n4) : Calls Try.prog 24 #[.agg #[.int .i64 f, .int .i64 s, .int .i64 o], .int .i64 2] V fun e w' => e = .returned (.int .i64 s) ∧ LV w0 w' bx bb a nb x0 x1 x2 f s o c n0 n1 n2 n3 n4 :=
  (budget_any (Ct.new f s o) 2 (by omega) V).mono fun _ _ ⟨h1, h2⟩ => ⟨h1, Aparts.idle h h2⟩
theorem LV.cell2 (h : LV w0 V bx bb a nb x0 x1 x2 f s o c n0 n1 n2 n3 n4) : V.cell? ⟨nb, 2, none⟩ = some (.int .i64 n2) ∧ V.cell? ⟨bb, 0, none⟩ = some (.int .i64 f) ∧ V.cell? ⟨bb, 1, none⟩ = some (.int .i64 s) ∧ V.cell? ⟨bb, 2, none⟩ = some (.int .i64 o) := by
  have k := Aparts.hold h (i := 3) rfl
  have q := Aparts.hold h (i := 1) rfl
  exact ⟨k.cell (i := 2) rfl, q.cell (i := 0) rfl, q.cell (i := 1) rfl, q.cell (i := 2) rfl⟩
theorem lv_bud3 (h : LV w0 V bx bb a nb x0 x1 x2 f s o c n0 n1 n2 n3 n4) : Calls Try.prog 24 #[.agg #[.int .i64 f, .int .i64 s, .int .i64 o], .int .i64 3] V fun e w' => e = .returned (.int .i64 o) ∧ LV w0 w' bx bb a nb x0 x1 x2 f s o c n0 n1 n2 n3 n4 :=
  (budget_any (Ct.new f s o) 3 (by omega) V).mono fun _ _ ⟨h1, h2⟩ => ⟨h1, Aparts.idle h h2⟩
theorem LV.cell3 (h : LV w0 V bx bb a nb x0 x1 x2 f s o c n0 n1 n2 n3 n4) : V.cell? ⟨nb, 3, none⟩ = some (.int .i64 n3) ∧ V.cell? ⟨bb, 0, none⟩ = some (.int .i64 f) ∧ V.cell? ⟨bb, 1, none⟩ = some (.int .i64 s) ∧ V.cell? ⟨bb, 2, none⟩ = some (.int .i64 o) := by
  have k := Aparts.hold h (i := 3) rfl
  have q := Aparts.hold h (i := 1) rfl
  exact ⟨k.cell (i := 3) rfl, q.cell (i := 0) rfl, q.cell (i := 1) rfl, q.cell (i := 2) rfl⟩
end

set_option maxRecDepth 100000 in
set_option maxHeartbeats 1000000 in
theorem lends_long (f s o : Int) (a0 : Option Addr) (l0 c0 : Nat) (w : World) (hl : 1000 < l0) :
    Calls Try.prog 5 #[bud f s o, .slice a0 l0 c0] w fun e w' => e = .returned (.bool true) ∧ Below w.heap.size w w' := by
  have d0 : decide ((1000 : Int) < (l0 : Int)) = true := by simp; omega
  have H := Lib.hid ((Aparts.nil w).box 23 [.int .i64 f, .int .i64 s, .int .i64 o])
  unfold bud
  go_enter Try.func5, Try.ntmps5
  go_wp2_with fail
  refine (alive_ok _).mono ?_
  rintro e w1 ⟨rfl, hb⟩
  have Hb := Lib.hid (H.out.idle hb).below; clear hb H
  go_wp2
  go_ret
  exact ⟨rfl, Hb.out⟩

set_option maxRecDepth 100000 in
set_option maxHeartbeats 8000000 in
theorem lends_ok (f s o : Int) (a0 : Option Addr) (xs : List Int) (c0 : Nat) (w : World) (hx : RowsIn w a0 1 icells xs) (hl : xs.length ≤ 1000) :
    Calls Try.prog 5 #[bud f s o, .slice a0 xs.length c0] w fun e w' => e = .returned (.bool true) ∧ Below w.heap.size w w' := by
  have HX := Lib.hid hx; clear hx
  have d0 : decide ((1000 : Int) < (xs.length : Int)) = false := by simp; omega
  have H := Lib.hid ((Aparts.nil w).box 23 [.int .i64 f, .int .i64 s, .int .i64 o])
  unfold bud
  go_enter Try.func5, Try.ntmps5
  go_wp2_with fail
  refine (alive_ok _).mono ?_
  rintro e V ⟨rfl, hb⟩
  have H1 := Lib.hid (H.out.idle hb); clear hb H
  have x0 := (H1.out.hold (i := 0) rfl).cell (i := 0) rfl
  have x1 := (H1.out.hold (i := 0) rfl).cell (i := 1) rfl
  have x2 := (H1.out.hold (i := 0) rfl).cell (i := 2) rfl
  go_wp2_with fail
  refine (small_any f s o _).mono ?_
  rintro e V ⟨f', s', o', rfl, hm, hb⟩
  unfold bud
  have H := Lib.hid ((H1.out.idle hb).box 23 [.int .i64 f', .int .i64 s', .int .i64 o'])
  clear x0 x1 x2 hb H1 d0
  have HM := Lib.hid hm
  go_wp2_with fail
  refine (most_a H.out HM.out).mono ?_
  rintro e V2 ⟨rfl, h⟩
  generalize w.heap.size = bx at *
  generalize V.heap.size = bb at *
  clear H; have H := Lib.hid h; clear h
  have x0 := (H.out.hold (i := 1) rfl).cell (i := 0) rfl
  have x1 := (H.out.hold (i := 1) rfl).cell (i := 1) rfl
  have x2 := (H.out.hold (i := 1) rfl).cell (i := 2) rfl
  go_wp2_with fail
  refine (new_a H.out HM.out).mono ?_
  rintro e V3 ⟨a, rfl, h⟩
  clear H x0 x1 x2; have H := Lib.hid h; clear h
  go_wp2_with fail
  refine (enter_a H.out 2 rfl (er := 0) rfl (Ct.enter_ln f' s' o').2 rfl rfl).mono ?_
  rintro e V4 ⟨rfl, h⟩
  have hs : LW w V4 bx bb a f s o f' s' o' (Ct.new f' s' o').enter := ⟨h, ((Ct.new f' s' o').enter_lim).1, ((Ct.new f' s' o').enter_lim).2.1, ((Ct.new f' s' o').enter_lim).2.2⟩
  have he1 := (Ct.enter_ln f' s' o').1
  have ht0 : (Ct.new f' s' o').enter.try_ = 0 := rfl
  clear H h; have H := Lib.hid hs; clear hs
  generalize (Ct.new f' s' o').enter = ce at *
  have x0 := (H.out.1.hold (i := 1) rfl).cell (i := 0) rfl
  have x1 := (H.out.1.hold (i := 1) rfl).cell (i := 1) rfl
  have x2 := (H.out.1.hold (i := 1) rfl).cell (i := 2) rfl
  obtain ⟨⟨m1, m2⟩, ⟨m3, m4⟩, m5, m6⟩ := hm
  go_wp2
  clear x0 x1 x2
  go_loopw [11, 13, 14] (fun i11 i13 i14 wr => ∃ (k : Nat) (c : Ct), k ≤ 48 ∧ 1 ≤ c.ln ∧ (k : Int) = c.try_ ∧ i11 = .int .i64 (c.ln : Int) ∧ i13 = .int .i64 k ∧ i14 = .int .i64 k ∧ LW w wr bx bb a f s o f' s' o' c) (fun _ _ i14 _ => 49 - (intOf i14).toNat)
  case atStart => exact ⟨0, ce, by omega, he1, ht0.symm, rfl, rfl, rfl, H.out⟩
  case round =>
    clear H he1 ht0
    obtain ⟨k, c, hk, hc1, hkt, rfl, rfl, rfl, hs⟩ := hrel
    have HKT := Lib.hid hkt; clear hkt
    have HS := Lib.hid hs; clear hs
    have hg := (HS.out.1.ct (i := 2) rfl).2
    have hc4 := hg.ln
    have dk : decide ((k : Int) < (xs.length : Int) + 100) = true := by simp; omega
    by_cases h4 : c.ln = 4
    · have d4 : ((c.ln : Int) != 4) = false := by rw [h4]; rfl
      have he : c.errA 1 = 90 := by unfold Ct.errA; rw [if_pos (by omega)]
      have ha : c.ansA 1 = 0 := by unfold Ct.ansA; rw [he, if_neg (by decide)]
      have hab : c.abort 1 = c := by unfold Ct.abort; rw [he, if_neg (by decide)]
      rw [h4]
      clear hg hc1 hc4
      go_wp2_with fail
      refine (abort_a HS.out.1 2 rfl 1 hab ha he rfl).mono ?_
      rintro e V5 ⟨rfl, h⟩
      have HT := Lib.hid h; clear h HS d4 dk
      go_wp2_with fail
      refine (lane_a HT.out 2 rfl).mono ?_
      rintro e V6 ⟨rfl, rfl⟩
      rw [h4]
      go_wp2_with fail
      refine (try_a HT.out 2 rfl).mono ?_
      rintro e V7 ⟨rfl, h⟩
      rw [← HKT.out]
      have HB := Lib.hid h.below; clear h HT he ha hab h4
      go_wp2
      go_ret
      exact ⟨by simp, HB.out⟩
    · have hc3 : c.ln ≤ 3 := by omega
      have d4 : ((c.ln : Int) != 4) = true := by simp; omega
      have hlim := Ct.lim_ne hg hc1 hc3
      have htl := Ct.try_lt hg hc1 hc3
      rw [HS.out.2.1, HS.out.2.2.1, HS.out.2.2.2, ← HKT.out] at htl
      have hle : c.f = f' ∧ c.s = s' ∧ c.o = o' := HS.out.2
      have HK := Lib.hid (fun n (hn : okCode n = true) => Ct.step_facts (c := c) hc1 hc3 hn)
      have HHL := Lib.hid (Ct.hard_lt (c := c) hc1)
      -- behind the code
      by_cases hlt : k < xs.length
      · obtain ⟨x, hxk⟩ : ∃ x, xs[k]? = some x := ⟨xs[k], List.getElem?_eq_getElem hlt⟩
        obtain ⟨q, p, rfl, hq, hr⟩ := HX.out.row hxk
        have r0 := row_later hr hq HS.out.1.below 0 _ rfl
        rw [Nat.add_zero, Nat.mul_one] at r0
        clear hr hxk hg h4
        go_wp2_with fail
        refine (code_any x _).mono ?_
        rintro e V5 ⟨kd, rfl, hkd, hb⟩
        have HT := Lib.hid (HS.out.idle hb); clear hb HS r0 hq
        have HKD := Lib.hid hkd; clear hkd
        have y0 := (HT.out.1.hold (i := 1) rfl).cell (i := 0) rfl
        have y1 := (HT.out.1.hold (i := 1) rfl).cell (i := 1) rfl
        have y2 := (HT.out.1.hold (i := 1) rfl).cell (i := 2) rfl
        go_wp2_with fail
        obtain ⟨rfl, rfl, rfl⟩ := hle
        refine (budget_any c c.ln (by omega) _).mono ?_
        rintro e V6 ⟨rfl, hb⟩
        have HU := Lib.hid (HT.out.idle hb); clear hb HT y0 y1 y2
        go_wp2_with fail
        refine (lane_a HU.out.1 2 rfl).mono ?_
        rintro e V7 ⟨rfl, rfl⟩
        go_wp2_with fail
        refine (hard_a HU.out.1 2 rfl).mono ?_
        rintro e V7 ⟨rfl, rfl⟩
        rw [HHL.out]
        clear HHL hlim d4 dk
        obtain ⟨q1, q2, q3, q4⟩ := HK.out kd HKD.out
        clear HK
        go_wp2_with fail
        refine (abort_a HU.out.1 2 rfl kd rfl q2 q1 rfl).mono ?_
        rintro e V8 ⟨rfl, h⟩
        have hs : LW w V8 bx bb a f s o c.f c.s c.o (c.abort kd) := ⟨h, (c.abort_lim kd).1, (c.abort_lim kd).2.1, (c.abort_lim kd).2.2⟩
        clear h HU; have HU := Lib.hid hs; clear hs
        have gg := (HU.out.1.ct (i := 2) rfl).2
        have gl := gg.ln
        have ga := gg.a11
        have gb := gg.a21
        have gc := gg.a31
        have la := gg.a10
        have lb := gg.a20
        rw [HU.out.2.1] at ga
        rw [HU.out.2.2.1] at gb
        rw [HU.out.2.2.2] at gc
        rw [← HKT.out] at q4
        generalize c.abort kd = c' at *
        have e1 : decide ((c'.ln : Int) < (c.ln : Int)) = false := by simp; omega
        have e2 : decide (4 < (c'.ln : Int)) = false := by simp; omega
        have e3 : decide (c.f + c.s + c.o < (k : Int) + 1) = false := by simp; omega
        clear gg q1 q2
        have Q3 := Lib.hid q3; clear q3
        have Q4 := Lib.hid q4; clear q4
        go_wp2_with fail
        refine (try_a HU.out.1 2 rfl).mono ?_
        rintro e V9 ⟨rfl, h⟩
        rw [Q4.out]
        have hs : LW w V9 bx bb a f s o c.f c.s c.o c' := ⟨h, HU.out.2⟩
        clear h HU; have HU := Lib.hid hs; clear hs
        go_wp2_with fail
        refine (counts_a HU.out.1 2 rfl).mono ?_
        rintro e V10 ⟨rfl, h⟩
        have HL2 := Lib.hid HU.out.2
        have HP : Hid (LV w (V10.alloc (.cells #[.int .i64 0, .int .i64 c'.a1, .int .i64 c'.a2, .int .i64 c'.a3, .int .i64 0] 42)) bx bb a V10.heap.size f s o c.f c.s c.o c' 0 c'.a1 c'.a2 c'.a3 0) := Lib.hid (h.box 42 [.int .i64 0, .int .i64 c'.a1, .int .i64 c'.a2, .int .i64 c'.a3, .int .i64 0])
        clear h HU e1 e2 e3
        have g1 : decide (c.f < c'.a1) = false := by simp; omega
        have g2 : decide (c.s < c'.a2) = false := by simp; omega
        have g3 : decide (c.o < c'.a3) = false := by simp; omega
        go_wp2
        generalize V10.alloc (.cells #[.int .i64 0, .int .i64 c'.a1, .int .i64 c'.a2, .int .i64 c'.a3, .int .i64 0] 42) = W0 at *
        generalize V10.heap.size = nb at *
        refine wp_loop_rounds 4 ?_
        rw [rounds_succ]
        go_wp2
        have hP : LV w (World.drew _) bx bb a nb f s o c.f c.s c.o c' 0 c'.a1 c'.a2 c'.a3 0 := Aparts.idle HP.out (below_drew1 (Below.refl _ _))
        have HKK : Hid (∀ V, LV w V bx bb a nb f s o c.f c.s c.o c' 0 c'.a1 c'.a2 c'.a3 0 → V.cell? ⟨nb, 1, none⟩ = some (.int .i64 c'.a1) ∧ V.cell? ⟨bb, 0, none⟩ = some (.int .i64 c.f) ∧ V.cell? ⟨bb, 1, none⟩ = some (.int .i64 c.s) ∧ V.cell? ⟨bb, 2, none⟩ = some (.int .i64 c.o)) := Lib.hid (fun V h => h.cell1)
        clear HP
        go_region_held3 (fun V => V.cell? ⟨nb, 1, none⟩ = some (.int .i64 c'.a1) ∧ V.cell? ⟨bb, 0, none⟩ = some (.int .i64 c.f) ∧ V.cell? ⟨bb, 1, none⟩ = some (.int .i64 c.s) ∧ V.cell? ⟨bb, 2, none⟩ = some (.int .i64 c.o)) (first | with_reducible exact HKK.out _ hP) (first | (go_at_call 24; (with_reducible refine (lv_bud1 hP).mono ?_); rintro e V ⟨rfl, hP⟩))
        all_goals
          have HP := Lib.hid hP; clear hP HKK
          go_wp2
          rw [rounds_succ]
          go_wp2
          have hP : LV w (World.drew _) bx bb a nb f s o c.f c.s c.o c' 0 c'.a1 c'.a2 c'.a3 0 := Aparts.idle HP.out (below_drew1 (Below.refl _ _))
          have HKK : Hid (∀ V, LV w V bx bb a nb f s o c.f c.s c.o c' 0 c'.a1 c'.a2 c'.a3 0 → V.cell? ⟨nb, 2, none⟩ = some (.int .i64 c'.a2) ∧ V.cell? ⟨bb, 0, none⟩ = some (.int .i64 c.f) ∧ V.cell? ⟨bb, 1, none⟩ = some (.int .i64 c.s) ∧ V.cell? ⟨bb, 2, none⟩ = some (.int .i64 c.o)) := Lib.hid (fun V h => h.cell2)
          clear HP
          go_region_held3 (fun V => V.cell? ⟨nb, 2, none⟩ = some (.int .i64 c'.a2) ∧ V.cell? ⟨bb, 0, none⟩ = some (.int .i64 c.f) ∧ V.cell? ⟨bb, 1, none⟩ = some (.int .i64 c.s) ∧ V.cell? ⟨bb, 2, none⟩ = some (.int .i64 c.o)) (first | with_reducible exact HKK.out _ hP) (first | (go_at_call 24; (with_reducible refine (lv_bud2 hP).mono ?_); rintro e V ⟨rfl, hP⟩))
          all_goals
            have HP := Lib.hid hP; clear hP HKK
            go_wp2
            rw [rounds_succ]
            go_wp2
            have hP : LV w (World.drew _) bx bb a nb f s o c.f c.s c.o c' 0 c'.a1 c'.a2 c'.a3 0 := Aparts.idle HP.out (below_drew1 (Below.refl _ _))
            have HKK : Hid (∀ V, LV w V bx bb a nb f s o c.f c.s c.o c' 0 c'.a1 c'.a2 c'.a3 0 → V.cell? ⟨nb, 3, none⟩ = some (.int .i64 c'.a3) ∧ V.cell? ⟨bb, 0, none⟩ = some (.int .i64 c.f) ∧ V.cell? ⟨bb, 1, none⟩ = some (.int .i64 c.s) ∧ V.cell? ⟨bb, 2, none⟩ = some (.int .i64 c.o)) := Lib.hid (fun V h => h.cell3)
            clear HP
            go_region_held3 (fun V => V.cell? ⟨nb, 3, none⟩ = some (.int .i64 c'.a3) ∧ V.cell? ⟨bb, 0, none⟩ = some (.int .i64 c.f) ∧ V.cell? ⟨bb, 1, none⟩ = some (.int .i64 c.s) ∧ V.cell? ⟨bb, 2, none⟩ = some (.int .i64 c.o)) (first | with_reducible exact HKK.out _ hP) (first | (go_at_call 24; (with_reducible refine (lv_bud3 hP).mono ?_); rintro e V ⟨rfl, hP⟩))
            all_goals
              have HP := Lib.hid hP; clear hP HKK
              go_wp2
              have n0 := (HP.out.hold (i := 3) rfl).cell (i := 0) rfl
              have n1 := (HP.out.hold (i := 3) rfl).cell (i := 1) rfl
              have n2 := (HP.out.hold (i := 3) rfl).cell (i := 2) rfl
              have n3 := (HP.out.hold (i := 3) rfl).cell (i := 3) rfl
              have n4 := (HP.out.hold (i := 3) rfl).cell (i := 4) rfl
              have g4 : decide (c.f + c.s < c'.a1 + c'.a2) = false := by simp; omega
              rw [rounds_succ]
              go_wp2
              have hi := Aparts.init (l := [holdP bx 23 [.int .i64 f, .int .i64 s, .int .i64 o], holdP bb 23 [.int .i64 c.f, .int .i64 c.s, .int .i64 c.o], ctP a c']) HP.out
              go_roundw
              case rel => exact ⟨k + 1, c', by omega, by have := Q3.out; omega, by rw [Q4.out]; simp, rfl, by go_num, by go_num, hi, HL2.out⟩
              case measure => simp [intOf]; omega
      · have HKD : Hid (okCode 1 = true) := Lib.hid rfl
        have HT := HS; clear HS hg h4
        have y0 := (HT.out.1.hold (i := 1) rfl).cell (i := 0) rfl
        have y1 := (HT.out.1.hold (i := 1) rfl).cell (i := 1) rfl
        have y2 := (HT.out.1.hold (i := 1) rfl).cell (i := 2) rfl
        go_wp2_with fail
        obtain ⟨rfl, rfl, rfl⟩ := hle
        refine (budget_any c c.ln (by omega) _).mono ?_
        rintro e V6 ⟨rfl, hb⟩
        have HU := Lib.hid (HT.out.idle hb); clear hb HT y0 y1 y2
        go_wp2_with fail
        refine (lane_a HU.out.1 2 rfl).mono ?_
        rintro e V7 ⟨rfl, rfl⟩
        go_wp2_with fail
        refine (hard_a HU.out.1 2 rfl).mono ?_
        rintro e V7 ⟨rfl, rfl⟩
        rw [HHL.out]
        clear HHL hlim d4 dk
        obtain ⟨q1, q2, q3, q4⟩ := HK.out 1 HKD.out
        clear HK
        go_wp2_with fail
        refine (abort_a HU.out.1 2 rfl 1 rfl q2 q1 rfl).mono ?_
        rintro e V8 ⟨rfl, h⟩
        have hs : LW w V8 bx bb a f s o c.f c.s c.o (c.abort 1) := ⟨h, (c.abort_lim 1).1, (c.abort_lim 1).2.1, (c.abort_lim 1).2.2⟩
        clear h HU; have HU := Lib.hid hs; clear hs
        have gg := (HU.out.1.ct (i := 2) rfl).2
        have gl := gg.ln
        have ga := gg.a11
        have gb := gg.a21
        have gc := gg.a31
        have la := gg.a10
        have lb := gg.a20
        rw [HU.out.2.1] at ga
        rw [HU.out.2.2.1] at gb
        rw [HU.out.2.2.2] at gc
        rw [← HKT.out] at q4
        generalize c.abort 1 = c' at *
        have e1 : decide ((c'.ln : Int) < (c.ln : Int)) = false := by simp; omega
        have e2 : decide (4 < (c'.ln : Int)) = false := by simp; omega
        have e3 : decide (c.f + c.s + c.o < (k : Int) + 1) = false := by simp; omega
        clear gg q1 q2
        have Q3 := Lib.hid q3; clear q3
        have Q4 := Lib.hid q4; clear q4
        go_wp2_with fail
        refine (try_a HU.out.1 2 rfl).mono ?_
        rintro e V9 ⟨rfl, h⟩
        rw [Q4.out]
        have hs : LW w V9 bx bb a f s o c.f c.s c.o c' := ⟨h, HU.out.2⟩
        clear h HU; have HU := Lib.hid hs; clear hs
        go_wp2_with fail
        refine (counts_a HU.out.1 2 rfl).mono ?_
        rintro e V10 ⟨rfl, h⟩
        have HL2 := Lib.hid HU.out.2
        have HP : Hid (LV w (V10.alloc (.cells #[.int .i64 0, .int .i64 c'.a1, .int .i64 c'.a2, .int .i64 c'.a3, .int .i64 0] 42)) bx bb a V10.heap.size f s o c.f c.s c.o c' 0 c'.a1 c'.a2 c'.a3 0) := Lib.hid (h.box 42 [.int .i64 0, .int .i64 c'.a1, .int .i64 c'.a2, .int .i64 c'.a3, .int .i64 0])
        clear h HU e1 e2 e3
        have g1 : decide (c.f < c'.a1) = false := by simp; omega
        have g2 : decide (c.s < c'.a2) = false := by simp; omega
        have g3 : decide (c.o < c'.a3) = false := by simp; omega
        go_wp2
        generalize V10.alloc (.cells #[.int .i64 0, .int .i64 c'.a1, .int .i64 c'.a2, .int .i64 c'.a3, .int .i64 0] 42) = W0 at *
        generalize V10.heap.size = nb at *
        refine wp_loop_rounds 4 ?_
        rw [rounds_succ]
        go_wp2
        have hP : LV w (World.drew _) bx bb a nb f s o c.f c.s c.o c' 0 c'.a1 c'.a2 c'.a3 0 := Aparts.idle HP.out (below_drew1 (Below.refl _ _))
        have HKK : Hid (∀ V, LV w V bx bb a nb f s o c.f c.s c.o c' 0 c'.a1 c'.a2 c'.a3 0 → V.cell? ⟨nb, 1, none⟩ = some (.int .i64 c'.a1) ∧ V.cell? ⟨bb, 0, none⟩ = some (.int .i64 c.f) ∧ V.cell? ⟨bb, 1, none⟩ = some (.int .i64 c.s) ∧ V.cell? ⟨bb, 2, none⟩ = some (.int .i64 c.o)) := Lib.hid (fun V h => h.cell1)
        clear HP
        go_region_held3 (fun V => V.cell? ⟨nb, 1, none⟩ = some (.int .i64 c'.a1) ∧ V.cell? ⟨bb, 0, none⟩ = some (.int .i64 c.f) ∧ V.cell? ⟨bb, 1, none⟩ = some (.int .i64 c.s) ∧ V.cell? ⟨bb, 2, none⟩ = some (.int .i64 c.o)) (first | with_reducible exact HKK.out _ hP) (first | (go_at_call 24; (with_reducible refine (lv_bud1 hP).mono ?_); rintro e V ⟨rfl, hP⟩))
        all_goals
          have HP := Lib.hid hP; clear hP HKK
          go_wp2
          rw [rounds_succ]
          go_wp2
          have hP : LV w (World.drew _) bx bb a nb f s o c.f c.s c.o c' 0 c'.a1 c'.a2 c'.a3 0 := Aparts.idle HP.out (below_drew1 (Below.refl _ _))
          have HKK : Hid (∀ V, LV w V bx bb a nb f s o c.f c.s c.o c' 0 c'.a1 c'.a2 c'.a3 0 → V.cell? ⟨nb, 2, none⟩ = some (.int .i64 c'.a2) ∧ V.cell? ⟨bb, 0, none⟩ = some (.int .i64 c.f) ∧ V.cell? ⟨bb, 1, none⟩ = some (.int .i64 c.s) ∧ V.cell? ⟨bb, 2, none⟩ = some (.int .i64 c.o)) := Lib.hid (fun V h => h.cell2)
          clear HP
          go_region_held3 (fun V => V.cell? ⟨nb, 2, none⟩ = some (.int .i64 c'.a2) ∧ V.cell? ⟨bb, 0, none⟩ = some (.int .i64 c.f) ∧ V.cell? ⟨bb, 1, none⟩ = some (.int .i64 c.s) ∧ V.cell? ⟨bb, 2, none⟩ = some (.int .i64 c.o)) (first | with_reducible exact HKK.out _ hP) (first | (go_at_call 24; (with_reducible refine (lv_bud2 hP).mono ?_); rintro e V ⟨rfl, hP⟩))
          all_goals
            have HP := Lib.hid hP; clear hP HKK
            go_wp2
            rw [rounds_succ]
            go_wp2
            have hP : LV w (World.drew _) bx bb a nb f s o c.f c.s c.o c' 0 c'.a1 c'.a2 c'.a3 0 := Aparts.idle HP.out (below_drew1 (Below.refl _ _))
            have HKK : Hid (∀ V, LV w V bx bb a nb f s o c.f c.s c.o c' 0 c'.a1 c'.a2 c'.a3 0 → V.cell? ⟨nb, 3, none⟩ = some (.int .i64 c'.a3) ∧ V.cell? ⟨bb, 0, none⟩ = some (.int .i64 c.f) ∧ V.cell? ⟨bb, 1, none⟩ = some (.int .i64 c.s) ∧ V.cell? ⟨bb, 2, none⟩ = some (.int .i64 c.o)) := Lib.hid (fun V h => h.cell3)
            clear HP
            go_region_held3 (fun V => V.cell? ⟨nb, 3, none⟩ = some (.int .i64 c'.a3) ∧ V.cell? ⟨bb, 0, none⟩ = some (.int .i64 c.f) ∧ V.cell? ⟨bb, 1, none⟩ = some (.int .i64 c.s) ∧ V.cell? ⟨bb, 2, none⟩ = some (.int .i64 c.o)) (first | with_reducible exact HKK.out _ hP) (first | (go_at_call 24; (with_reducible refine (lv_bud3 hP).mono ?_); rintro e V ⟨rfl, hP⟩))
            all_goals
              have HP := Lib.hid hP; clear hP HKK
              go_wp2
              have n0 := (HP.out.hold (i := 3) rfl).cell (i := 0) rfl
              have n1 := (HP.out.hold (i := 3) rfl).cell (i := 1) rfl
              have n2 := (HP.out.hold (i := 3) rfl).cell (i := 2) rfl
              have n3 := (HP.out.hold (i := 3) rfl).cell (i := 3) rfl
              have n4 := (HP.out.hold (i := 3) rfl).cell (i := 4) rfl
              have g4 : decide (c.f + c.s < c'.a1 + c'.a2) = false := by simp; omega
              rw [rounds_succ]
              go_wp2
              have hi := Aparts.init (l := [holdP bx 23 [.int .i64 f, .int .i64 s, .int .i64 o], holdP bb 23 [.int .i64 c.f, .int .i64 c.s, .int .i64 c.o], ctP a c']) HP.out
              go_roundw
              case rel => exact ⟨k + 1, c', by omega, by have := Q3.out; omega, by rw [Q4.out]; simp, rfl, by go_num, by go_num, hi, HL2.out⟩
              case measure => simp [intOf]; omega

theorem lends_any (f s o : Int) (a0 : Option Addr) (l0 c0 : Nat) (w : World) (hx : Came w a0 l0 intKinds) :
    Calls Try.prog 5 #[bud f s o, .slice a0 l0 c0] w fun e w' => e = .returned (.bool true) ∧ Below w.heap.size w w' := by
  by_cases hl : 1000 < l0
  · exact lends_long f s o a0 l0 c0 w hl
  · obtain ⟨xs, rfl, h1⟩ := ints_in hx
    exact lends_ok f s o a0 xs c0 w h1 (by omega)

end Go.Proofs.Ytncepiaacadcpaa
