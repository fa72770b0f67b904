/- RegsLast: the walk. It answers true, and turns nothing that was there. -/
import Derived.Test.YtcammonbhehakaaRegJ
namespace Go.Proofs.Ytcammonbhehakaa
open Go.RowKit Go.BigFrame

/-- A file without a checkpoint. -/
def FN (w0 w : World) (a : Nat) (m : Mo) (G : List (Nat × L8)) : Prop := ∃ f, FSt w0 w a f G ∧ f.pt = none ∧ f.m = m

section
variable {w0 w w' : World} {a : Nat} {m : Mo} {G : List (Nat × L8)}
theorem FN.st (h : FN w0 w a m G) : ∃ f, FSt w0 w a f G := by obtain ⟨f, h1, _⟩ := h; exact ⟨f, h1⟩
theorem FN.idle (h : FN w0 w a m G) (hb : Below w.heap.size w w') : FN w0 w' a m G := by obtain ⟨f, h1, h2⟩ := h; exact ⟨f, h1.idle hb, h2⟩
theorem FN.below (h : FN w0 w a m G) : Below w0.heap.size w0 w := by obtain ⟨f, h1, _⟩ := h; exact h1.below
theorem FN.box (h : FN w0 w a m G) (e : L8) : ∃ W, W = (w.alloc (.cells L8.zero.cells.toArray 27)).setCells w.heap.size 0 e.cells ∧ (w.alloc (.cells L8.zero.cells.toArray 27)).there w.heap.size 0 8 ∧ FN w0 W a m ((w.heap.size, e) :: G) := by
  obtain ⟨f, h1, h2⟩ := h
  obtain ⟨W, k1, k2, k3⟩ := h1.box e
  exact ⟨W, k1, k2, f, k3, h2⟩
theorem FN.drop (h : FN w0 w a m G) (G' : List (Nat × L8)) (hG : ∀ x ∈ G', x ∈ G) : FN w0 w a m G' := by obtain ⟨f, h1, h2⟩ := h; exact ⟨f, h1.drop G' hG, h2⟩
theorem set_p (h : FP w0 w a m G) (i v : Int) : Calls Try.prog 15 #[.pointer (some ⟨a, 0, none⟩), .int .i64 i, .int .u64 v] w fun e w' => e = .returned (.int .i64 (errR i)) ∧ FP w0 w' a m G := by
  obtain ⟨f, h1, h2⟩ := h
  refine (set_st h1 i v).mono ?_
  rintro e w' ⟨rfl, h3⟩
  exact ⟨rfl, _, h3, by rw [(sets_m f i v).2.2]; exact h2⟩
theorem jump_p (h : FP w0 w a m G) (k : Int) : Calls Try.prog 17 #[.pointer (some ⟨a, 0, none⟩), .int .i64 k] w fun e w' => e = .returned (.int .i64 (errJ k)) ∧ FP w0 w' a m G := by
  obtain ⟨f, h1, h2⟩ := h
  refine (jump_st h1 k).mono ?_
  rintro e w' ⟨rfl, h3⟩
  exact ⟨rfl, _, h3, by unfold Fl.jump; split <;> exact h2⟩
theorem drop_q (h : FQ w0 w a m G) : Calls Try.prog 13 #[.pointer (some ⟨a, 0, none⟩)] w fun e w' => e = .returned (.int .i64 0) ∧ FN w0 w' a m G := by
  obtain ⟨f, h1, h2, h3⟩ := h
  refine (drop_st h1).mono ?_
  rintro e w' ⟨rfl, h4⟩
  exact ⟨by simp [Fl.errP, h2], _, h4, rfl, h3⟩
theorem drop_n (h : FN w0 w a m G) : Calls Try.prog 13 #[.pointer (some ⟨a, 0, none⟩)] w fun e w' => e = .returned (.int .i64 60) ∧ FN w0 w' a m G := by
  obtain ⟨f, h1, h2, h3⟩ := h
  refine (drop_st h1).mono ?_
  rintro e w' ⟨rfl, h4⟩
  exact ⟨by simp [Fl.errP, h2], _, h4, rfl, h3⟩
theorem restore_n (h : FN w0 w a m G) : Calls Try.prog 12 #[.pointer (some ⟨a, 0, none⟩)] w fun e w' => e = .returned (.int .i64 60) ∧ FN w0 w' a m G := by
  obtain ⟨f, h1, h2, h3⟩ := h
  refine (restore_st h1).mono ?_
  rintro e w' ⟨rfl, h4⟩
  exact ⟨by simp [Fl.errP, h2], _, h4, by simp [Fl.restore, h2], by simp [Fl.restore, h2, h3]⟩
theorem all_n (h : FN w0 w a m G) : Calls Try.prog 19 #[.pointer (some ⟨a, 0, none⟩)] w fun e w' => e = .returned (.agg #[.int .u64 m.r.x0, .int .u64 m.r.x1, .int .u64 m.r.x2, .int .u64 m.r.x3, .int .u64 m.r.x4, .int .u64 m.r.x5, .int .u64 m.r.x6, .int .u64 m.r.x7]) ∧ FN w0 w' a m G := by
  obtain ⟨f, h1, h2, h3⟩ := h
  refine (all_st h1).mono ?_
  rintro e w' ⟨rfl, h4⟩
  exact ⟨by rw [h3]; rfl, f, h4, h2, h3⟩
theorem pc_n (h : FN w0 w a m G) : Calls Try.prog 20 #[.pointer (some ⟨a, 0, none⟩)] w fun e w' => e = .returned (.int .i64 m.pc) ∧ w = w' := by
  obtain ⟨f, h1, h2, h3⟩ := h
  rw [← h3]
  exact pc_st h1
theorem point_n (h : FN w0 w a m G) : Calls Try.prog 14 #[.pointer (some ⟨a, 0, none⟩)] w fun e w' => e = .returned (.tuple #[.agg L8.zero.cells.toArray, .int .i64 0, .bool false]) ∧ FN w0 w' a m G := by
  obtain ⟨f, h1, h2, h3⟩ := h
  refine (point_st h1).mono ?_
  rintro e w' ⟨rfl, h4⟩
  exact ⟨by simp [Fl.point, h2, Mo.zero], f, h4, h2, h3⟩
end

set_option maxRecDepth 100000 in
set_option maxHeartbeats 1000000 in
theorem rlast_long (a0 a1 : Option Addr) (l0 l1 c0 c1 : Nat) (w : World) (hl : 1000 < l0 ∨ 1000 < l1) :
    Calls Try.prog 8 #[.slice a0 l0 c0, .slice a1 l1 c1] w fun e w' => e = .returned (.bool true) ∧ Below w.heap.size w w' := by
  have HL : Hid (1000 < l0 ∨ 1000 < l1) := Lib.hid hl
  clear hl
  go_enter Try.func8, Try.ntmps8
  go_wp2_with fail
  refine (alive_ok _).mono ?_
  rintro e w1 ⟨rfl, hb⟩
  have Hb := Lib.hid hb; clear hb
  by_cases h0 : 1000 < l0
  · have d0 : decide ((1000 : Int) < (l0 : Int)) = true := by simp; omega
    go_wp2
    go_ret
    exact ⟨rfl, Hb.out⟩
  · have h1 : 1000 < l1 := HL.out.resolve_left h0
    have d0 : decide ((1000 : Int) < (l0 : Int)) = false := by simp; omega
    have d1 : decide ((1000 : Int) < (l1 : Int)) = true := by simp; omega
    go_wp2
    go_ret
    exact ⟨rfl, Hb.out⟩

set_option maxRecDepth 100000 in
set_option maxHeartbeats 4000000 in
theorem rlast_ok (a0 a1 : Option Addr) (xs ys : List OpV) (c0 c1 : Nat) (w : World) (hx : RowsIn w a0 3 OpV.cells xs) (hy : RowsIn w a1 3 OpV.cells ys) (hl0 : xs.length ≤ 1000) (hl1 : ys.length ≤ 1000) :
    Calls Try.prog 8 #[.slice a0 xs.length c0, .slice a1 ys.length c1] w fun e w' => e = .returned (.bool true) ∧ Below w.heap.size w w' := by
  have HX := Lib.hid hx; clear hx
  have HY := Lib.hid hy; clear hy
  have HL0 := Lib.hid hl0
  have HL1 := Lib.hid hl1
  have d0 : decide ((1000 : Int) < (xs.length : Int)) = false := by simp; omega
  have d1 : decide ((1000 : Int) < (ys.length : Int)) = false := by simp; omega
  clear hl0 hl1
  go_enter Try.func8, Try.ntmps8
  go_wp2_with fail
  refine (alive_ok _).mono ?_
  rintro e w1 ⟨rfl, hb⟩
  have Hb := Lib.hid hb; clear hb
  go_wp2_with fail
  refine (new_st Hb.out).mono ?_
  rintro e w2 ⟨a, rfl, h⟩
  have H := Lib.hid h; clear h d0 d1
  go_wp2_with fail
  refine (play_ok H.out a0 c0 xs true HX.out HL0.out).mono ?_
  rintro e w3 ⟨rfl, h⟩
  generalize playL true Fl.zero xs = f0 at *
  clear H HX HL0; have H := Lib.hid h; clear h
  go_wp2_with fail
  refine (save_st H.out).mono ?_
  rintro e w3 ⟨rfl, h⟩
  clear H; have H := Lib.hid h; clear h
  go_wp2_with fail
  refine (play_ok H.out a1 c1 ys true HY.out HL1.out).mono ?_
  rintro e w3 ⟨rfl, h⟩
  generalize playL true f0.save ys = f at *
  clear H HY HL1; have H := Lib.hid h; clear h
  go_wp2_with fail
  refine (all_st H.out).mono ?_
  rintro e w4 ⟨rfl, h⟩
  clear H; have H := Lib.hid h; clear h
  go_wp2_with fail
  refine (pc_st H.out).mono ?_
  rintro e w' ⟨rfl, rfl⟩
  obtain ⟨W, eW, hT, h⟩ := H.out.box f.m.r
  have HE := Lib.hid eW; clear eW
  have HT := Lib.hid hT; clear hT
  clear H; have H := Lib.hid h; clear h
  go_wp2_with (refine wpList_store_mid rfl 27 (.tmp 7) (.tmp 38) rfl w4.heap.size 0 f.m.r.cells.toArray rfl rfl ?_ Try.sizeRegs (oneL8 _) ?_; exact HT.out; change wpList _ _ _ _ _ ((w4.alloc (.cells L8.zero.cells.toArray 27)).setCells w4.heap.size 0 f.m.r.cells); rw [← HE.out])
  refine (save_st H.out).mono ?_
  rintro e w5 ⟨rfl, h⟩
  have hP : FP w w5 a f.m [(w4.heap.size, f.m.r)] := ⟨_, h, rfl⟩
  have c3 := (h.rows _ (List.mem_cons_self ..)).cell (i := 3) rfl
  have HP := Lib.hid hP; clear hP
  clear H h HE HT
  generalize f.m = m at *
  generalize w4.heap.size = b7 at *
  have HKP : Hid (∀ V, (∃ f, FSt w V a f [(b7, m.r)]) → V.cell? ⟨b7, 0, none⟩ = some (.int .u64 m.r.x0) ∧ V.cell? ⟨b7, 1, none⟩ = some (.int .u64 m.r.x1) ∧ V.cell? ⟨b7, 2, none⟩ = some (.int .u64 m.r.x2) ∧ V.cell? ⟨b7, 3, none⟩ = some (.int .u64 m.r.x3) ∧ V.cell? ⟨b7, 4, none⟩ = some (.int .u64 m.r.x4) ∧ V.cell? ⟨b7, 5, none⟩ = some (.int .u64 m.r.x5) ∧ V.cell? ⟨b7, 6, none⟩ = some (.int .u64 m.r.x6) ∧ V.cell? ⟨b7, 7, none⟩ = some (.int .u64 m.r.x7)) := Lib.hid (fun V ⟨f, h⟩ => box_cells h (by simp))
  go_wp2_with fail
  refine (set_p HP.out 3 _).mono ?_
  rintro e w6 ⟨rfl, h⟩
  clear c3 HP; have HP := Lib.hid h; clear h
  go_wp2_with fail
  refine (jump_p HP.out _).mono ?_
  rintro e w7 ⟨rfl, h⟩
  clear HP; have HP := Lib.hid h; clear h
  go_wp2_with fail
  refine (restore_p HP.out).mono ?_
  rintro e w8 ⟨rfl, h⟩
  clear HP
  have HQ := Lib.hid (h.idle (below_drew1 (Below.refl _ w8)))
  have HS := Lib.hid HQ.out.p.st
  clear h
  go_wp2
  go_region_held3 (fun V => V.cell? ⟨b7, 0, none⟩ = some (.int .u64 m.r.x0) ∧ V.cell? ⟨b7, 1, none⟩ = some (.int .u64 m.r.x1) ∧ V.cell? ⟨b7, 2, none⟩ = some (.int .u64 m.r.x2) ∧ V.cell? ⟨b7, 3, none⟩ = some (.int .u64 m.r.x3) ∧ V.cell? ⟨b7, 4, none⟩ = some (.int .u64 m.r.x4) ∧ V.cell? ⟨b7, 5, none⟩ = some (.int .u64 m.r.x5) ∧ V.cell? ⟨b7, 6, none⟩ = some (.int .u64 m.r.x6) ∧ V.cell? ⟨b7, 7, none⟩ = some (.int .u64 m.r.x7)) (first | with_reducible exact HKP.out _ HS.out | with_reducible exact HKP.out _ hRs | with_reducible exact HKP.out _ hNs) (first | (go_at_call 19; (with_reducible refine (all_q HQ.out).mono ?_); rintro e V ⟨rfl, hR⟩; have hRs := hR.p.st) | (go_at_call 20; (with_reducible refine (pc_q hR).mono ?_); rintro e V ⟨rfl, rfl⟩) | (go_at_call 13; (with_reducible refine (drop_q hR).mono ?_); rintro e V ⟨rfl, hN⟩; have hNs := hN.st))
  all_goals
    have HN := Lib.hid hN
    clear hN hNs hR hRs HQ HS
    go_wp2_with fail
    refine (point_n HN.out).mono ?_
    rintro e w9 ⟨rfl, h⟩
    obtain ⟨W2, eW, hT, h⟩ := h.box L8.zero
    have HE := Lib.hid eW; clear eW
    have HT := Lib.hid hT; clear hT
    have HN := Lib.hid (h.drop [(b7, m.r)] (by simp)); clear h
    go_wp2_with (refine wpList_store_mid rfl 27 (.tmp 11) (.tmp 80) rfl w9.heap.size 0 L8.zero.cells.toArray rfl rfl ?_ Try.sizeRegs (oneL8 _) ?_; exact HT.out; change wpList _ _ _ _ _ ((w9.alloc (.cells L8.zero.cells.toArray 27)).setCells w9.heap.size 0 L8.zero.cells); rw [← HE.out])
    have HD := Lib.hid (HN.out.idle (below_drew1 (Below.refl _ W2)))
    have HDs := Lib.hid HD.out.st
    clear HE HT
    have hz : True := trivial
    go_region_held3 (fun V => V.cell? ⟨b7, 0, none⟩ = some (.int .u64 m.r.x0) ∧ V.cell? ⟨b7, 1, none⟩ = some (.int .u64 m.r.x1) ∧ V.cell? ⟨b7, 2, none⟩ = some (.int .u64 m.r.x2) ∧ V.cell? ⟨b7, 3, none⟩ = some (.int .u64 m.r.x3) ∧ V.cell? ⟨b7, 4, none⟩ = some (.int .u64 m.r.x4) ∧ V.cell? ⟨b7, 5, none⟩ = some (.int .u64 m.r.x5) ∧ V.cell? ⟨b7, 6, none⟩ = some (.int .u64 m.r.x6) ∧ V.cell? ⟨b7, 7, none⟩ = some (.int .u64 m.r.x7)) (first | with_reducible exact HKP.out _ HDs.out | with_reducible exact HKP.out _ hRs | with_reducible exact HKP.out _ hNs | with_reducible exact HKP.out _ hAs) (first | (go_at_call 12; (with_reducible refine (restore_n HD.out).mono ?_); rintro e V ⟨rfl, hR⟩; have hRs := hR.st) | (go_at_call 13; (with_reducible refine (drop_n hR).mono ?_); rintro e V ⟨rfl, hN⟩; have hNs := hN.st) | (go_at_call 19; (with_reducible refine (all_n hN).mono ?_); rintro e V ⟨rfl, hA⟩; have hAs := hA.st) | (go_at_call 20; (with_reducible refine (pc_n hA).mono ?_); rintro e V ⟨rfl, rfl⟩))
    all_goals
      have HB := Lib.hid hA.below
      clear hA hAs hN hNs hR hRs HD HDs HKP HN
      go_wp2
      go_ret
      exact ⟨rfl, HB.out⟩

theorem rlast_any (a0 a1 : Option Addr) (l0 l1 c0 c1 : Nat) (w : World) (hx : Came w a0 l0 opKinds) (hy : Came w a1 l1 opKinds) :
    Calls Try.prog 8 #[.slice a0 l0 c0, .slice a1 l1 c1] w fun e w' => e = .returned (.bool true) ∧ Below w.heap.size w w' := by
  by_cases hl : 1000 < l0 ∨ 1000 < l1
  · exact rlast_long a0 a1 l0 l1 c0 c1 w hl
  · obtain ⟨xs, rfl, h1⟩ := ops_in hx
    obtain ⟨ys, rfl, h2⟩ := ops_in hy
    exact rlast_ok a0 a1 xs ys c0 c1 w h1 h2 (by omega) (by omega)

end Go.Proofs.Ytcammonbhehakaa
