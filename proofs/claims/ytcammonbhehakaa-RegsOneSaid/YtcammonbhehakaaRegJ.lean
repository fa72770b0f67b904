/- RegsOne: the walk. It answers true, and turns nothing that was there. -/
import Derived.Test.YtcammonbhehakaaRegI
namespace Go.Proofs.Ytcammonbhehakaa
open Go.RowKit Go.BigFrame

section
variable {w0 w w' : World} {a : Nat} {f : Fl} {G : List (Nat × L8)}
theorem all_x (h : FSt w0 w a f G) : Calls Try.prog 19 #[.pointer (some ⟨a, 0, none⟩)] w fun e w' => e = .returned (.agg #[.int .u64 f.m.r.x0, .int .u64 f.m.r.x1, .int .u64 f.m.r.x2, .int .u64 f.m.r.x3, .int .u64 f.m.r.x4, .int .u64 f.m.r.x5, .int .u64 f.m.r.x6, .int .u64 f.m.r.x7]) ∧ FSt w0 w' a f G := all_st h
/-- A word in a box turns. -/
theorem FSt.put {b : Nat} {e : L8} {G : List (Nat × L8)} (h : FSt w0 w a f ((b, e) :: G)) (hb : w0.heap.size ≤ b) (hG : ∀ x ∈ G, x.1 ≠ b) {k : Nat} (hk : k < 8) (v : Int) : FSt w0 (w.setCell ⟨b, k, none⟩ (.int .u64 v)) a f ((b, e.set k v) :: G) := by
  have kb := h.rows _ (List.mem_cons_self ..)
  have hT : Tch (· = b) w (w.setCell ⟨b, k, none⟩ (.int .u64 v)) := Tch.setCell (C := (· = b)) (Tch.refl _ w) (p := ⟨b, k, none⟩) (.inl rfl) _
  obtain ⟨L, hL⟩ := h.file.typed
  refine ⟨h.file.frame hT (hL.ne kb (by decide)) (fun c M hM e => (hM.ne kb (by decide)) e), h.lo, h.below.trans (hT.below h.below.size (fun c e => e ▸ hb)), fun x hx => ?_⟩
  rcases List.mem_cons.1 hx with rfl | hx
  · show Holds _ b _ (e.set k v).cells
    rw [L8.cells_set _ hk]; exact kb.set k _
  · exact hT.holds (hG x hx) (h.rows x (List.mem_cons_of_mem _ hx))
end

set_option maxRecDepth 100000 in
set_option maxHeartbeats 1000000 in
theorem rone_long (a0 : Option Addr) (l0 c0 : Nat) (i v : Int) (w : World) (hl : 1000 < l0) :
    Calls Try.prog 7 #[.slice a0 l0 c0, .int .i64 i, .int .u64 v] w fun e w' => e = .returned (.bool true) ∧ Below w.heap.size w w' := by
  have d0 : decide ((1000 : Int) < (l0 : Int)) = true := by simp; omega
  go_enter Try.func7, Try.ntmps7
  go_wp2_with fail
  refine (alive_ok _).mono ?_
  rintro e w1 ⟨rfl, hb⟩
  have Hb := Lib.hid hb; clear hb
  go_wp2
  go_ret
  exact ⟨rfl, Hb.out⟩

theorem sets_m (f : Fl) (i v : Int) : (f.set i v).m = (if 0 ≤ i ∧ i < 8 then ⟨f.m.r.set i.toNat v, f.m.pc⟩ else f.m) ∧ (f.set i v).point = f.point ∧ (f.set i v).pt = f.pt := by
  unfold Fl.set
  split <;> exact ⟨rfl, rfl, rfl⟩

set_option maxRecDepth 100000 in
set_option maxHeartbeats 4000000 in
theorem rone_ok (a0 : Option Addr) (xs : List OpV) (c0 : Nat) (i v : Int) (w : World) (hx : RowsIn w a0 3 OpV.cells xs) (hl0 : xs.length ≤ 1000) :
    Calls Try.prog 7 #[.slice a0 xs.length c0, .int .i64 i, .int .u64 v] w fun e w' => e = .returned (.bool true) ∧ Below w.heap.size w w' := by
  have HX := Lib.hid hx; clear hx
  have HL0 := Lib.hid hl0
  have d0 : decide ((1000 : Int) < (xs.length : Int)) = false := by simp; omega
  clear hl0
  go_enter Try.func7, Try.ntmps7
  go_wp2_with fail
  refine (alive_ok _).mono ?_
  rintro e w1 ⟨rfl, hb⟩
  have Hb := Lib.hid hb; clear hb
  go_wp2_with fail
  refine (new_st Hb.out).mono ?_
  rintro e w2 ⟨a, rfl, h⟩
  have H := Lib.hid h; clear h d0
  go_wp2_with fail
  refine (play_ok H.out a0 c0 xs true HX.out HL0.out).mono ?_
  rintro e w3 ⟨rfl, h⟩
  generalize playL true Fl.zero xs = f at *
  clear H HX HL0; have H := Lib.hid h; clear h
  go_wp2_with fail
  refine (all_st H.out).mono ?_
  rintro e w4 ⟨rfl, h⟩
  clear H; have H := Lib.hid h; clear h
  go_wp2_with fail
  refine (pc_st H.out).mono ?_
  rintro e w' ⟨rfl, rfl⟩
  obtain ⟨W, eW, hT, h⟩ := H.out.box f.m.r
  have HE := Lib.hid eW; clear eW
  have HT := Lib.hid hT; clear hT
  have Hs4 := Lib.hid H.out.below.size
  clear H; have H := Lib.hid h; clear h
  go_wp2_with (refine wpList_store_mid rfl 27 (.tmp 9) (.tmp 32) rfl w4.heap.size 0 f.m.r.cells.toArray rfl rfl ?_ Try.sizeRegs (oneL8 _) ?_; exact HT.out; change wpList _ _ _ _ _ ((w4.alloc (.cells L8.zero.cells.toArray 27)).setCells w4.heap.size 0 f.m.r.cells); rw [← HE.out])
  refine (point_st H.out).mono ?_
  rintro e w5 ⟨rfl, h⟩
  have Hlt := Lib.hid (h.rows _ (List.mem_cons_self ..)).lt
  obtain ⟨W2, eW, hT, h⟩ := h.box f.point.r
  clear HE HT
  have HE := Lib.hid eW; clear eW
  have HT := Lib.hid hT; clear hT
  clear H; have H := Lib.hid h; clear h
  go_wp2_with (refine wpList_store_mid rfl 27 (.tmp 11) (.tmp 38) rfl w5.heap.size 0 f.point.r.cells.toArray rfl rfl ?_ Try.sizeRegs (oneL8 _) ?_; exact HT.out; change wpList _ _ _ _ _ ((w5.alloc (.cells L8.zero.cells.toArray 27)).setCells w5.heap.size 0 f.point.r.cells); rw [← HE.out])
  refine (set_st H.out i v).mono ?_
  rintro e w6 ⟨rfl, h⟩
  clear H HE HT; have H := Lib.hid h; clear h
  generalize w4.heap.size = b9 at *
  generalize w5.heap.size = b11 at *
  by_cases hi : 0 ≤ i ∧ i < 8
  · obtain ⟨k, rfl⟩ := Int.eq_ofNat_of_zero_le hi.1
    have hk : k < 8 := by omega
    rw [show errR (k : Int) = 0 from by rw [errR, if_pos hi]]
    have kb := H.out.rows (b9, f.m.r) (by simp)
    have c9 := kb.cell (L8.cell_get f.m.r hk)
    have f9 := kb.free k
    have e1 : decide (0 ≤ (k : Int)) = true := by simp
    have e2 : decide ((k : Int) < 8) = true := by simp; omega
    obtain ⟨m1, m2, m3⟩ := sets_m f k v
    rw [if_pos hi, Int.toNat_natCast] at m1
    have h2 : FSt w (w6.setCell ⟨b9, k, none⟩ (.int .u64 v)) a (f.set k v) [(b9, (f.set k v).m.r), (b11, f.point.r)] := by
      have := ((H.out.drop [(b9, f.m.r), (b11, f.point.r)] (fun x hx => by simpa [or_comm] using hx)).put Hs4.out (fun x hx => by simp at hx; subst hx; exact Nat.ne_of_gt Hlt.out) hk v)
      rw [m1]; exact this
    have H2 := Lib.hid h2
    have M1 := Lib.hid (show (f.set k v).m.pc = f.m.pc from by rw [m1])
    have M2 := Lib.hid m2
    have M3 := Lib.hid m3
    clear kb hi m1 m2 m3 h2 H
    generalize f.set k v = g at *
    generalize f.m.r.get k = x9 at *
    go_wp2_with fail
    refine (point_st H2.out).mono ?_
    rintro e w7 ⟨rfl, h⟩
    rw [M2.out, M3.out]
    obtain ⟨W3, eW, hT, h⟩ := h.box f.point.r
    have HE := Lib.hid eW; clear eW
    have HT := Lib.hid hT; clear hT
    clear H2; have H := Lib.hid h; clear h
    go_wp2_with (refine wpList_store_mid rfl 27 (.tmp 15) (.tmp 61) rfl w7.heap.size 0 f.point.r.cells.toArray rfl rfl ?_ Try.sizeRegs (oneL8 _) ?_; exact HT.out; change wpList _ _ _ _ _ ((w7.alloc (.cells L8.zero.cells.toArray 27)).setCells w7.heap.size 0 f.point.r.cells); rw [← HE.out])
    generalize w7.heap.size = b15 at *
    have HP : Hid (∀ V, FSt w V a g [(b15, f.point.r), (b9, g.m.r), (b11, f.point.r)] → Calls Try.prog 20 #[.pointer (some ⟨a, 0, none⟩)] V fun e w' => e = .returned (.int .i64 f.m.pc) ∧ V = w') := Lib.hid (fun V h => by rw [← M1.out]; exact pc_st h)
    have HKP : Hid (∀ V, FSt w V a g [(b15, f.point.r), (b9, g.m.r), (b11, f.point.r)] → V.cell? ⟨b9, 0, none⟩ = some (.int .u64 g.m.r.x0) ∧ V.cell? ⟨b9, 1, none⟩ = some (.int .u64 g.m.r.x1) ∧ V.cell? ⟨b9, 2, none⟩ = some (.int .u64 g.m.r.x2) ∧ V.cell? ⟨b9, 3, none⟩ = some (.int .u64 g.m.r.x3) ∧ V.cell? ⟨b9, 4, none⟩ = some (.int .u64 g.m.r.x4) ∧ V.cell? ⟨b9, 5, none⟩ = some (.int .u64 g.m.r.x5) ∧ V.cell? ⟨b9, 6, none⟩ = some (.int .u64 g.m.r.x6) ∧ V.cell? ⟨b9, 7, none⟩ = some (.int .u64 g.m.r.x7) ∧ V.cell? ⟨b11, 0, none⟩ = some (.int .u64 f.point.r.x0) ∧ V.cell? ⟨b11, 1, none⟩ = some (.int .u64 f.point.r.x1) ∧ V.cell? ⟨b11, 2, none⟩ = some (.int .u64 f.point.r.x2) ∧ V.cell? ⟨b11, 3, none⟩ = some (.int .u64 f.point.r.x3) ∧ V.cell? ⟨b11, 4, none⟩ = some (.int .u64 f.point.r.x4) ∧ V.cell? ⟨b11, 5, none⟩ = some (.int .u64 f.point.r.x5) ∧ V.cell? ⟨b11, 6, none⟩ = some (.int .u64 f.point.r.x6) ∧ V.cell? ⟨b11, 7, none⟩ = some (.int .u64 f.point.r.x7) ∧ V.cell? ⟨b15, 0, none⟩ = some (.int .u64 f.point.r.x0) ∧ V.cell? ⟨b15, 1, none⟩ = some (.int .u64 f.point.r.x1) ∧ V.cell? ⟨b15, 2, none⟩ = some (.int .u64 f.point.r.x2) ∧ V.cell? ⟨b15, 3, none⟩ = some (.int .u64 f.point.r.x3) ∧ V.cell? ⟨b15, 4, none⟩ = some (.int .u64 f.point.r.x4) ∧ V.cell? ⟨b15, 5, none⟩ = some (.int .u64 f.point.r.x5) ∧ V.cell? ⟨b15, 6, none⟩ = some (.int .u64 f.point.r.x6) ∧ V.cell? ⟨b15, 7, none⟩ = some (.int .u64 f.point.r.x7)) := Lib.hid (fun V h => by
      obtain ⟨e0, e1, e2, e3, e4, e5, e6, e7⟩ := box_cells (b := b9) (e := g.m.r) h (by simp)
      obtain ⟨g0, g1, g2, g3, g4, g5, g6, g7⟩ := box_cells (b := b11) (e := f.point.r) h (by simp)
      exact ⟨e0, e1, e2, e3, e4, e5, e6, e7, g0, g1, g2, g3, g4, g5, g6, g7, box_cells (b := b15) (e := f.point.r) h (by simp)⟩)
    have HD := Lib.hid (H.out.idle (below_drew1 (Below.refl _ W3)))
    clear M1 M2 M3 HE HT Hs4 Hlt
    go_region_held3 (fun V => V.cell? ⟨b9, 0, none⟩ = some (.int .u64 g.m.r.x0) ∧ V.cell? ⟨b9, 1, none⟩ = some (.int .u64 g.m.r.x1) ∧ V.cell? ⟨b9, 2, none⟩ = some (.int .u64 g.m.r.x2) ∧ V.cell? ⟨b9, 3, none⟩ = some (.int .u64 g.m.r.x3) ∧ V.cell? ⟨b9, 4, none⟩ = some (.int .u64 g.m.r.x4) ∧ V.cell? ⟨b9, 5, none⟩ = some (.int .u64 g.m.r.x5) ∧ V.cell? ⟨b9, 6, none⟩ = some (.int .u64 g.m.r.x6) ∧ V.cell? ⟨b9, 7, none⟩ = some (.int .u64 g.m.r.x7) ∧ V.cell? ⟨b11, 0, none⟩ = some (.int .u64 f.point.r.x0) ∧ V.cell? ⟨b11, 1, none⟩ = some (.int .u64 f.point.r.x1) ∧ V.cell? ⟨b11, 2, none⟩ = some (.int .u64 f.point.r.x2) ∧ V.cell? ⟨b11, 3, none⟩ = some (.int .u64 f.point.r.x3) ∧ V.cell? ⟨b11, 4, none⟩ = some (.int .u64 f.point.r.x4) ∧ V.cell? ⟨b11, 5, none⟩ = some (.int .u64 f.point.r.x5) ∧ V.cell? ⟨b11, 6, none⟩ = some (.int .u64 f.point.r.x6) ∧ V.cell? ⟨b11, 7, none⟩ = some (.int .u64 f.point.r.x7) ∧ V.cell? ⟨b15, 0, none⟩ = some (.int .u64 f.point.r.x0) ∧ V.cell? ⟨b15, 1, none⟩ = some (.int .u64 f.point.r.x1) ∧ V.cell? ⟨b15, 2, none⟩ = some (.int .u64 f.point.r.x2) ∧ V.cell? ⟨b15, 3, none⟩ = some (.int .u64 f.point.r.x3) ∧ V.cell? ⟨b15, 4, none⟩ = some (.int .u64 f.point.r.x4) ∧ V.cell? ⟨b15, 5, none⟩ = some (.int .u64 f.point.r.x5) ∧ V.cell? ⟨b15, 6, none⟩ = some (.int .u64 f.point.r.x6) ∧ V.cell? ⟨b15, 7, none⟩ = some (.int .u64 f.point.r.x7)) (first | with_reducible exact HKP.out _ HD.out | with_reducible exact HKP.out _ hR) (first | (go_at_call 19; (with_reducible refine (all_x HD.out).mono ?_); rintro e V ⟨rfl, hR⟩) | (go_at_call 20; (with_reducible refine (HP.out _ hR).mono ?_); rintro e V ⟨rfl, rfl⟩))
    all_goals
      have HB := Lib.hid hR.below
      clear hR H HD HP HKP
      go_wp2
      go_ret
      exact ⟨rfl, HB.out⟩
  · rw [show errR i = 2 from by rw [errR, if_neg hi]]
    have hg : f.set i v = f := by rw [Fl.set, if_neg hi]
    obtain ⟨g, H2, M1, M2, M3⟩ : ∃ g, Hid (FSt w w6 a g [(b9, g.m.r), (b11, f.point.r)]) ∧ Hid (g.m.pc = f.m.pc) ∧ Hid (g.point = f.point) ∧ Hid (g.pt = f.pt) :=
      ⟨f, Lib.hid (by have := H.out; rw [hg] at this; exact this.drop _ (fun x hx => by simpa [or_comm] using hx)), Lib.hid rfl, Lib.hid rfl, Lib.hid rfl⟩
    clear hg H
    by_cases h0 : 0 ≤ i
    · have e1 : decide (0 ≤ i) = true := by simpa using h0
      have e2 : decide (i < 8) = false := by simp; omega
      clear hi h0
      go_wp2_with fail
      refine (point_st H2.out).mono ?_
      rintro e w7 ⟨rfl, h⟩
      rw [M2.out, M3.out]
      obtain ⟨W3, eW, hT, h⟩ := h.box f.point.r
      have HE := Lib.hid eW; clear eW
      have HT := Lib.hid hT; clear hT
      clear H2; have H := Lib.hid h; clear h
      go_wp2_with (refine wpList_store_mid rfl 27 (.tmp 15) (.tmp 61) rfl w7.heap.size 0 f.point.r.cells.toArray rfl rfl ?_ Try.sizeRegs (oneL8 _) ?_; exact HT.out; change wpList _ _ _ _ _ ((w7.alloc (.cells L8.zero.cells.toArray 27)).setCells w7.heap.size 0 f.point.r.cells); rw [← HE.out])
      generalize w7.heap.size = b15 at *
      have HP : Hid (∀ V, FSt w V a g [(b15, f.point.r), (b9, g.m.r), (b11, f.point.r)] → Calls Try.prog 20 #[.pointer (some ⟨a, 0, none⟩)] V fun e w' => e = .returned (.int .i64 f.m.pc) ∧ V = w') := Lib.hid (fun V h => by rw [← M1.out]; exact pc_st h)
      have HKP : Hid (∀ V, FSt w V a g [(b15, f.point.r), (b9, g.m.r), (b11, f.point.r)] → V.cell? ⟨b9, 0, none⟩ = some (.int .u64 g.m.r.x0) ∧ V.cell? ⟨b9, 1, none⟩ = some (.int .u64 g.m.r.x1) ∧ V.cell? ⟨b9, 2, none⟩ = some (.int .u64 g.m.r.x2) ∧ V.cell? ⟨b9, 3, none⟩ = some (.int .u64 g.m.r.x3) ∧ V.cell? ⟨b9, 4, none⟩ = some (.int .u64 g.m.r.x4) ∧ V.cell? ⟨b9, 5, none⟩ = some (.int .u64 g.m.r.x5) ∧ V.cell? ⟨b9, 6, none⟩ = some (.int .u64 g.m.r.x6) ∧ V.cell? ⟨b9, 7, none⟩ = some (.int .u64 g.m.r.x7) ∧ V.cell? ⟨b11, 0, none⟩ = some (.int .u64 f.point.r.x0) ∧ V.cell? ⟨b11, 1, none⟩ = some (.int .u64 f.point.r.x1) ∧ V.cell? ⟨b11, 2, none⟩ = some (.int .u64 f.point.r.x2) ∧ V.cell? ⟨b11, 3, none⟩ = some (.int .u64 f.point.r.x3) ∧ V.cell? ⟨b11, 4, none⟩ = some (.int .u64 f.point.r.x4) ∧ V.cell? ⟨b11, 5, none⟩ = some (.int .u64 f.point.r.x5) ∧ V.cell? ⟨b11, 6, none⟩ = some (.int .u64 f.point.r.x6) ∧ V.cell? ⟨b11, 7, none⟩ = some (.int .u64 f.point.r.x7) ∧ V.cell? ⟨b15, 0, none⟩ = some (.int .u64 f.point.r.x0) ∧ V.cell? ⟨b15, 1, none⟩ = some (.int .u64 f.point.r.x1) ∧ V.cell? ⟨b15, 2, none⟩ = some (.int .u64 f.point.r.x2) ∧ V.cell? ⟨b15, 3, none⟩ = some (.int .u64 f.point.r.x3) ∧ V.cell? ⟨b15, 4, none⟩ = some (.int .u64 f.point.r.x4) ∧ V.cell? ⟨b15, 5, none⟩ = some (.int .u64 f.point.r.x5) ∧ V.cell? ⟨b15, 6, none⟩ = some (.int .u64 f.point.r.x6) ∧ V.cell? ⟨b15, 7, none⟩ = some (.int .u64 f.point.r.x7)) := Lib.hid (fun V h => by
        obtain ⟨e0, e1, e2, e3, e4, e5, e6, e7⟩ := box_cells (b := b9) (e := g.m.r) h (by simp)
        obtain ⟨g0, g1, g2, g3, g4, g5, g6, g7⟩ := box_cells (b := b11) (e := f.point.r) h (by simp)
        exact ⟨e0, e1, e2, e3, e4, e5, e6, e7, g0, g1, g2, g3, g4, g5, g6, g7, box_cells (b := b15) (e := f.point.r) h (by simp)⟩)
      have HD := Lib.hid (H.out.idle (below_drew1 (Below.refl _ W3)))
      clear M1 M2 M3 HE HT Hs4 Hlt
      go_region_held3 (fun V => V.cell? ⟨b9, 0, none⟩ = some (.int .u64 g.m.r.x0) ∧ V.cell? ⟨b9, 1, none⟩ = some (.int .u64 g.m.r.x1) ∧ V.cell? ⟨b9, 2, none⟩ = some (.int .u64 g.m.r.x2) ∧ V.cell? ⟨b9, 3, none⟩ = some (.int .u64 g.m.r.x3) ∧ V.cell? ⟨b9, 4, none⟩ = some (.int .u64 g.m.r.x4) ∧ V.cell? ⟨b9, 5, none⟩ = some (.int .u64 g.m.r.x5) ∧ V.cell? ⟨b9, 6, none⟩ = some (.int .u64 g.m.r.x6) ∧ V.cell? ⟨b9, 7, none⟩ = some (.int .u64 g.m.r.x7) ∧ V.cell? ⟨b11, 0, none⟩ = some (.int .u64 f.point.r.x0) ∧ V.cell? ⟨b11, 1, none⟩ = some (.int .u64 f.point.r.x1) ∧ V.cell? ⟨b11, 2, none⟩ = some (.int .u64 f.point.r.x2) ∧ V.cell? ⟨b11, 3, none⟩ = some (.int .u64 f.point.r.x3) ∧ V.cell? ⟨b11, 4, none⟩ = some (.int .u64 f.point.r.x4) ∧ V.cell? ⟨b11, 5, none⟩ = some (.int .u64 f.point.r.x5) ∧ V.cell? ⟨b11, 6, none⟩ = some (.int .u64 f.point.r.x6) ∧ V.cell? ⟨b11, 7, none⟩ = some (.int .u64 f.point.r.x7) ∧ V.cell? ⟨b15, 0, none⟩ = some (.int .u64 f.point.r.x0) ∧ V.cell? ⟨b15, 1, none⟩ = some (.int .u64 f.point.r.x1) ∧ V.cell? ⟨b15, 2, none⟩ = some (.int .u64 f.point.r.x2) ∧ V.cell? ⟨b15, 3, none⟩ = some (.int .u64 f.point.r.x3) ∧ V.cell? ⟨b15, 4, none⟩ = some (.int .u64 f.point.r.x4) ∧ V.cell? ⟨b15, 5, none⟩ = some (.int .u64 f.point.r.x5) ∧ V.cell? ⟨b15, 6, none⟩ = some (.int .u64 f.point.r.x6) ∧ V.cell? ⟨b15, 7, none⟩ = some (.int .u64 f.point.r.x7)) (first | with_reducible exact HKP.out _ HD.out | with_reducible exact HKP.out _ hR) (first | (go_at_call 19; (with_reducible refine (all_x HD.out).mono ?_); rintro e V ⟨rfl, hR⟩) | (go_at_call 20; (with_reducible refine (HP.out _ hR).mono ?_); rintro e V ⟨rfl, rfl⟩))
      all_goals
        have HB := Lib.hid hR.below
        clear hR H HD HP HKP
        go_wp2
        go_ret
        exact ⟨rfl, HB.out⟩
    · have e1 : decide (0 ≤ i) = false := by simpa using h0
      clear hi h0
      go_wp2_with fail
      refine (point_st H2.out).mono ?_
      rintro e w7 ⟨rfl, h⟩
      rw [M2.out, M3.out]
      obtain ⟨W3, eW, hT, h⟩ := h.box f.point.r
      have HE := Lib.hid eW; clear eW
      have HT := Lib.hid hT; clear hT
      clear H2; have H := Lib.hid h; clear h
      go_wp2_with (refine wpList_store_mid rfl 27 (.tmp 15) (.tmp 61) rfl w7.heap.size 0 f.point.r.cells.toArray rfl rfl ?_ Try.sizeRegs (oneL8 _) ?_; exact HT.out; change wpList _ _ _ _ _ ((w7.alloc (.cells L8.zero.cells.toArray 27)).setCells w7.heap.size 0 f.point.r.cells); rw [← HE.out])
      generalize w7.heap.size = b15 at *
      have HP : Hid (∀ V, FSt w V a g [(b15, f.point.r), (b9, g.m.r), (b11, f.point.r)] → Calls Try.prog 20 #[.pointer (some ⟨a, 0, none⟩)] V fun e w' => e = .returned (.int .i64 f.m.pc) ∧ V = w') := Lib.hid (fun V h => by rw [← M1.out]; exact pc_st h)
      have HKP : Hid (∀ V, FSt w V a g [(b15, f.point.r), (b9, g.m.r), (b11, f.point.r)] → V.cell? ⟨b9, 0, none⟩ = some (.int .u64 g.m.r.x0) ∧ V.cell? ⟨b9, 1, none⟩ = some (.int .u64 g.m.r.x1) ∧ V.cell? ⟨b9, 2, none⟩ = some (.int .u64 g.m.r.x2) ∧ V.cell? ⟨b9, 3, none⟩ = some (.int .u64 g.m.r.x3) ∧ V.cell? ⟨b9, 4, none⟩ = some (.int .u64 g.m.r.x4) ∧ V.cell? ⟨b9, 5, none⟩ = some (.int .u64 g.m.r.x5) ∧ V.cell? ⟨b9, 6, none⟩ = some (.int .u64 g.m.r.x6) ∧ V.cell? ⟨b9, 7, none⟩ = some (.int .u64 g.m.r.x7) ∧ V.cell? ⟨b11, 0, none⟩ = some (.int .u64 f.point.r.x0) ∧ V.cell? ⟨b11, 1, none⟩ = some (.int .u64 f.point.r.x1) ∧ V.cell? ⟨b11, 2, none⟩ = some (.int .u64 f.point.r.x2) ∧ V.cell? ⟨b11, 3, none⟩ = some (.int .u64 f.point.r.x3) ∧ V.cell? ⟨b11, 4, none⟩ = some (.int .u64 f.point.r.x4) ∧ V.cell? ⟨b11, 5, none⟩ = some (.int .u64 f.point.r.x5) ∧ V.cell? ⟨b11, 6, none⟩ = some (.int .u64 f.point.r.x6) ∧ V.cell? ⟨b11, 7, none⟩ = some (.int .u64 f.point.r.x7) ∧ V.cell? ⟨b15, 0, none⟩ = some (.int .u64 f.point.r.x0) ∧ V.cell? ⟨b15, 1, none⟩ = some (.int .u64 f.point.r.x1) ∧ V.cell? ⟨b15, 2, none⟩ = some (.int .u64 f.point.r.x2) ∧ V.cell? ⟨b15, 3, none⟩ = some (.int .u64 f.point.r.x3) ∧ V.cell? ⟨b15, 4, none⟩ = some (.int .u64 f.point.r.x4) ∧ V.cell? ⟨b15, 5, none⟩ = some (.int .u64 f.point.r.x5) ∧ V.cell? ⟨b15, 6, none⟩ = some (.int .u64 f.point.r.x6) ∧ V.cell? ⟨b15, 7, none⟩ = some (.int .u64 f.point.r.x7)) := Lib.hid (fun V h => by
        obtain ⟨e0, e1, e2, e3, e4, e5, e6, e7⟩ := box_cells (b := b9) (e := g.m.r) h (by simp)
        obtain ⟨g0, g1, g2, g3, g4, g5, g6, g7⟩ := box_cells (b := b11) (e := f.point.r) h (by simp)
        exact ⟨e0, e1, e2, e3, e4, e5, e6, e7, g0, g1, g2, g3, g4, g5, g6, g7, box_cells (b := b15) (e := f.point.r) h (by simp)⟩)
      have HD := Lib.hid (H.out.idle (below_drew1 (Below.refl _ W3)))
      clear M1 M2 M3 HE HT Hs4 Hlt
      go_region_held3 (fun V => V.cell? ⟨b9, 0, none⟩ = some (.int .u64 g.m.r.x0) ∧ V.cell? ⟨b9, 1, none⟩ = some (.int .u64 g.m.r.x1) ∧ V.cell? ⟨b9, 2, none⟩ = some (.int .u64 g.m.r.x2) ∧ V.cell? ⟨b9, 3, none⟩ = some (.int .u64 g.m.r.x3) ∧ V.cell? ⟨b9, 4, none⟩ = some (.int .u64 g.m.r.x4) ∧ V.cell? ⟨b9, 5, none⟩ = some (.int .u64 g.m.r.x5) ∧ V.cell? ⟨b9, 6, none⟩ = some (.int .u64 g.m.r.x6) ∧ V.cell? ⟨b9, 7, none⟩ = some (.int .u64 g.m.r.x7) ∧ V.cell? ⟨b11, 0, none⟩ = some (.int .u64 f.point.r.x0) ∧ V.cell? ⟨b11, 1, none⟩ = some (.int .u64 f.point.r.x1) ∧ V.cell? ⟨b11, 2, none⟩ = some (.int .u64 f.point.r.x2) ∧ V.cell? ⟨b11, 3, none⟩ = some (.int .u64 f.point.r.x3) ∧ V.cell? ⟨b11, 4, none⟩ = some (.int .u64 f.point.r.x4) ∧ V.cell? ⟨b11, 5, none⟩ = some (.int .u64 f.point.r.x5) ∧ V.cell? ⟨b11, 6, none⟩ = some (.int .u64 f.point.r.x6) ∧ V.cell? ⟨b11, 7, none⟩ = some (.int .u64 f.point.r.x7) ∧ V.cell? ⟨b15, 0, none⟩ = some (.int .u64 f.point.r.x0) ∧ V.cell? ⟨b15, 1, none⟩ = some (.int .u64 f.point.r.x1) ∧ V.cell? ⟨b15, 2, none⟩ = some (.int .u64 f.point.r.x2) ∧ V.cell? ⟨b15, 3, none⟩ = some (.int .u64 f.point.r.x3) ∧ V.cell? ⟨b15, 4, none⟩ = some (.int .u64 f.point.r.x4) ∧ V.cell? ⟨b15, 5, none⟩ = some (.int .u64 f.point.r.x5) ∧ V.cell? ⟨b15, 6, none⟩ = some (.int .u64 f.point.r.x6) ∧ V.cell? ⟨b15, 7, none⟩ = some (.int .u64 f.point.r.x7)) (first | with_reducible exact HKP.out _ HD.out | with_reducible exact HKP.out _ hR) (first | (go_at_call 19; (with_reducible refine (all_x HD.out).mono ?_); rintro e V ⟨rfl, hR⟩) | (go_at_call 20; (with_reducible refine (HP.out _ hR).mono ?_); rintro e V ⟨rfl, rfl⟩))
      all_goals
        have HB := Lib.hid hR.below
        clear hR H HD HP HKP
        go_wp2
        go_ret
        exact ⟨rfl, HB.out⟩

theorem rone_any (a0 : Option Addr) (l0 c0 : Nat) (i v : Int) (w : World) (hx : Came w a0 l0 opKinds) :
    Calls Try.prog 7 #[.slice a0 l0 c0, .int .i64 i, .int .u64 v] w fun e w' => e = .returned (.bool true) ∧ Below w.heap.size w w' := by
  by_cases hl : 1000 < l0
  · exact rone_long a0 l0 c0 i v w hl
  · obtain ⟨xs, rfl, h1⟩ := ops_in hx
    exact rone_ok a0 xs c0 i v w h1 (by omega)

end Go.Proofs.Ytcammonbhehakaa
