/- RegsBack: the walk. It answers true, and turns nothing that was there. -/
import Derived.Test.YtcammonbhehakaaRegG
import Derived.Deep.RegionHeld3
namespace Go.Proofs.Ytcammonbhehakaa
open Go.RowKit Go.BigFrame

/-- A file whose checkpoint is m. -/
def FP (w0 w : World) (a : Nat) (m : Mo) (G : List (Nat × L8)) : Prop := ∃ f, FSt w0 w a f G ∧ f.pt = some m
/-- A file that is its checkpoint. -/
def FQ (w0 w : World) (a : Nat) (m : Mo) (G : List (Nat × L8)) : Prop := ∃ f, FSt w0 w a f G ∧ f.pt = some m ∧ f.m = m

theorem playL_pt : ∀ (xs : List OpV) (f : Fl), (playL false f xs).pt = f.pt
  | [], _ => rfl
  | x :: xs, f => by
    have h := playL_pt xs (stepL false f x)
    have h1 : (stepL false f x).pt = f.pt := by
      unfold stepL Fl.set Fl.jump Fl.restore
      simp only [Bool.and_false, Bool.false_eq_true, if_false]
      repeat' split
      all_goals first | rfl | simp_all
    simp only [playL, List.foldl_cons] at *
    rw [h, h1]

section
variable {w0 w w' : World} {a : Nat} {m : Mo} {G : List (Nat × L8)}
theorem FQ.p (h : FQ w0 w a m G) : FP w0 w a m G := by obtain ⟨f, h1, h2, _⟩ := h; exact ⟨f, h1, h2⟩
theorem FP.st (h : FP w0 w a m G) : ∃ f, FSt w0 w a f G := by obtain ⟨f, h1, _⟩ := h; exact ⟨f, h1⟩
theorem FP.below (h : FP w0 w a m G) : Below w0.heap.size w0 w := by obtain ⟨f, h1, _⟩ := h; exact h1.below
theorem FP.idle (h : FP w0 w a m G) (hb : Below w.heap.size w w') : FP w0 w' a m G := by obtain ⟨f, h1, h2⟩ := h; exact ⟨f, h1.idle hb, h2⟩
theorem FQ.idle (h : FQ w0 w a m G) (hb : Below w.heap.size w w') : FQ w0 w' a m G := by obtain ⟨f, h1, h2⟩ := h; exact ⟨f, h1.idle hb, h2⟩
theorem FP.box (h : FP w0 w a m G) (e : L8) : ∃ W, W = (w.alloc (.cells L8.zero.cells.toArray 27)).setCells w.heap.size 0 e.cells ∧ (w.alloc (.cells L8.zero.cells.toArray 27)).there w.heap.size 0 8 ∧ FP w0 W a m ((w.heap.size, e) :: G) := by
  obtain ⟨f, h1, h2⟩ := h
  obtain ⟨W, k1, k2, k3⟩ := h1.box e
  exact ⟨W, k1, k2, f, k3, h2⟩
theorem FP.drop (h : FP w0 w a m G) (G' : List (Nat × L8)) (hG : ∀ x ∈ G', x ∈ G) : FP w0 w a m G' := by obtain ⟨f, h1, h2⟩ := h; exact ⟨f, h1.drop G' hG, h2⟩
theorem restore_p (h : FP w0 w a m G) : Calls Try.prog 12 #[.pointer (some ⟨a, 0, none⟩)] w fun e w' => e = .returned (.int .i64 0) ∧ FQ w0 w' a m G := by
  obtain ⟨f, h1, h2⟩ := h
  refine (restore_st h1).mono ?_
  rintro e w' ⟨rfl, h3⟩
  exact ⟨by simp [Fl.errP, h2], _, h3, by simp [Fl.restore, h2], by simp [Fl.restore, h2]⟩
theorem all_q (h : FQ w0 w a m G) : Calls Try.prog 19 #[.pointer (some ⟨a, 0, none⟩)] w fun e w' => e = .returned (.agg #[.int .u64 m.r.x0, .int .u64 m.r.x1, .int .u64 m.r.x2, .int .u64 m.r.x3, .int .u64 m.r.x4, .int .u64 m.r.x5, .int .u64 m.r.x6, .int .u64 m.r.x7]) ∧ FQ w0 w' a m G := by
  obtain ⟨f, h1, h2, h3⟩ := h
  refine (all_st h1).mono ?_
  rintro e w' ⟨rfl, h4⟩
  exact ⟨by rw [h3]; rfl, f, h4, h2, h3⟩
theorem pc_q (h : FQ w0 w a m G) : Calls Try.prog 20 #[.pointer (some ⟨a, 0, none⟩)] w fun e w' => e = .returned (.int .i64 m.pc) ∧ w = w' := by
  obtain ⟨f, h1, h2, h3⟩ := h
  rw [← h3]
  exact pc_st h1
theorem point_p (h : FP w0 w a m G) : Calls Try.prog 14 #[.pointer (some ⟨a, 0, none⟩)] w fun e w' => e = .returned (.tuple #[.agg m.r.cells.toArray, .int .i64 m.pc, .bool true]) ∧ FP w0 w' a m G := by
  obtain ⟨f, h1, h2⟩ := h
  refine (point_st h1).mono ?_
  rintro e w' ⟨rfl, h4⟩
  exact ⟨by simp [Fl.point, h2], f, h4, h2⟩
theorem play_p (h : FP w0 w a m G) (ad : Option Addr) (cap : Nat) (xs : List OpV) (hx : RowsIn w0 ad 3 OpV.cells xs) (hl : xs.length ≤ 1000) :
    Calls Try.prog 22 #[.pointer (some ⟨a, 0, none⟩), .slice ad xs.length cap, .bool false] w fun e w' => e = .returned (.tuple #[]) ∧ FP w0 w' a m G := by
  obtain ⟨f, h1, h2⟩ := h
  refine (play_ok h1 ad cap xs false hx hl).mono ?_
  rintro e w' ⟨rfl, h4⟩
  exact ⟨rfl, _, h4, by rw [playL_pt]; exact h2⟩
/-- The words in a box. -/
theorem box_cells {b : Nat} {e : L8} {V : World} {f : Fl} (h : FSt w0 V a f G) (hb : (b, e) ∈ G) : V.cell? ⟨b, 0, none⟩ = some (.int .u64 e.x0) ∧ V.cell? ⟨b, 1, none⟩ = some (.int .u64 e.x1) ∧ V.cell? ⟨b, 2, none⟩ = some (.int .u64 e.x2) ∧ V.cell? ⟨b, 3, none⟩ = some (.int .u64 e.x3) ∧ V.cell? ⟨b, 4, none⟩ = some (.int .u64 e.x4) ∧ V.cell? ⟨b, 5, none⟩ = some (.int .u64 e.x5) ∧ V.cell? ⟨b, 6, none⟩ = some (.int .u64 e.x6) ∧ V.cell? ⟨b, 7, none⟩ = some (.int .u64 e.x7) := by
  have k := h.rows _ hb
  exact ⟨k.cell (i := 0) rfl, k.cell (i := 1) rfl, k.cell (i := 2) rfl, k.cell (i := 3) rfl, k.cell (i := 4) rfl, k.cell (i := 5) rfl, k.cell (i := 6) rfl, k.cell (i := 7) rfl⟩
end

set_option maxRecDepth 100000 in
set_option maxHeartbeats 1000000 in
theorem rback_long (a0 a1 : Option Addr) (l0 l1 c0 c1 : Nat) (w : World) (hl : 1000 < l0 ∨ 1000 < l1) :
    Calls Try.prog 6 #[.slice a0 l0 c0, .slice a1 l1 c1] w fun e w' => e = .returned (.bool true) ∧ Below w.heap.size w w' := by
  have HL : Hid (1000 < l0 ∨ 1000 < l1) := Lib.hid hl
  clear hl
  go_enter Try.func6, Try.ntmps6
  go_wp2_with fail
  refine (alive_ok _).mono ?_
  rintro e w1 ⟨rfl, hb⟩
  have Hb := Lib.hid hb; clear hb
  by_cases h0 : 1000 < l0
  · have d0 : decide ((1000 : Int) < (l0 : Int)) = true := by simp; omega
    go_wp2
    go_ret
    exact ⟨rfl, Hb.out⟩
  · have h1 : 1000 < l1 := HL.out.resolve_left h0
    have d0 : decide ((1000 : Int) < (l0 : Int)) = false := by simp; omega
    have d1 : decide ((1000 : Int) < (l1 : Int)) = true := by simp; omega
    go_wp2
    go_ret
    exact ⟨rfl, Hb.out⟩

set_option maxRecDepth 100000 in
set_option maxHeartbeats 4000000 in
theorem rback_ok (a0 a1 : Option Addr) (xs ys : List OpV) (c0 c1 : Nat) (w : World) (hx : RowsIn w a0 3 OpV.cells xs) (hy : RowsIn w a1 3 OpV.cells ys) (hl0 : xs.length ≤ 1000) (hl1 : ys.length ≤ 1000) :
    Calls Try.prog 6 #[.slice a0 xs.length c0, .slice a1 ys.length c1] w fun e w' => e = .returned (.bool true) ∧ Below w.heap.size w w' := by
  have HX := Lib.hid hx; clear hx
  have HY := Lib.hid hy; clear hy
  have HL0 := Lib.hid hl0
  have HL1 := Lib.hid hl1
  have d0 : decide ((1000 : Int) < (xs.length : Int)) = false := by simp; omega
  have d1 : decide ((1000 : Int) < (ys.length : Int)) = false := by simp; omega
  clear hl0 hl1
  go_enter Try.func6, Try.ntmps6
  go_wp2_with fail
  refine (alive_ok _).mono ?_
  rintro e w1 ⟨rfl, hb⟩
  have Hb := Lib.hid hb; clear hb
  go_wp2_with fail
  refine (new_st Hb.out).mono ?_
  rintro e w2 ⟨a, rfl, h⟩
  have H := Lib.hid h; clear h d0 d1
  go_wp2_with fail
  refine (play_ok H.out a0 c0 xs true HX.out HL0.out).mono ?_
  rintro e w3 ⟨rfl, h⟩
  generalize playL true Fl.zero xs = f at *
  clear H HX HL0; have H := Lib.hid h; clear h
  go_wp2_with fail
  refine (all_st H.out).mono ?_
  rintro e w4 ⟨rfl, h⟩
  clear H; have H := Lib.hid h; clear h
  go_wp2_with fail
  refine (pc_st H.out).mono ?_
  rintro e w' ⟨rfl, rfl⟩
  obtain ⟨W, eW, hT, h⟩ := H.out.box f.m.r
  have HE := Lib.hid eW; clear eW
  have HT := Lib.hid hT; clear hT
  clear H; have H := Lib.hid h; clear h
  go_wp2_with (refine wpList_store_mid rfl 27 (.tmp 7) (.tmp 32) rfl w4.heap.size 0 f.m.r.cells.toArray rfl rfl ?_ Try.sizeRegs (oneL8 _) ?_; exact HT.out; change wpList _ _ _ _ _ ((w4.alloc (.cells L8.zero.cells.toArray 27)).setCells w4.heap.size 0 f.m.r.cells); rw [← HE.out])
  refine (save_st H.out).mono ?_
  rintro e w5 ⟨rfl, h⟩
  have HP : Hid (FP w w5 a f.m [(w4.heap.size, f.m.r)]) := Lib.hid ⟨_, h, rfl⟩
  clear H h HE HT
  generalize f.m = m at *
  generalize w4.heap.size = b7 at *
  go_wp2
  go_loopw [9] (fun i wr => ∃ k : Nat, k ≤ 2 ∧ i = .int .i64 k ∧ FP w wr a m [(b7, m.r)]) (fun i _ => 2 - (intOf i).toNat)
  case atStart => exact ⟨0, by omega, rfl, HP.out⟩
  case round =>
    obtain ⟨k, hk, rfl, hs⟩ := hrel
    have HS := Lib.hid hs; clear hs HP
    by_cases hlt : k < 2
    · go_wp2_with fail
      refine (play_p HS.out a1 c1 ys HY.out HL1.out).mono ?_
      rintro e w6 ⟨rfl, h⟩
      clear HS; have HS := Lib.hid h; clear h
      go_wp2_with fail
      refine (point_p HS.out).mono ?_
      rintro e w7 ⟨rfl, h⟩
      obtain ⟨W2, eW, hT, h⟩ := h.box m.r
      have HE := Lib.hid eW; clear eW
      have HT := Lib.hid hT; clear hT
      clear HS; have HS := Lib.hid h; clear h
      go_wp2_with (refine wpList_store_mid rfl 27 (.tmp 10) (.tmp 48) rfl w7.heap.size 0 m.r.cells.toArray rfl rfl ?_ Try.sizeRegs (oneL8 _) ?_; exact HT.out; change wpList _ _ _ _ _ ((w7.alloc (.cells L8.zero.cells.toArray 27)).setCells w7.heap.size 0 m.r.cells); rw [← HE.out])
      have HK : Hid (∀ V f, FSt w V a f [(w7.heap.size, m.r), (b7, m.r)] → (V.cell? ⟨w7.heap.size, 0, none⟩ = some (.int .u64 m.r.x0) ∧ V.cell? ⟨w7.heap.size, 1, none⟩ = some (.int .u64 m.r.x1) ∧ V.cell? ⟨w7.heap.size, 2, none⟩ = some (.int .u64 m.r.x2) ∧ V.cell? ⟨w7.heap.size, 3, none⟩ = some (.int .u64 m.r.x3) ∧ V.cell? ⟨w7.heap.size, 4, none⟩ = some (.int .u64 m.r.x4) ∧ V.cell? ⟨w7.heap.size, 5, none⟩ = some (.int .u64 m.r.x5) ∧ V.cell? ⟨w7.heap.size, 6, none⟩ = some (.int .u64 m.r.x6) ∧ V.cell? ⟨w7.heap.size, 7, none⟩ = some (.int .u64 m.r.x7)) ∧ (V.cell? ⟨b7, 0, none⟩ = some (.int .u64 m.r.x0) ∧ V.cell? ⟨b7, 1, none⟩ = some (.int .u64 m.r.x1) ∧ V.cell? ⟨b7, 2, none⟩ = some (.int .u64 m.r.x2) ∧ V.cell? ⟨b7, 3, none⟩ = some (.int .u64 m.r.x3) ∧ V.cell? ⟨b7, 4, none⟩ = some (.int .u64 m.r.x4) ∧ V.cell? ⟨b7, 5, none⟩ = some (.int .u64 m.r.x5) ∧ V.cell? ⟨b7, 6, none⟩ = some (.int .u64 m.r.x6) ∧ V.cell? ⟨b7, 7, none⟩ = some (.int .u64 m.r.x7))) := Lib.hid (fun V f h => ⟨box_cells h (by simp), box_cells h (by simp)⟩)
      generalize w7.heap.size = b10 at *
      clear HE HT
      have HP := Lib.hid (HS.out.idle (below_drew1 (Below.refl _ W2)))
      have HF := Lib.hid HP.out.st
      have HKP : Hid (∀ V, FP w V a m [(b10, m.r), (b7, m.r)] → V.cell? ⟨b10, 0, none⟩ = some (.int .u64 m.r.x0) ∧ V.cell? ⟨b10, 1, none⟩ = some (.int .u64 m.r.x1) ∧ V.cell? ⟨b10, 2, none⟩ = some (.int .u64 m.r.x2) ∧ V.cell? ⟨b10, 3, none⟩ = some (.int .u64 m.r.x3) ∧ V.cell? ⟨b10, 4, none⟩ = some (.int .u64 m.r.x4) ∧ V.cell? ⟨b10, 5, none⟩ = some (.int .u64 m.r.x5) ∧ V.cell? ⟨b10, 6, none⟩ = some (.int .u64 m.r.x6) ∧ V.cell? ⟨b10, 7, none⟩ = some (.int .u64 m.r.x7) ∧ V.cell? ⟨b7, 0, none⟩ = some (.int .u64 m.r.x0) ∧ V.cell? ⟨b7, 1, none⟩ = some (.int .u64 m.r.x1) ∧ V.cell? ⟨b7, 2, none⟩ = some (.int .u64 m.r.x2) ∧ V.cell? ⟨b7, 3, none⟩ = some (.int .u64 m.r.x3) ∧ V.cell? ⟨b7, 4, none⟩ = some (.int .u64 m.r.x4) ∧ V.cell? ⟨b7, 5, none⟩ = some (.int .u64 m.r.x5) ∧ V.cell? ⟨b7, 6, none⟩ = some (.int .u64 m.r.x6) ∧ V.cell? ⟨b7, 7, none⟩ = some (.int .u64 m.r.x7)) := Lib.hid (fun V h => by
        obtain ⟨f, hf⟩ := h.st
        obtain ⟨⟨e0, e1, e2, e3, e4, e5, e6, e7⟩, g⟩ := HK.out V f hf
        exact ⟨e0, e1, e2, e3, e4, e5, e6, e7, g⟩)
      clear HK HF
      go_region_held3 (fun V => V.cell? ⟨b10, 0, none⟩ = some (.int .u64 m.r.x0) ∧ V.cell? ⟨b10, 1, none⟩ = some (.int .u64 m.r.x1) ∧ V.cell? ⟨b10, 2, none⟩ = some (.int .u64 m.r.x2) ∧ V.cell? ⟨b10, 3, none⟩ = some (.int .u64 m.r.x3) ∧ V.cell? ⟨b10, 4, none⟩ = some (.int .u64 m.r.x4) ∧ V.cell? ⟨b10, 5, none⟩ = some (.int .u64 m.r.x5) ∧ V.cell? ⟨b10, 6, none⟩ = some (.int .u64 m.r.x6) ∧ V.cell? ⟨b10, 7, none⟩ = some (.int .u64 m.r.x7) ∧ V.cell? ⟨b7, 0, none⟩ = some (.int .u64 m.r.x0) ∧ V.cell? ⟨b7, 1, none⟩ = some (.int .u64 m.r.x1) ∧ V.cell? ⟨b7, 2, none⟩ = some (.int .u64 m.r.x2) ∧ V.cell? ⟨b7, 3, none⟩ = some (.int .u64 m.r.x3) ∧ V.cell? ⟨b7, 4, none⟩ = some (.int .u64 m.r.x4) ∧ V.cell? ⟨b7, 5, none⟩ = some (.int .u64 m.r.x5) ∧ V.cell? ⟨b7, 6, none⟩ = some (.int .u64 m.r.x6) ∧ V.cell? ⟨b7, 7, none⟩ = some (.int .u64 m.r.x7)) (first | with_reducible exact HKP.out _ HP.out | with_reducible exact HKP.out _ hQ.p | with_reducible exact HKP.out _ hR.p) (first | (go_at_call 12; (with_reducible refine (restore_p HP.out).mono ?_); rintro e V ⟨rfl, hQ⟩) | (go_at_call 19; (with_reducible refine (all_q hQ).mono ?_); rintro e V ⟨rfl, hR⟩) | (go_at_call 20; (with_reducible refine (pc_q hR).mono ?_); rintro e V ⟨rfl, rfl⟩))
      all_goals
        have HR := Lib.hid (hR.p.drop [(b7, m.r)] (by simp)); clear hR hQ HS HP
        go_wp2
        go_roundw
        case rel => exact ⟨k + 1, by omega, by go_num, HR.out⟩
        case measure => simp [intOf]; omega
    · have : k = 2 := by omega
      subst this
      go_wp2
      go_ret
      exact ⟨rfl, HS.out.below⟩

theorem rback_any (a0 a1 : Option Addr) (l0 l1 c0 c1 : Nat) (w : World) (hx : Came w a0 l0 opKinds) (hy : Came w a1 l1 opKinds) :
    Calls Try.prog 6 #[.slice a0 l0 c0, .slice a1 l1 c1] w fun e w' => e = .returned (.bool true) ∧ Below w.heap.size w w' := by
  by_cases hl : 1000 < l0 ∨ 1000 < l1
  · exact rback_long a0 a1 l0 l1 c0 c1 w hl
  · obtain ⟨xs, rfl, h1⟩ := ops_in hx
    obtain ⟨ys, rfl, h2⟩ := ops_in hy
    exact rback_ok a0 a1 xs ys c0 c1 w h1 h2 (by omega) (by omega)

end Go.Proofs.Ytcammonbhehakaa
