/- LogFirst, a write. Conditions: those stated in each theorem. -/
import Derived.Test.YtfngfphoefpndaaLogL
namespace Go.Proofs.Ytfngfphoefpndaa
open Go.RowKit Go.BigFrame Go.Maps

set_option maxRecDepth 100000 in
set_option maxHeartbeats 4000000 in
theorem lfirst_w0 (a0 : Option Addr) (c0 : Nat) (xs : List OpV) (x : OpV) (v2 : Int) (w : World) (hx : OpsIn w a0 xs) (hok : x.ok w) (hv2 : (Lit.int .u64 v2).wf = true) (hl0 : xs.length ≤ 1000) (hk : x.kind ≠ 0)
    (F : Lg) (hF : playL Lg.zero xs = F) (hI : LI F) (ho : ((F.write x.a x.v).write x.a v2).r = F.r) (he : errRead (F.write x.a x.v).w x.a = errRead F.w x.a)
    (hc : hasL F.w x.a = true ∧ errRead F.w x.a = 0 ∧ hasL ((F.write x.a x.v).write x.a v2).w x.a = true ∧ valL ((F.write x.a x.v).write x.a v2).w x.a = v2 ∧ ((F.write x.a x.v).write x.a v2).w.length = F.w.length) :
    Calls Try.prog 6 #[.slice a0 xs.length c0, .agg x.cells.toArray, .int .u64 v2] w fun e w' => e = .returned (.bool true) ∧ Below w.heap.size w w' := by
  have hB : Below w.heap.size w (w.alloc (.cells x.cells.toArray 35)) := (Below.refl _ w).alloc (Nat.le_refl _) _
  have hX : Holds (w.alloc (.cells x.cells.toArray 35)) w.heap.size 35 x.cells := Holds.new w 35 x.cells
  have HX := Lib.hid (hx.below hB); clear hx
  have Hok := Lib.hid hok.1; clear hok
  have HL0 := Lib.hid hl0
  have d0 : decide ((1000 : Int) < (xs.length : Int)) = false := by simp; omega
  clear hl0
  have b0 : (x.kind == 0) = false := by simp [hk]
  obtain ⟨k1, k2, k3, k4, k5⟩ := hc
  have HE := Lib.hid (And.intro ho he); clear ho he
  have hlr := hI.lr
  have hlw := hI.lw
  clear hI
  have K1 := Lib.hid k1; clear k1
  have K2 := Lib.hid k2; clear k2
  have K3 := Lib.hid k3; clear k3
  have K5 := Lib.hid k5; clear k5
  have K4 := Lib.hid k4; clear k4
  have HF := Lib.hid hF; clear hF
  have Hv2 := Lib.hid hv2; clear hv2 hk
  have HB := Lib.hid hB; clear hB
  have HXb := Lib.hid hX; clear hX
  go_enter Try.func6, Try.ntmps6
  obtain ⟨xk, xa, xv, xad, xn, xc⟩ := x
  simp only [OpV.cells] at *
  go_wp2_with fail
  generalize w.alloc (.cells #[.int .i64 xk, .int .i64 xa, .int .u64 xv, .slice xad xn xc] 35) = Wb at *
  have HC : Hid (∀ V, Below Wb.heap.size Wb V → V.cell? ⟨w.heap.size, 0, none⟩ = some (.int .i64 xk) ∧ V.cell? ⟨w.heap.size, 1, none⟩ = some (.int .i64 xa) ∧ V.cell? ⟨w.heap.size, 2, none⟩ = some (.int .u64 xv)) := Lib.hid (fun V hV => ⟨(HXb.out.below hV).cell (i := 0) rfl, (HXb.out.below hV).cell (i := 1) rfl, (HXb.out.below hV).cell (i := 2) rfl⟩)
  clear HXb
  refine (alive_ok _).mono ?_
  rintro e w1 ⟨rfl, hb⟩
  have Hb := Lib.hid hb; clear hb
  go_wp2_with fail
  refine (new_st Hb.out).mono ?_
  rintro e w2 ⟨a, rfl, h⟩
  have H := Lib.hid h; clear h d0 Hb
  go_wp2_with fail
  refine (play_ok H.out a0 c0 xs HX.out HL0.out).mono ?_
  rintro e w3 ⟨rfl, h⟩
  rw [HF.out] at h
  clear H HX HL0; have H := Lib.hid h; clear h
  obtain ⟨x0, x1, x2⟩ := HC.out w3 H.out.below
  go_wp2_with fail
  refine (was_st H.out xa Hok.out.1).mono ?_
  rintro e w' ⟨rfl, rfl⟩
  clear x0 x1 x2
  obtain ⟨x0, x1, x2⟩ := HC.out w3 H.out.below
  go_wp2_with fail
  refine (look_st H.out xa Hok.out.1).mono ?_
  rintro e w' ⟨rfl, rfl⟩
  rw [K1.out]
  clear x0 x1 x2
  obtain ⟨x0, x1, x2⟩ := HC.out w3 H.out.below
  go_wp2_with fail
  refine (reads_st H.out).mono ?_
  rintro e w4 ⟨v, rfl, h⟩
  obtain ⟨ad, cap, rfl, -⟩ := h.row1.rows
  have h := h.drop [] (by simp)
  clear x0 x1 x2 H; have H := Lib.hid h; clear h
  obtain ⟨x0, x1, x2⟩ := HC.out w4 H.out.below
  go_wp2_with fail
  refine (writes_st H.out).mono ?_
  rintro e w5 ⟨v, rfl, h⟩
  obtain ⟨ad, cap, rfl, -⟩ := h.row1.rows
  have h := h.drop [] (by simp)
  clear x0 x1 x2 H; have H := Lib.hid h; clear h
  obtain ⟨x0, x1, x2⟩ := HC.out w5 H.out.below
  go_wp2_with fail
  refine (write_st H.out xa xv Hok.out.1 Hok.out.2).mono ?_
  rintro e w6 ⟨rfl, h⟩
  rw [K2.out]
  clear x0 x1 x2 H; have H := Lib.hid h; clear h
  obtain ⟨x0, x1, x2⟩ := HC.out w6 H.out.below
  go_wp2_with fail
  refine (write_st H.out xa v2 Hok.out.1 Hv2.out).mono ?_
  rintro e w7 ⟨rfl, h⟩
  rw [HE.out.2, K2.out]
  clear x0 x1 x2 H; have H := Lib.hid h; clear h
  obtain ⟨x0, x1, x2⟩ := HC.out w7 H.out.below
  go_wp2_with fail
  refine (look_st H.out xa Hok.out.1).mono ?_
  rintro e w' ⟨rfl, rfl⟩
  rw [K4.out, K3.out]
  clear x0 x1 x2
  obtain ⟨x0, x1, x2⟩ := HC.out w7 H.out.below
  go_wp2_with fail
  refine (was_st H.out xa Hok.out.1).mono ?_
  rintro e w' ⟨rfl, rfl⟩
  rw [HE.out.1]
  clear x0 x1 x2
  obtain ⟨x0, x1, x2⟩ := HC.out w7 H.out.below
  go_wp2_with fail
  refine (reads_st H.out).mono ?_
  rintro e w8 ⟨v, rfl, h⟩
  obtain ⟨ad, cap, rfl, -⟩ := h.row1.rows
  rw [HE.out.1]
  have h := h.drop [] (by simp)
  clear x0 x1 x2 H; have H := Lib.hid h; clear h
  obtain ⟨x0, x1, x2⟩ := HC.out w8 H.out.below
  go_wp2_with fail
  refine (writes_st H.out).mono ?_
  rintro e w9 ⟨v, rfl, h⟩
  obtain ⟨ad, cap, rfl, -⟩ := h.row1.rows
  rw [K5.out]
  have h := h.drop [] (by simp)
  clear x0 x1 x2 H; have H := Lib.hid h; clear h
  have HB2 := Lib.hid (HB.out.trans (H.out.below.mono HB.out.size)); clear H
  go_wp2
  go_ret
  exact ⟨by simp, HB2.out⟩

set_option maxRecDepth 100000 in
set_option maxHeartbeats 4000000 in
theorem lfirst_w1 (a0 : Option Addr) (c0 : Nat) (xs : List OpV) (x : OpV) (v2 : Int) (w : World) (hx : OpsIn w a0 xs) (hok : x.ok w) (hv2 : (Lit.int .u64 v2).wf = true) (hl0 : xs.length ≤ 1000) (hk : x.kind ≠ 0)
    (F : Lg) (hF : playL Lg.zero xs = F) (hI : LI F) (ho : ((F.write x.a x.v).write x.a v2).r = F.r) (he : errRead (F.write x.a x.v).w x.a = errRead F.w x.a)
    (hc : hasL F.w x.a = false ∧ x.a < 0 ∧ errRead F.w x.a = 2 ∧ hasL ((F.write x.a x.v).write x.a v2).w x.a = false ∧ ((F.write x.a x.v).write x.a v2).w.length = F.w.length) :
    Calls Try.prog 6 #[.slice a0 xs.length c0, .agg x.cells.toArray, .int .u64 v2] w fun e w' => e = .returned (.bool true) ∧ Below w.heap.size w w' := by
  have hB : Below w.heap.size w (w.alloc (.cells x.cells.toArray 35)) := (Below.refl _ w).alloc (Nat.le_refl _) _
  have hX : Holds (w.alloc (.cells x.cells.toArray 35)) w.heap.size 35 x.cells := Holds.new w 35 x.cells
  have HX := Lib.hid (hx.below hB); clear hx
  have Hok := Lib.hid hok.1; clear hok
  have HL0 := Lib.hid hl0
  have d0 : decide ((1000 : Int) < (xs.length : Int)) = false := by simp; omega
  clear hl0
  have b0 : (x.kind == 0) = false := by simp [hk]
  obtain ⟨k1, hA, k2, k3, k5⟩ := hc
  have HE := Lib.hid (And.intro ho he); clear ho he
  have hlr := hI.lr
  have hlw := hI.lw
  clear hI
  have dA : decide (x.a < 0) = true := by simpa using hA
  have K1 := Lib.hid k1; clear k1
  have K2 := Lib.hid k2; clear k2
  have K3 := Lib.hid k3; clear k3
  have K5 := Lib.hid k5; clear k5
  have HF := Lib.hid hF; clear hF
  have Hv2 := Lib.hid hv2; clear hv2 hk
  have HB := Lib.hid hB; clear hB
  have HXb := Lib.hid hX; clear hX
  clear hA
  go_enter Try.func6, Try.ntmps6
  obtain ⟨xk, xa, xv, xad, xn, xc⟩ := x
  simp only [OpV.cells] at *
  go_wp2_with fail
  generalize w.alloc (.cells #[.int .i64 xk, .int .i64 xa, .int .u64 xv, .slice xad xn xc] 35) = Wb at *
  have HC : Hid (∀ V, Below Wb.heap.size Wb V → V.cell? ⟨w.heap.size, 0, none⟩ = some (.int .i64 xk) ∧ V.cell? ⟨w.heap.size, 1, none⟩ = some (.int .i64 xa) ∧ V.cell? ⟨w.heap.size, 2, none⟩ = some (.int .u64 xv)) := Lib.hid (fun V hV => ⟨(HXb.out.below hV).cell (i := 0) rfl, (HXb.out.below hV).cell (i := 1) rfl, (HXb.out.below hV).cell (i := 2) rfl⟩)
  clear HXb
  refine (alive_ok _).mono ?_
  rintro e w1 ⟨rfl, hb⟩
  have Hb := Lib.hid hb; clear hb
  go_wp2_with fail
  refine (new_st Hb.out).mono ?_
  rintro e w2 ⟨a, rfl, h⟩
  have H := Lib.hid h; clear h d0 Hb
  go_wp2_with fail
  refine (play_ok H.out a0 c0 xs HX.out HL0.out).mono ?_
  rintro e w3 ⟨rfl, h⟩
  rw [HF.out] at h
  clear H HX HL0; have H := Lib.hid h; clear h
  obtain ⟨x0, x1, x2⟩ := HC.out w3 H.out.below
  go_wp2_with fail
  refine (was_st H.out xa Hok.out.1).mono ?_
  rintro e w' ⟨rfl, rfl⟩
  clear x0 x1 x2
  obtain ⟨x0, x1, x2⟩ := HC.out w3 H.out.below
  go_wp2_with fail
  refine (look_st H.out xa Hok.out.1).mono ?_
  rintro e w' ⟨rfl, rfl⟩
  rw [K1.out]
  clear x0 x1 x2
  obtain ⟨x0, x1, x2⟩ := HC.out w3 H.out.below
  go_wp2_with fail
  refine (reads_st H.out).mono ?_
  rintro e w4 ⟨v, rfl, h⟩
  obtain ⟨ad, cap, rfl, -⟩ := h.row1.rows
  have h := h.drop [] (by simp)
  clear x0 x1 x2 H; have H := Lib.hid h; clear h
  obtain ⟨x0, x1, x2⟩ := HC.out w4 H.out.below
  go_wp2_with fail
  refine (writes_st H.out).mono ?_
  rintro e w5 ⟨v, rfl, h⟩
  obtain ⟨ad, cap, rfl, -⟩ := h.row1.rows
  have h := h.drop [] (by simp)
  clear x0 x1 x2 H; have H := Lib.hid h; clear h
  obtain ⟨x0, x1, x2⟩ := HC.out w5 H.out.below
  go_wp2_with fail
  refine (write_st H.out xa xv Hok.out.1 Hok.out.2).mono ?_
  rintro e w6 ⟨rfl, h⟩
  rw [K2.out]
  clear x0 x1 x2 H; have H := Lib.hid h; clear h
  obtain ⟨x0, x1, x2⟩ := HC.out w6 H.out.below
  go_wp2_with fail
  refine (write_st H.out xa v2 Hok.out.1 Hv2.out).mono ?_
  rintro e w7 ⟨rfl, h⟩
  rw [HE.out.2, K2.out]
  clear x0 x1 x2 H; have H := Lib.hid h; clear h
  obtain ⟨x0, x1, x2⟩ := HC.out w7 H.out.below
  go_wp2_with fail
  refine (look_st H.out xa Hok.out.1).mono ?_
  rintro e w' ⟨rfl, rfl⟩
  rw [K3.out]
  clear x0 x1 x2
  obtain ⟨x0, x1, x2⟩ := HC.out w7 H.out.below
  go_wp2_with fail
  refine (was_st H.out xa Hok.out.1).mono ?_
  rintro e w' ⟨rfl, rfl⟩
  rw [HE.out.1]
  clear x0 x1 x2
  obtain ⟨x0, x1, x2⟩ := HC.out w7 H.out.below
  go_wp2_with fail
  refine (reads_st H.out).mono ?_
  rintro e w8 ⟨v, rfl, h⟩
  obtain ⟨ad, cap, rfl, -⟩ := h.row1.rows
  rw [HE.out.1]
  have h := h.drop [] (by simp)
  clear x0 x1 x2 H; have H := Lib.hid h; clear h
  obtain ⟨x0, x1, x2⟩ := HC.out w8 H.out.below
  go_wp2_with fail
  refine (writes_st H.out).mono ?_
  rintro e w9 ⟨v, rfl, h⟩
  obtain ⟨ad, cap, rfl, -⟩ := h.row1.rows
  rw [K5.out]
  have h := h.drop [] (by simp)
  clear x0 x1 x2 H; have H := Lib.hid h; clear h
  have HB2 := Lib.hid (HB.out.trans (H.out.below.mono HB.out.size)); clear H
  go_wp2
  go_ret
  exact ⟨by simp, HB2.out⟩

set_option maxRecDepth 100000 in
set_option maxHeartbeats 4000000 in
theorem lfirst_w2 (a0 : Option Addr) (c0 : Nat) (xs : List OpV) (x : OpV) (v2 : Int) (w : World) (hx : OpsIn w a0 xs) (hok : x.ok w) (hv2 : (Lit.int .u64 v2).wf = true) (hl0 : xs.length ≤ 1000) (hk : x.kind ≠ 0)
    (F : Lg) (hF : playL Lg.zero xs = F) (hI : LI F) (ho : ((F.write x.a x.v).write x.a v2).r = F.r) (he : errRead (F.write x.a x.v).w x.a = errRead F.w x.a)
    (hc : hasL F.w x.a = false ∧ 0 ≤ x.a ∧ F.w.length = 128 ∧ errRead F.w x.a = 70 ∧ hasL ((F.write x.a x.v).write x.a v2).w x.a = false ∧ ((F.write x.a x.v).write x.a v2).w.length = 128) :
    Calls Try.prog 6 #[.slice a0 xs.length c0, .agg x.cells.toArray, .int .u64 v2] w fun e w' => e = .returned (.bool true) ∧ Below w.heap.size w w' := by
  have hB : Below w.heap.size w (w.alloc (.cells x.cells.toArray 35)) := (Below.refl _ w).alloc (Nat.le_refl _) _
  have hX : Holds (w.alloc (.cells x.cells.toArray 35)) w.heap.size 35 x.cells := Holds.new w 35 x.cells
  have HX := Lib.hid (hx.below hB); clear hx
  have Hok := Lib.hid hok.1; clear hok
  have HL0 := Lib.hid hl0
  have d0 : decide ((1000 : Int) < (xs.length : Int)) = false := by simp; omega
  clear hl0
  have b0 : (x.kind == 0) = false := by simp [hk]
  obtain ⟨k1, hA, h128, k2, k3, k5⟩ := hc
  have HE := Lib.hid (And.intro ho he); clear ho he
  have hlr := hI.lr
  have hlw := hI.lw
  clear hI
  have dA : decide (x.a < 0) = false := by simpa using hA
  have dA2 : decide (0 ≤ x.a) = true := by simpa using hA
  have K1 := Lib.hid k1; clear k1
  have K2 := Lib.hid k2; clear k2
  have K3 := Lib.hid k3; clear k3
  have K5 := Lib.hid k5; clear k5
  have HF := Lib.hid hF; clear hF
  have Hv2 := Lib.hid hv2; clear hv2 hk
  have HB := Lib.hid hB; clear hB
  have HXb := Lib.hid hX; clear hX
  clear hA
  have H128 := Lib.hid h128; clear h128
  go_enter Try.func6, Try.ntmps6
  obtain ⟨xk, xa, xv, xad, xn, xc⟩ := x
  simp only [OpV.cells] at *
  go_wp2_with fail
  generalize w.alloc (.cells #[.int .i64 xk, .int .i64 xa, .int .u64 xv, .slice xad xn xc] 35) = Wb at *
  have HC : Hid (∀ V, Below Wb.heap.size Wb V → V.cell? ⟨w.heap.size, 0, none⟩ = some (.int .i64 xk) ∧ V.cell? ⟨w.heap.size, 1, none⟩ = some (.int .i64 xa) ∧ V.cell? ⟨w.heap.size, 2, none⟩ = some (.int .u64 xv)) := Lib.hid (fun V hV => ⟨(HXb.out.below hV).cell (i := 0) rfl, (HXb.out.below hV).cell (i := 1) rfl, (HXb.out.below hV).cell (i := 2) rfl⟩)
  clear HXb
  refine (alive_ok _).mono ?_
  rintro e w1 ⟨rfl, hb⟩
  have Hb := Lib.hid hb; clear hb
  go_wp2_with fail
  refine (new_st Hb.out).mono ?_
  rintro e w2 ⟨a, rfl, h⟩
  have H := Lib.hid h; clear h d0 Hb
  go_wp2_with fail
  refine (play_ok H.out a0 c0 xs HX.out HL0.out).mono ?_
  rintro e w3 ⟨rfl, h⟩
  rw [HF.out] at h
  clear H HX HL0; have H := Lib.hid h; clear h
  obtain ⟨x0, x1, x2⟩ := HC.out w3 H.out.below
  go_wp2_with fail
  refine (was_st H.out xa Hok.out.1).mono ?_
  rintro e w' ⟨rfl, rfl⟩
  clear x0 x1 x2
  obtain ⟨x0, x1, x2⟩ := HC.out w3 H.out.below
  go_wp2_with fail
  refine (look_st H.out xa Hok.out.1).mono ?_
  rintro e w' ⟨rfl, rfl⟩
  rw [K1.out]
  clear x0 x1 x2
  obtain ⟨x0, x1, x2⟩ := HC.out w3 H.out.below
  go_wp2_with fail
  refine (reads_st H.out).mono ?_
  rintro e w4 ⟨v, rfl, h⟩
  obtain ⟨ad, cap, rfl, -⟩ := h.row1.rows
  have h := h.drop [] (by simp)
  clear x0 x1 x2 H; have H := Lib.hid h; clear h
  obtain ⟨x0, x1, x2⟩ := HC.out w4 H.out.below
  go_wp2_with fail
  refine (writes_st H.out).mono ?_
  rintro e w5 ⟨v, rfl, h⟩
  obtain ⟨ad, cap, rfl, -⟩ := h.row1.rows
  rw [H128.out]
  have h := h.drop [] (by simp)
  clear x0 x1 x2 H; have H := Lib.hid h; clear h
  obtain ⟨x0, x1, x2⟩ := HC.out w5 H.out.below
  go_wp2_with fail
  refine (write_st H.out xa xv Hok.out.1 Hok.out.2).mono ?_
  rintro e w6 ⟨rfl, h⟩
  rw [K2.out]
  clear x0 x1 x2 H; have H := Lib.hid h; clear h
  obtain ⟨x0, x1, x2⟩ := HC.out w6 H.out.below
  go_wp2_with fail
  refine (write_st H.out xa v2 Hok.out.1 Hv2.out).mono ?_
  rintro e w7 ⟨rfl, h⟩
  rw [HE.out.2, K2.out]
  clear x0 x1 x2 H; have H := Lib.hid h; clear h
  obtain ⟨x0, x1, x2⟩ := HC.out w7 H.out.below
  go_wp2_with fail
  refine (look_st H.out xa Hok.out.1).mono ?_
  rintro e w' ⟨rfl, rfl⟩
  rw [K3.out]
  clear x0 x1 x2
  obtain ⟨x0, x1, x2⟩ := HC.out w7 H.out.below
  go_wp2_with fail
  refine (was_st H.out xa Hok.out.1).mono ?_
  rintro e w' ⟨rfl, rfl⟩
  rw [HE.out.1]
  clear x0 x1 x2
  obtain ⟨x0, x1, x2⟩ := HC.out w7 H.out.below
  go_wp2_with fail
  refine (reads_st H.out).mono ?_
  rintro e w8 ⟨v, rfl, h⟩
  obtain ⟨ad, cap, rfl, -⟩ := h.row1.rows
  rw [HE.out.1]
  have h := h.drop [] (by simp)
  clear x0 x1 x2 H; have H := Lib.hid h; clear h
  obtain ⟨x0, x1, x2⟩ := HC.out w8 H.out.below
  go_wp2_with fail
  refine (writes_st H.out).mono ?_
  rintro e w9 ⟨v, rfl, h⟩
  obtain ⟨ad, cap, rfl, -⟩ := h.row1.rows
  rw [K5.out]
  have h := h.drop [] (by simp)
  clear x0 x1 x2 H; have H := Lib.hid h; clear h
  have HB2 := Lib.hid (HB.out.trans (H.out.below.mono HB.out.size)); clear H
  go_wp2
  go_ret
  exact ⟨by simp, HB2.out⟩

set_option maxRecDepth 100000 in
set_option maxHeartbeats 4000000 in
theorem lfirst_w3 (a0 : Option Addr) (c0 : Nat) (xs : List OpV) (x : OpV) (v2 : Int) (w : World) (hx : OpsIn w a0 xs) (hok : x.ok w) (hv2 : (Lit.int .u64 v2).wf = true) (hl0 : xs.length ≤ 1000) (hk : x.kind ≠ 0)
    (F : Lg) (hF : playL Lg.zero xs = F) (hI : LI F) (ho : ((F.write x.a x.v).write x.a v2).r = F.r) (he : errRead (F.write x.a x.v).w x.a = errRead F.w x.a)
    (hc : hasL F.w x.a = false ∧ errRead F.w x.a = 0 ∧ hasL ((F.write x.a x.v).write x.a v2).w x.a = true ∧ valL ((F.write x.a x.v).write x.a v2).w x.a = v2 ∧ ((F.write x.a x.v).write x.a v2).w.length = F.w.length + 1) :
    Calls Try.prog 6 #[.slice a0 xs.length c0, .agg x.cells.toArray, .int .u64 v2] w fun e w' => e = .returned (.bool true) ∧ Below w.heap.size w w' := by
  have hB : Below w.heap.size w (w.alloc (.cells x.cells.toArray 35)) := (Below.refl _ w).alloc (Nat.le_refl _) _
  have hX : Holds (w.alloc (.cells x.cells.toArray 35)) w.heap.size 35 x.cells := Holds.new w 35 x.cells
  have HX := Lib.hid (hx.below hB); clear hx
  have Hok := Lib.hid hok.1; clear hok
  have HL0 := Lib.hid hl0
  have d0 : decide ((1000 : Int) < (xs.length : Int)) = false := by simp; omega
  clear hl0
  have b0 : (x.kind == 0) = false := by simp [hk]
  obtain ⟨k1, k2, k3, k4, k5⟩ := hc
  have HE := Lib.hid (And.intro ho he); clear ho he
  have hlr := hI.lr
  have hlw := hI.lw
  clear hI
  have K1 := Lib.hid k1; clear k1
  have K2 := Lib.hid k2; clear k2
  have K3 := Lib.hid k3; clear k3
  have K5 := Lib.hid k5; clear k5
  have K4 := Lib.hid k4; clear k4
  have HF := Lib.hid hF; clear hF
  have Hv2 := Lib.hid hv2; clear hv2 hk
  have HB := Lib.hid hB; clear hB
  have HXb := Lib.hid hX; clear hX
  go_enter Try.func6, Try.ntmps6
  obtain ⟨xk, xa, xv, xad, xn, xc⟩ := x
  simp only [OpV.cells] at *
  go_wp2_with fail
  generalize w.alloc (.cells #[.int .i64 xk, .int .i64 xa, .int .u64 xv, .slice xad xn xc] 35) = Wb at *
  have HC : Hid (∀ V, Below Wb.heap.size Wb V → V.cell? ⟨w.heap.size, 0, none⟩ = some (.int .i64 xk) ∧ V.cell? ⟨w.heap.size, 1, none⟩ = some (.int .i64 xa) ∧ V.cell? ⟨w.heap.size, 2, none⟩ = some (.int .u64 xv)) := Lib.hid (fun V hV => ⟨(HXb.out.below hV).cell (i := 0) rfl, (HXb.out.below hV).cell (i := 1) rfl, (HXb.out.below hV).cell (i := 2) rfl⟩)
  clear HXb
  refine (alive_ok _).mono ?_
  rintro e w1 ⟨rfl, hb⟩
  have Hb := Lib.hid hb; clear hb
  go_wp2_with fail
  refine (new_st Hb.out).mono ?_
  rintro e w2 ⟨a, rfl, h⟩
  have H := Lib.hid h; clear h d0 Hb
  go_wp2_with fail
  refine (play_ok H.out a0 c0 xs HX.out HL0.out).mono ?_
  rintro e w3 ⟨rfl, h⟩
  rw [HF.out] at h
  clear H HX HL0; have H := Lib.hid h; clear h
  obtain ⟨x0, x1, x2⟩ := HC.out w3 H.out.below
  go_wp2_with fail
  refine (was_st H.out xa Hok.out.1).mono ?_
  rintro e w' ⟨rfl, rfl⟩
  clear x0 x1 x2
  obtain ⟨x0, x1, x2⟩ := HC.out w3 H.out.below
  go_wp2_with fail
  refine (look_st H.out xa Hok.out.1).mono ?_
  rintro e w' ⟨rfl, rfl⟩
  rw [K1.out]
  clear x0 x1 x2
  obtain ⟨x0, x1, x2⟩ := HC.out w3 H.out.below
  go_wp2_with fail
  refine (reads_st H.out).mono ?_
  rintro e w4 ⟨v, rfl, h⟩
  obtain ⟨ad, cap, rfl, -⟩ := h.row1.rows
  have h := h.drop [] (by simp)
  clear x0 x1 x2 H; have H := Lib.hid h; clear h
  obtain ⟨x0, x1, x2⟩ := HC.out w4 H.out.below
  go_wp2_with fail
  refine (writes_st H.out).mono ?_
  rintro e w5 ⟨v, rfl, h⟩
  obtain ⟨ad, cap, rfl, -⟩ := h.row1.rows
  have h := h.drop [] (by simp)
  clear x0 x1 x2 H; have H := Lib.hid h; clear h
  obtain ⟨x0, x1, x2⟩ := HC.out w5 H.out.below
  go_wp2_with fail
  refine (write_st H.out xa xv Hok.out.1 Hok.out.2).mono ?_
  rintro e w6 ⟨rfl, h⟩
  rw [K2.out]
  clear x0 x1 x2 H; have H := Lib.hid h; clear h
  obtain ⟨x0, x1, x2⟩ := HC.out w6 H.out.below
  go_wp2_with fail
  refine (write_st H.out xa v2 Hok.out.1 Hv2.out).mono ?_
  rintro e w7 ⟨rfl, h⟩
  rw [HE.out.2, K2.out]
  clear x0 x1 x2 H; have H := Lib.hid h; clear h
  obtain ⟨x0, x1, x2⟩ := HC.out w7 H.out.below
  go_wp2_with fail
  refine (look_st H.out xa Hok.out.1).mono ?_
  rintro e w' ⟨rfl, rfl⟩
  rw [K4.out, K3.out]
  clear x0 x1 x2
  obtain ⟨x0, x1, x2⟩ := HC.out w7 H.out.below
  go_wp2_with fail
  refine (was_st H.out xa Hok.out.1).mono ?_
  rintro e w' ⟨rfl, rfl⟩
  rw [HE.out.1]
  clear x0 x1 x2
  obtain ⟨x0, x1, x2⟩ := HC.out w7 H.out.below
  go_wp2_with fail
  refine (reads_st H.out).mono ?_
  rintro e w8 ⟨v, rfl, h⟩
  obtain ⟨ad, cap, rfl, -⟩ := h.row1.rows
  rw [HE.out.1]
  have h := h.drop [] (by simp)
  clear x0 x1 x2 H; have H := Lib.hid h; clear h
  obtain ⟨x0, x1, x2⟩ := HC.out w8 H.out.below
  go_wp2_with fail
  refine (writes_st H.out).mono ?_
  rintro e w9 ⟨v, rfl, h⟩
  obtain ⟨ad, cap, rfl, -⟩ := h.row1.rows
  rw [K5.out]
  have h := h.drop [] (by simp)
  clear x0 x1 x2 H; have H := Lib.hid h; clear h
  have HB2 := Lib.hid (HB.out.trans (H.out.below.mono HB.out.size)); clear H
  go_wp2
  go_ret
  exact ⟨by simp, HB2.out⟩

end Go.Proofs.Ytfngfphoefpndaa
