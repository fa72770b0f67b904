/- LogLong: the walk. Conditions: those stated in each theorem. -/
import Derived.Test.YtfngfphoefpndaaLogPl
namespace Go.Proofs.Ytfngfphoefpndaa
open Go.RowKit Go.BigFrame Go.Maps

theorem wf_i64 {i : Int} (h0 : 0 ≤ i) (h1 : i ≤ 100000000) : (Lit.int .i64 i).wf = true := by
  simp [Lit.wf, IntKind.min, IntKind.max, IntKind.signed, IntKind.bits]
  omega
theorem wf_u64 {z : Int} (h0 : 0 ≤ z) (h1 : z ≤ 100000000) : (Lit.int .u64 z).wf = true := by
  simp [Lit.wf, IntKind.min, IntKind.max, IntKind.signed, IntKind.bits]
  omega

set_option maxRecDepth 100000 in
set_option maxHeartbeats 1000000 in
theorem llong_out (i0 i1 : Int) (a2 : Option Addr) (l0 c2 : Nat) (w : World) (h : 200 < l0 ∨ i1 < 0 ∨ 300 < i1 ∨ i0 < 0 ∨ 1000000 < i0) :
    Calls Try.prog 4 #[.int .i64 i0, .int .i64 i1, .slice a2 l0 c2] w fun e w' => e = .returned (.bool true) ∧ Below w.heap.size w w' := by
  by_cases h0 : 200 < l0
  · have d0 : decide ((200 : Int) < (l0 : Int)) = true := by simp; omega
    go_enter Try.func4, Try.ntmps4
    go_wp2
    go_ret
    exact ⟨rfl, Below.refl _ _⟩
  have d0 : decide ((200 : Int) < (l0 : Int)) = false := by simp; omega
  by_cases h1 : i1 < 0
  · have d1 : decide (i1 < 0) = true := by simp; omega
    go_enter Try.func4, Try.ntmps4
    go_wp2
    go_ret
    exact ⟨rfl, Below.refl _ _⟩
  have d1 : decide (i1 < 0) = false := by simp; omega
  by_cases h2 : 300 < i1
  · have d2 : decide ((300 : Int) < i1) = true := by simp; omega
    go_enter Try.func4, Try.ntmps4
    go_wp2
    go_ret
    exact ⟨rfl, Below.refl _ _⟩
  have d2 : decide ((300 : Int) < i1) = false := by simp; omega
  by_cases h3 : i0 < 0
  · have d3 : decide (i0 < 0) = true := by simp; omega
    go_enter Try.func4, Try.ntmps4
    go_wp2
    go_ret
    exact ⟨rfl, Below.refl _ _⟩
  have d3 : decide (i0 < 0) = false := by simp; omega
  by_cases h4 : 1000000 < i0
  · have d4 : decide ((1000000 : Int) < i0) = true := by simp; omega
    go_enter Try.func4, Try.ntmps4
    go_wp2
    go_ret
    exact ⟨rfl, Below.refl _ _⟩
  have d4 : decide ((1000000 : Int) < i0) = false := by simp; omega
  omega

set_option maxRecDepth 100000 in
set_option maxHeartbeats 8000000 in
theorem llong_ok (i0 i1 : Int) (a2 : Option Addr) (c2 : Nat) (xs : List OpV) (w : World) (hx : OpsIn w a2 xs) (h0 : xs.length ≤ 200) (h1 : 0 ≤ i1) (h2 : i1 ≤ 300) (h3 : 0 ≤ i0) (h4 : i0 ≤ 1000000) :
    Calls Try.prog 4 #[.int .i64 i0, .int .i64 i1, .slice a2 xs.length c2] w fun e w' => e = .returned (.bool true) ∧ Below w.heap.size w w' := by
  have HX := Lib.hid hx; clear hx
  have d0 : decide ((200 : Int) < (xs.length : Int)) = false := by simp; omega
  have d1 : decide (i1 < 0) = false := by simp; omega
  have d2 : decide ((300 : Int) < i1) = false := by simp; omega
  have d3 : decide (i0 < 0) = false := by simp; omega
  have d4 : decide ((1000000 : Int) < i0) = false := by simp; omega
  obtain ⟨mn, rfl⟩ : ∃ mn : Nat, i1 = mn := ⟨i1.toNat, by omega⟩
  go_enter Try.func4, Try.ntmps4
  go_wp2_with fail
  refine (new_any w).mono ?_
  rintro e w1 ⟨a, rfl, h, hb⟩
  have HP := Lib.hid (start_p h hb)
  clear h hb d0 d1 d2 d3 d4
  go_wp2
  generalize (w1.alloc (.cells #[.slice none 0 0, .slice none 0 0] 28)).alloc (.cells #[.slice none 0 0, .slice none 0 0] 32) = w2 at *
  generalize w1.heap.size + 1 = t at *
  generalize w1.heap.size = q at *
  go_loopw [10] (fun i wr => ∃ (k : Nat) (F : Lg), k ≤ mn ∧ i = .int .i64 k ∧ PSt w wr none [] a q t F F 0) (fun i _ => mn - (intOf i).toNat)
  case atStart => exact ⟨0, Lg.zero, by omega, rfl, HP.out⟩
  case round =>
    clear HP
    obtain ⟨k, F, hk, rfl, hs⟩ := hrel
    by_cases hlt : k < mn
    · have hfit := hs.fit
      have HS := Lib.hid hs; clear hs
      have hP0 : 0 ≤ i0 * (k : Int) := Int.mul_nonneg h3 (by omega)
      have hP1 : i0 * (k : Int) ≤ 1000000 * 300 := Int.mul_le_mul h4 (by omega) (by omega) (by omega)
      have hv0 : 0 ≤ i0 * (k : Int) % 11 := by omega
      have hv1 : i0 * (k : Int) % 11 ≤ 10 := by omega
      go_wp2_with fail
      generalize i0 * (k : Int) % 11 = v at *
      have wv := wf_u64 hv0 (by omega)
      clear hP0 hP1 hv0 hv1
      refine (read_p HS.out (i0 + k) v (wf_i64 (by omega) (by omega)) wv).mono ?_
      rintro e V1 ⟨rfl, hs1⟩
      have HS1 := Lib.hid hs1; clear hs1
      go_wp2_with fail
      refine (rread_p HS1.out hfit.2.2.1 (i0 + k) v).mono ?_
      rintro e V2 ⟨rfl, hs2⟩
      have HS2 := Lib.hid hs2; clear hs2
      go_wp2_with fail
      refine (write_p HS2.out (i0 + 2 * k) v (wf_i64 (by omega) (by omega)) wv).mono ?_
      rintro e V3 ⟨rfl, hs3⟩
      have HS3 := Lib.hid hs3; clear hs3
      go_wp2_with fail
      refine (rwrite_p HS3.out hfit.2.2.2 (i0 + 2 * k) v).mono ?_
      rintro e V4 ⟨rfl, hs4⟩
      have HS4 := Lib.hid hs4; clear hs4
      go_wp2
      go_roundw
      case rel => exact ⟨k + 1, _, by omega, by go_num, HS4.out⟩
      case measure => simp [intOf]; omega
    · have : k = mn := by omega
      subst this
      have HP := Lib.hid hs; clear hs
      go_wp2
      go_loopw [12] (fun i wr => ∃ (k n : Nat) (f : Lg), k ≤ xs.length ∧ n ≤ k ∧ i = .int .i64 k ∧ PSt w wr none [] a q t f f n) (fun i _ => xs.length - (intOf i).toNat)
      case atStart => exact ⟨0, 0, F, by omega, by omega, rfl, HP.out⟩
      case round =>
        clear HP
        obtain ⟨k, n, f, hk, hnk, rfl, hs⟩ := hrel
        have HS := Lib.hid hs; clear hs
        by_cases hlt : k < xs.length
        · obtain ⟨x, hxk⟩ : ∃ x, xs[k]? = some x := ⟨xs[k], List.getElem?_eq_getElem hlt⟩
          obtain ⟨q0, c, rfl, hr, hok⟩ := ops_row HX.out HS.out.below hxk
          have c3 := hr 3 _ rfl
          have Hr := Lib.hid hr; clear hr
          by_cases h3 : 300 < x.nlen
          · have d3 : decide ((300 : Int) < (x.nlen : Int)) = true := by simp; omega
            have HB := Lib.hid HS.out.below
            go_wp2
            go_ret
            exact ⟨rfl, HB.out⟩
          · have d3 : decide ((300 : Int) < (x.nlen : Int)) = false := by simp; omega
            have HD := Lib.hid (do_any HS.out (by omega) x hok (by omega))
            clear hok hxk
            go_wp2_with (first | (refine wpList_load_mid rfl 35 (.tmp 94) rfl q0 (c + k * 4) rfl x.cells _ ?_ Try.underlying35 rfl Try.sizeOp ?_; exact Hr.out) | (go_at_call 11; refine HD.out.mono ?_; rintro e V ⟨rfl, m, hm, h1⟩; have HV := Lib.hid h1; clear h1))
            go_roundw
            case rel => exact ⟨k + 1, m, _, by omega, by omega, by go_num, HV.out⟩
            case measure => simp [intOf]; omega
        · have : k = xs.length := by omega
          subst this
          go_wp2
          have hD := HS.out.idle (below_drew1 (Below.refl _ wr))
          have HF := Lib.hid HS.out.fit.2.2
          have HB0 := Lib.hid (below_drew1 HS.out.below)
          obtain ⟨ad, cap, ad2, cap2, hh, hr, hr2, -⟩ := hD.lists
          have HK : Hid (∀ V, Below wr.drew.heap.size wr.drew V → V.cell? ⟨q, 0, none⟩ = some (.slice ad f.r.length cap) ∧ V.cell? ⟨q, 1, none⟩ = some (.slice ad2 f.w.length cap2)) := Lib.hid (fun V hV => ⟨(hh.below hV).cell (i := 0) rfl, (hh.below hV).cell (i := 1) rfl⟩)
          have HRd : Hid (∀ V, Below wr.drew.heap.size wr.drew V → Calls Try.prog 13 #[.pointer (some ⟨a, 0, none⟩)] V fun e V' => ∃ ad3 cap3, e = .returned (.slice ad3 f.r.length cap3) ∧ Below wr.drew.heap.size wr.drew V' ∧ RowsIn V' ad3 2 Pr.cells f.r) := Lib.hid (fun V hV => (reads_p (hD.idle hV)).mono (fun e V' ⟨v, h1, h2, h3⟩ => by
            obtain ⟨ad3, cap3, rfl, h4, -⟩ := h2.rows
            exact ⟨ad3, cap3, h1, hV.trans (h3.mono hV.size), h4⟩))
          have HWr : Hid (∀ V, Below wr.drew.heap.size wr.drew V → Calls Try.prog 14 #[.pointer (some ⟨a, 0, none⟩)] V fun e V' => ∃ ad3 cap3, e = .returned (.slice ad3 f.w.length cap3) ∧ Below wr.drew.heap.size wr.drew V' ∧ RowsIn V' ad3 2 Pr.cells f.w) := Lib.hid (fun V hV => (writes_p (hD.idle hV)).mono (fun e V' ⟨v, h1, h2, h3⟩ => by
            obtain ⟨ad3, cap3, rfl, h4, -⟩ := h2.rows
            exact ⟨ad3, cap3, h1, hV.trans (h3.mono hV.size), h4⟩))
          have HSr : Hid (∀ V ad3 cap3, Below wr.drew.heap.size wr.drew V → RowsIn V ad3 2 Pr.cells f.r → Calls Try.prog 12 #[.slice ad3 f.r.length cap3, .slice ad f.r.length cap] V fun e V' => e = .returned (.bool true) ∧ Below wr.drew.heap.size wr.drew V') := Lib.hid (fun V ad3 cap3 hV h3 => (same_yes V ad3 ad cap3 cap f.r h3 (hr.below hV) (by have := HF.out; omega)).mono (fun e V' ⟨h1, n2, h2⟩ => ⟨h1, h2 ▸ below_drewN hV n2⟩))
          have HSw : Hid (∀ V ad3 cap3, Below wr.drew.heap.size wr.drew V → RowsIn V ad3 2 Pr.cells f.w → Calls Try.prog 12 #[.slice ad3 f.w.length cap3, .slice ad2 f.w.length cap2] V fun e V' => e = .returned (.bool true) ∧ Below wr.drew.heap.size wr.drew V') := Lib.hid (fun V ad3 cap3 hV h3 => (same_yes V ad3 ad2 cap3 cap2 f.w h3 (hr2.below hV) (by have := HF.out; omega)).mono (fun e V' ⟨h1, n2, h2⟩ => ⟨h1, h2 ▸ below_drewN hV n2⟩))
          have HSt : Hid (∀ V, Below wr.drew.heap.size wr.drew V → Calls Try.prog 15 #[.pointer (some ⟨t, 0, none⟩)] V fun e V' => e = .returned (.bool true) ∧ Below wr.drew.heap.size wr.drew V') := Lib.hid (fun V hV => (still_p (hD.idle hV) (by omega)).mono (fun e V' ⟨h1, h2⟩ => ⟨h1, hV.trans (h2.mono hV.size)⟩))
          have hB : Below wr.drew.heap.size wr.drew wr.drew := Below.refl _ _
          clear hD hh hr hr2 HS
          go_region_held3 (fun V => V.cell? ⟨q, 0, none⟩ = some (.slice ad f.r.length cap) ∧ V.cell? ⟨q, 1, none⟩ = some (.slice ad2 f.w.length cap2)) (first | with_reducible exact HK.out _ hB) (first | (go_at_call 13; (with_reducible refine (HRd.out _ hB).mono ?_); rintro e V1 ⟨ad3, cap3, rfl, hB, hr3⟩) | (go_at_call 14; (with_reducible refine (HWr.out _ hB).mono ?_); rintro e V3 ⟨ad4, cap4, rfl, hB, hr4⟩) | (go_at_call 12; (with_reducible refine (HSw.out _ _ _ hB hr4).mono ?_); rintro e V4 ⟨rfl, hB⟩) | (go_at_call 12; (with_reducible refine (HSr.out _ _ _ hB hr3).mono ?_); rintro e V2 ⟨rfl, hB⟩) | (go_at_call 15; (with_reducible refine (HSt.out _ hB).mono ?_); rintro e V5 ⟨rfl, hB⟩))
          all_goals
            have HE := Lib.hid (HB0.out.trans (hB.mono HB0.out.size))
            clear hB
            go_wp2
            go_ret
            exact ⟨by simp, HE.out⟩

theorem llong_any (i0 i1 : Int) (a2 : Option Addr) (c2 : Nat) (xs : List OpV) (w : World) (hx : OpsIn w a2 xs) :
    Calls Try.prog 4 #[.int .i64 i0, .int .i64 i1, .slice a2 xs.length c2] w fun e w' => e = .returned (.bool true) ∧ Below w.heap.size w w' := by
  by_cases h : 200 < xs.length ∨ i1 < 0 ∨ 300 < i1 ∨ i0 < 0 ∨ 1000000 < i0
  · exact llong_out i0 i1 a2 xs.length c2 w h
  · exact llong_ok i0 i1 a2 c2 xs w hx (by omega) (by omega) (by omega) (by omega) (by omega)

end Go.Proofs.Ytfngfphoefpndaa
