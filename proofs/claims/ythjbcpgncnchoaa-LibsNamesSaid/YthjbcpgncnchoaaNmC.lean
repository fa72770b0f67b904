/- The chapter's examples: the law's walk. Conditions: none. -/
import Derived.Test.YthjbcpgncnchoaaNmD
import Derived.Deep.CutBlock
import Derived.Deep.QuietTactic
namespace Go.Proofs.Ythjbcpgncnchoaa
open Go.RowKit Go.BigFrame

theorem en_24 : En 24 := fun _ _ => by kernel_rfl
theorem en_28 : En 28 := fun _ _ => by kernel_rfl
set_option maxRecDepth 100000 in
set_option maxHeartbeats 8000000 in
theorem lnames_any (w : World) : Calls Try.prog 5 #[] w fun e w' => e = .returned (.bool true) ∧ Below w.heap.size w w' := by
  have hmk := make504
  have hmf := hmf_any
  have en24 := en_24
  have en28 := en_28
  have HAl := Lib.hid (fun W => alive_any W)
  have HP7 := Lib.hid (fun W => (QueuePush_any 0 2 (by unfold I64; omega) (by unfold I64; omega) 7 (by omega) W).mono fun e w' h => LibO.yes h mays.1)
  have HP8 := Lib.hid (fun W => (QueuePush_any 0 2 (by unfold I64; omega) (by unfold I64; omega) 8 (by omega) W).mono fun e w' h => LibO.yes h mays.1)
  have HP9 := Lib.hid (fun W => (QueuePush_any 0 2 (by unfold I64; omega) (by unfold I64; omega) 9 (by omega) W).mono fun e w' h => LibO.yes h mays.1)
  have HPP := Lib.hid (fun W => (QueuePop_any 0 2 (by unfold I64; omega) (by unfold I64; omega) W).mono fun e w' h => LibO.yes h mays.1)
  have HHC := Lib.hid (fun W => (HashCut_any 0 1 1 (by unfold I64; omega) (by unfold I64; omega) 5 (by omega) W).mono fun e w' h => LibO.yes h mays.2.1)
  have HHG := Lib.hid (fun W => (HashGet_any 0 1 1 (by unfold I64; omega) (by unfold I64; omega) 5 (by omega) W).mono fun e w' h => LibO.yes h mays.2.1)
  have HTL := Lib.hid (fun W => (TreeLeast_any 0 3 (by unfold I64; omega) (by unfold I64; omega) W).mono fun e w' h => LibO.yes h mays.2.2.1)
  have HTC := Lib.hid (fun W => (TreeCut_any 0 3 (by unfold I64; omega) (by unfold I64; omega) 3 (by omega) W).mono fun e w' h => LibO.yes h mays.2.2.1)
  have HTG := Lib.hid (fun W => (TreeGet_any 0 3 (by unfold I64; omega) (by unfold I64; omega) 18446744073709551615 (by omega) W).mono fun e w' h => LibO.yes h mays.2.2.1)
  have HE1 := Lib.hid (fun W => (QueuePush_any 501 2 (by unfold I64; omega) (by unfold I64; omega) 0 (by omega) W).mono fun e w' h => LibO.no h mays.2.2.2.1)
  have HE2 := Lib.hid (fun W => (QueuePush_any 500 2 (by unfold I64; omega) (by unfold I64; omega) 0 (by omega) W).mono fun e w' h => LibO.yes h mays.2.2.2.2.1)
  have HT1 : Hid (∀ W, Calls Try.prog 12 #[.int .i64 125] W fun e w' => e = .returned (.int .i64 503) ∧ Below W.heap.size W w') := Lib.hid (fun W => by have h := TreeSize_any 125 (by unfold I64; omega) W; rwa [mays.2.2.2.2.2.2.1] at h)
  have HT2 : Hid (∀ W, Calls Try.prog 12 #[.int .i64 126] W fun e w' => e = .returned (.int .i64 0) ∧ Below W.heap.size W w') := Lib.hid (fun W => by have h := TreeSize_any 126 (by unfold I64; omega) W; rwa [mays.2.2.2.2.2.2.2] at h)
  have HE3 := Lib.hid (fun W => (HashGet_any 0 3 1 (by unfold I64; omega) (by unfold I64; omega) 0 (by omega) W).mono fun e w' h => LibO.no h mays.2.2.2.2.2.1)
  have HM0 := Lib.hid (show Holds (w.alloc (.cells (memC mem0).toArray 24)) w.heap.size 24 (memC mem0) from Holds.new w _ _)
  have HB0 := Lib.hid ((Below.refl _ w).alloc (Nat.le_refl _) (.cells (memC mem0).toArray 24))
  have e1 := eq_three 1 0 0 1 0 0
  have e2 := eq_three 0 0 0 1 0 0
  have e3 := eq_three 0 0 0 0 0 0
  have e4 := eq_three 1 7 0 1 7 0
  have e5 := eq_three 1 8 0 1 8 0
  have e6 := eq_three 2 6 0 2 6 0
  have e7 := eq_three 1 3 4 1 3 4
  have e8 := eq_three 1 4 0 1 4 0
  have e9 := eq_three 1 5 1 1 5 1
  have e10 := eq_three 1 2 0 1 2 0
  simp only [beq_self_eq_true, Bool.and_self] at e1 e3 e4 e5 e6 e7 e8 e9 e10
  simp only [show ((0 : Int) == 1) = false from rfl, Bool.false_and] at e2
  go_enter Try.func5, Try.ntmps5
  go_wp2_with (first | (go_at_call 20; (with_reducible refine (HAl.out _).mono ?_); rintro e V0 ⟨rfl, hb⟩; have HM1 := Lib.hid (HM0.out.below hb); have HB1 := Lib.hid (HB0.out.trans (hb.mono HB0.out.size)); clear hb))
  have HQ0 : Qs w (V0.alloc (.cells #[.int .u64 7, .int .u64 8, .int .u64 9] 24)) V0.heap.size mem0 := ⟨HM1.out.alloc _, Holds.new V0 24 [.int .u64 7, .int .u64 8, .int .u64 9], HM1.out.lt, HB1.out.alloc HB1.out.size _⟩
  obtain ⟨ab, hab⟩ : ∃ ab, V0.heap.size = ab := ⟨_, rfl⟩
  rw [hab] at HQ0
  simp only [hab]
  have HQi := Lib.hid HQ0; clear HQ0
  clear HM1 HM0 HB0 HB1
  go_loopw [2, 35] (fun u2 u35 wr => u2 = .bool true ∧ ((u35 = .int .i64 0 ∧ Qs w wr ab mem0) ∨ (u35 = .int .i64 1 ∧ Qs w wr ab mq1) ∨ (u35 = .int .i64 2 ∧ Qs w wr ab mq2) ∨ (u35 = .int .i64 3 ∧ Qs w wr ab mq3))) (fun _ i _ => 3 - (intOf i).toNat)
  case atStart => exact ⟨rfl, .inl ⟨rfl, HQi.out⟩⟩
  case round =>
    clear HQi
    obtain ⟨rfl, hq⟩ := hrel
    rcases hq with hq | hq | hq | hq
    · obtain ⟨rfl, hq⟩ := hq
      have HQ := Lib.hid hq
      have a0 := hq.a.cell (i := 0) rfl
      have a1 := hq.a.cell (i := 1) rfl
      have a2 := hq.a.cell (i := 2) rfl
      clear hq
      go_wp2_with (first | (go_at_call 21; (with_reducible refine (HP7.out _).mono ?_); rintro e V ⟨ad, cap, rfl, hb, hrow⟩; have h := HQ.out.idle hb; have HA := Lib.hid (ans_run rq1 mem0_ok h.m hrow HQ.out.m.lt); have HQ := Lib.hid h; clear h hb hrow) | (go_at_call 22; (with_reducible refine HA.out.mono ?_); rintro e V2 ⟨rfl, hm2, ht2⟩; have HQ := Lib.hid (HQ.out.ans hm2 ht2); clear hm2 ht2))
      go_roundw
      case rel => exact ⟨rfl, .inr (.inl ⟨rfl, HQ.out.alloc _⟩)⟩
      case measure => simp [intOf]
    · obtain ⟨rfl, hq⟩ := hq
      have HQ := Lib.hid hq
      have a0 := hq.a.cell (i := 0) rfl
      have a1 := hq.a.cell (i := 1) rfl
      have a2 := hq.a.cell (i := 2) rfl
      clear hq
      go_wp2_with (first | (go_at_call 21; (with_reducible refine (HP8.out _).mono ?_); rintro e V ⟨ad, cap, rfl, hb, hrow⟩; have h := HQ.out.idle hb; have HA := Lib.hid (ans_run rq2 rq1.ok h.m hrow HQ.out.m.lt); have HQ := Lib.hid h; clear h hb hrow) | (go_at_call 22; (with_reducible refine HA.out.mono ?_); rintro e V2 ⟨rfl, hm2, ht2⟩; have HQ := Lib.hid (HQ.out.ans hm2 ht2); clear hm2 ht2))
      go_roundw
      case rel => exact ⟨rfl, .inr (.inr (.inl ⟨rfl, HQ.out.alloc _⟩))⟩
      case measure => simp [intOf]
    · obtain ⟨rfl, hq⟩ := hq
      have HQ := Lib.hid hq
      have a0 := hq.a.cell (i := 0) rfl
      have a1 := hq.a.cell (i := 1) rfl
      have a2 := hq.a.cell (i := 2) rfl
      clear hq
      go_wp2_with (first | (go_at_call 21; (with_reducible refine (HP9.out _).mono ?_); rintro e V ⟨ad, cap, rfl, hb, hrow⟩; have h := HQ.out.idle hb; have HA := Lib.hid (ans_run rq3 rq2.ok h.m hrow HQ.out.m.lt); have HQ := Lib.hid h; clear h hb hrow) | (go_at_call 22; (with_reducible refine HA.out.mono ?_); rintro e V2 ⟨rfl, hm2, ht2⟩; have HQ := Lib.hid (HQ.out.ans hm2 ht2); clear hm2 ht2))
      go_roundw
      case rel => exact ⟨rfl, .inr (.inr (.inr ⟨rfl, HQ.out.alloc _⟩))⟩
      case measure => simp [intOf]
    · obtain ⟨rfl, hq⟩ := hq
      have HQ := Lib.hid hq; clear hq
      clear HP7 HP8 HP9
      go_upto_region 12 with (first | (go_at_call 23; (with_reducible refine (HPP.out _).mono ?_); rintro e V ⟨ad1, cap1, rfl, hb, hrow⟩; have HN1 := Lib.hid HQ.out.m.lt; have HQ := Lib.hid (HQ.out.idle hb); have HR1 := Lib.hid hrow; clear hb hrow) | (go_at_call 22; (with_reducible refine (ans_run rq4 rq3.ok HQ.out.m HR1.out HN1.out).mono ?_); rintro e V2 ⟨rfl, hm2, ht2⟩; have HR1 := Lib.hid (owns_tch HR1.out HN1.out ht2); have HQ := Lib.hid (HQ.out.ans hm2 ht2); clear hm2 ht2) | (go_at_call 22; (with_reducible refine (ans_run rq5 rq4.ok HQ.out.m HR1.out HN1.out).mono ?_); rintro e V2 ⟨rfl, hm2, ht2⟩; have HR1 := Lib.hid (owns_tch HR1.out HN1.out ht2); have HQ := Lib.hid (HQ.out.ans hm2 ht2); clear hm2 ht2) | (go_at_call 22; (with_reducible refine (ans_run rq6 rq5.ok HQ.out.m HR1.out HN1.out).mono ?_); rintro e V2 ⟨rfl, hm2, ht2⟩; have HR1 := Lib.hid (owns_tch HR1.out HN1.out ht2); have HQ := Lib.hid (HQ.out.ans hm2 ht2); clear hm2 ht2))
      go_upto_region 14 with (fail)
      have hs0 := Hs.new HQ.out.below
      clear HQ HR1 HN1 HPP
      generalize V2.heap.size + 1 = bx1 at hs0 ⊢
      generalize V2.heap.size = mh1 at hs0 ⊢
      generalize ((V2.alloc (.cells (memC mem0).toArray 24)).alloc (.cells #[.slice (some ⟨mh1, 0, none⟩) 504 504] 45)) = X1 at hs0 ⊢
      have kx := hs0.x.cell (i := 0) rfl
      have HS := Lib.hid hs0; clear hs0
      go_wp2_with (first | (go_at_call 26; (with_reducible refine (HHC.out _).mono ?_); rintro e V ⟨ad2, cap2, rfl, hb, hrow⟩; have HN2 := Lib.hid HS.out.m.lt; have HS := Lib.hid (HS.out.idle hb); have HR2 := Lib.hid hrow; clear hb hrow; (try clear kx); have kx := HS.out.x.cell (i := 0) rfl) | (go_at_call 27; (with_reducible refine (HHG.out _).mono ?_); rintro e V ⟨ad3, cap3, rfl, hb, hrow⟩; have HN3 := Lib.hid HS.out.m.lt; have HS := Lib.hid (HS.out.idle hb); have HR2 := Lib.hid (owns_below HR2.out hb); have HR3 := Lib.hid hrow; clear hb hrow; (try clear kx); have kx := HS.out.x.cell (i := 0) rfl) | (go_at_call 24; (with_reducible refine (putC_any (k := 5) (v := 6) (by omega) (by omega) rh1 mem0_ok HS.out.m HS.out.x).mono ?_); rintro e V2 ⟨rfl, hm2, ht2⟩; have HR2 := Lib.hid (owns_tch HR2.out HN2.out ht2); have HR3 := Lib.hid (owns_tch HR3.out HN3.out ht2); have HS := Lib.hid (HS.out.ans hm2 ht2); clear hm2 ht2; (try clear kx); have kx := HS.out.x.cell (i := 0) rfl) | (go_at_call 24; (with_reducible refine (putC_any (k := 5) (v := 7) (by omega) (by omega) rh2 rh1.ok HS.out.m HS.out.x).mono ?_); rintro e V2 ⟨rfl, hm2, ht2⟩; have HR2 := Lib.hid (owns_tch HR2.out HN2.out ht2); have HR3 := Lib.hid (owns_tch HR3.out HN3.out ht2); have HS := Lib.hid (HS.out.ans hm2 ht2); clear hm2 ht2; (try clear kx); have kx := HS.out.x.cell (i := 0) rfl) | (go_at_call 24; (with_reducible refine (putC_any (k := 6) (v := 1) (by omega) (by omega) rh3 rh2.ok HS.out.m HS.out.x).mono ?_); rintro e V2 ⟨rfl, hm2, ht2⟩; have HR2 := Lib.hid (owns_tch HR2.out HN2.out ht2); have HR3 := Lib.hid (owns_tch HR3.out HN3.out ht2); have HS := Lib.hid (HS.out.ans hm2 ht2); clear hm2 ht2; (try clear kx); have kx := HS.out.x.cell (i := 0) rfl))
      (with_reducible refine (ans_run rh4 rh3.ok HS.out.m HR2.out HN2.out).mono ?_)
      rintro e V2 ⟨rfl, hm2, ht2⟩
      have HR2 := Lib.hid (owns_tch HR2.out HN2.out ht2); have HR3 := Lib.hid (owns_tch HR3.out HN3.out ht2); have HS := Lib.hid (HS.out.ans hm2 ht2); clear hm2 ht2; (try clear kx); have kx := HS.out.x.cell (i := 0) rfl
      go_wp2_with (fail)
      (with_reducible refine (ans_run rh5 rh4.ok HS.out.m HR3.out HN3.out).mono ?_)
      rintro e V2 ⟨rfl, hm2, ht2⟩
      have HR2 := Lib.hid (owns_tch HR2.out HN2.out ht2); have HR3 := Lib.hid (owns_tch HR3.out HN3.out ht2); have HS := Lib.hid (HS.out.ans hm2 ht2); clear hm2 ht2; (try clear kx); have kx := HS.out.x.cell (i := 0) rfl
      go_upto_region 17 with (fail)
      go_upto_region 19 with (fail)
      have hs0 := Hs.new HS.out.below
      clear HS HR2 HN2 HR3 HN3 HHC HHG kx
      generalize V2.heap.size + 1 = bx2 at hs0 ⊢
      generalize V2.heap.size = mh2 at hs0 ⊢
      generalize ((V2.alloc (.cells (memC mem0).toArray 24)).alloc (.cells #[.slice (some ⟨mh2, 0, none⟩) 504 504] 45)) = X2 at hs0 ⊢
      have kx := hs0.x.cell (i := 0) rfl
      have HS := Lib.hid hs0; clear hs0
      go_wp2_with (first | (go_at_call 30; (with_reducible refine (HTL.out _).mono ?_); rintro e V ⟨ad4, cap4, rfl, hb, hrow⟩; have HN4 := Lib.hid HS.out.m.lt; have HS := Lib.hid (HS.out.idle hb); have HR4 := Lib.hid hrow; clear hb hrow; (try clear kx); have kx := HS.out.x.cell (i := 0) rfl) | (go_at_call 31; (with_reducible refine (HTC.out _).mono ?_); rintro e V ⟨ad5, cap5, rfl, hb, hrow⟩; have HN5 := Lib.hid HS.out.m.lt; have HS := Lib.hid (HS.out.idle hb); have HR4 := Lib.hid (owns_below HR4.out hb); have HR5 := Lib.hid hrow; clear hb hrow; (try clear kx); have kx := HS.out.x.cell (i := 0) rfl) | (go_at_call 32; (with_reducible refine (HTG.out _).mono ?_); rintro e V ⟨ad6, cap6, rfl, hb, hrow⟩; have HN6 := Lib.hid HS.out.m.lt; have HS := Lib.hid (HS.out.idle hb); have HR4 := Lib.hid (owns_below HR4.out hb); have HR5 := Lib.hid (owns_below HR5.out hb); have HR6 := Lib.hid hrow; clear hb hrow; (try clear kx); have kx := HS.out.x.cell (i := 0) rfl))
      (with_reducible refine (tieC_any (k := 5) (v := 1) (by omega) (by omega) rt1 mem0_ok HS.out.m HS.out.x).mono ?_)
      rintro e V2 ⟨rfl, hm2, ht2⟩
      have HR4 := Lib.hid (owns_tch HR4.out HN4.out ht2); have HR5 := Lib.hid (owns_tch HR5.out HN5.out ht2); have HR6 := Lib.hid (owns_tch HR6.out HN6.out ht2); have HS := Lib.hid (HS.out.ans hm2 ht2); clear hm2 ht2; (try clear kx); have kx := HS.out.x.cell (i := 0) rfl
      go_wp2_with (fail)
      (with_reducible refine (tieC_any (k := 18446744073709551615) (v := 2) (by omega) (by omega) rt2 rt1.ok HS.out.m HS.out.x).mono ?_)
      rintro e V2 ⟨rfl, hm2, ht2⟩
      have HR4 := Lib.hid (owns_tch HR4.out HN4.out ht2); have HR5 := Lib.hid (owns_tch HR5.out HN5.out ht2); have HR6 := Lib.hid (owns_tch HR6.out HN6.out ht2); have HS := Lib.hid (HS.out.ans hm2 ht2); clear hm2 ht2; (try clear kx); have kx := HS.out.x.cell (i := 0) rfl
      go_wp2_with (fail)
      (with_reducible refine (tieC_any (k := 3) (v := 4) (by omega) (by omega) rt3 rt2.ok HS.out.m HS.out.x).mono ?_)
      rintro e V2 ⟨rfl, hm2, ht2⟩
      have HR4 := Lib.hid (owns_tch HR4.out HN4.out ht2); have HR5 := Lib.hid (owns_tch HR5.out HN5.out ht2); have HR6 := Lib.hid (owns_tch HR6.out HN6.out ht2); have HS := Lib.hid (HS.out.ans hm2 ht2); clear hm2 ht2; (try clear kx); have kx := HS.out.x.cell (i := 0) rfl
      go_wp2_with (fail)
      (with_reducible refine (ans_run rt4 rt3.ok HS.out.m HR4.out HN4.out).mono ?_)
      rintro e V2 ⟨rfl, hm2, ht2⟩
      have HR4 := Lib.hid (owns_tch HR4.out HN4.out ht2); have HR5 := Lib.hid (owns_tch HR5.out HN5.out ht2); have HR6 := Lib.hid (owns_tch HR6.out HN6.out ht2); have HS := Lib.hid (HS.out.ans hm2 ht2); clear hm2 ht2; (try clear kx); have kx := HS.out.x.cell (i := 0) rfl
      go_wp2_with (fail)
      (with_reducible refine (ans_run rt5 rt4.ok HS.out.m HR5.out HN5.out).mono ?_)
      rintro e V2 ⟨rfl, hm2, ht2⟩
      have HR4 := Lib.hid (owns_tch HR4.out HN4.out ht2); have HR5 := Lib.hid (owns_tch HR5.out HN5.out ht2); have HR6 := Lib.hid (owns_tch HR6.out HN6.out ht2); have HS := Lib.hid (HS.out.ans hm2 ht2); clear hm2 ht2; (try clear kx); have kx := HS.out.x.cell (i := 0) rfl
      go_wp2_with (fail)
      (with_reducible refine (ans_run rt6 rt5.ok HS.out.m HR4.out HN4.out).mono ?_)
      rintro e V2 ⟨rfl, hm2, ht2⟩
      have HR4 := Lib.hid (owns_tch HR4.out HN4.out ht2); have HR5 := Lib.hid (owns_tch HR5.out HN5.out ht2); have HR6 := Lib.hid (owns_tch HR6.out HN6.out ht2); have HS := Lib.hid (HS.out.ans hm2 ht2); clear hm2 ht2; (try clear kx); have kx := HS.out.x.cell (i := 0) rfl
      go_wp2_with (fail)
      (with_reducible refine (ans_run rt7 rt6.ok HS.out.m HR6.out HN6.out).mono ?_)
      rintro e V2 ⟨rfl, hm2, ht2⟩
      have HR4 := Lib.hid (owns_tch HR4.out HN4.out ht2); have HR5 := Lib.hid (owns_tch HR5.out HN5.out ht2); have HR6 := Lib.hid (owns_tch HR6.out HN6.out ht2); have HS := Lib.hid (HS.out.ans hm2 ht2); clear hm2 ht2; (try clear kx); have kx := HS.out.x.cell (i := 0) rfl
      go_upto_region 23 with (fail)
      clear HR4 HN4 HR5 HN5 HR6 HN6 HTL HTC HTG
      go_upto_region 26 with (first | (go_at_call 21; (with_reducible refine (HE1.out _).mono ?_); rintro e V ⟨rfl, hb⟩; have HS := Lib.hid (HS.out.idle hb); clear hb) | (go_at_call 21; (with_reducible refine (HE2.out _).mono ?_); rintro e V ⟨ad7, cap7, rfl, hb, hrow⟩; have HS := Lib.hid (HS.out.idle hb); clear hb hrow) | (go_at_call 27; (with_reducible refine (HE3.out _).mono ?_); rintro e V ⟨rfl, hb⟩; have HS := Lib.hid (HS.out.idle hb); clear hb))
      clear kx
      have hx1 : Holds (((V.alloc (.cells #[.int .i64 13, .int .i64 0, .int .i64 0, .int .i64 0, .int .i64 0, .int .i64 1, .int .i64 0, .int .i64 0, .int .i64 0, .int .i64 0] 40)).alloc (.cells #[.int .i64 13, .int .i64 0, .int .i64 0, .int .i64 0, .int .i64 1] 40)).alloc (.cells #[.slice (some ⟨V.heap.size, 0, none⟩) 2 2, .slice (some ⟨V.heap.size + 1, 0, none⟩) 1 1] 32)) V.heap.size 40 [.int .i64 13, .int .i64 0, .int .i64 0, .int .i64 0, .int .i64 0, .int .i64 1, .int .i64 0, .int .i64 0, .int .i64 0, .int .i64 0] := ((Holds.new V 40 [.int .i64 13, .int .i64 0, .int .i64 0, .int .i64 0, .int .i64 0, .int .i64 1, .int .i64 0, .int .i64 0, .int .i64 0, .int .i64 0]).alloc _).alloc _
      have hx2 : Holds (((V.alloc (.cells #[.int .i64 13, .int .i64 0, .int .i64 0, .int .i64 0, .int .i64 0, .int .i64 1, .int .i64 0, .int .i64 0, .int .i64 0, .int .i64 0] 40)).alloc (.cells #[.int .i64 13, .int .i64 0, .int .i64 0, .int .i64 0, .int .i64 1] 40)).alloc (.cells #[.slice (some ⟨V.heap.size, 0, none⟩) 2 2, .slice (some ⟨V.heap.size + 1, 0, none⟩) 1 1] 32)) (V.heap.size + 1) 40 [.int .i64 13, .int .i64 0, .int .i64 0, .int .i64 0, .int .i64 1] := by
        have h := (Holds.new (V.alloc (.cells #[.int .i64 13, .int .i64 0, .int .i64 0, .int .i64 0, .int .i64 0, .int .i64 1, .int .i64 0, .int .i64 0, .int .i64 0, .int .i64 0] 40)) 40 [.int .i64 13, .int .i64 0, .int .i64 0, .int .i64 0, .int .i64 1]).alloc (.cells #[.slice (some ⟨V.heap.size, 0, none⟩) 2 2, .slice (some ⟨V.heap.size + 1, 0, none⟩) 1 1] 32)
        simpa using h
      have hx3 : Holds (((V.alloc (.cells #[.int .i64 13, .int .i64 0, .int .i64 0, .int .i64 0, .int .i64 0, .int .i64 1, .int .i64 0, .int .i64 0, .int .i64 0, .int .i64 0] 40)).alloc (.cells #[.int .i64 13, .int .i64 0, .int .i64 0, .int .i64 0, .int .i64 1] 40)).alloc (.cells #[.slice (some ⟨V.heap.size, 0, none⟩) 2 2, .slice (some ⟨V.heap.size + 1, 0, none⟩) 1 1] 32)) (V.heap.size + 2) 32 [.slice (some ⟨V.heap.size, 0, none⟩) 2 2, .slice (some ⟨V.heap.size + 1, 0, none⟩) 1 1] := by
        have h := Holds.new ((V.alloc (.cells #[.int .i64 13, .int .i64 0, .int .i64 0, .int .i64 0, .int .i64 0, .int .i64 1, .int .i64 0, .int .i64 0, .int .i64 0, .int .i64 0] 40)).alloc (.cells #[.int .i64 13, .int .i64 0, .int .i64 0, .int .i64 0, .int .i64 1] 40)) 32 [.slice (some ⟨V.heap.size, 0, none⟩) 2 2, .slice (some ⟨V.heap.size + 1, 0, none⟩) 1 1]
        simpa using h
      have HPI := Lib.hid (jn_parts hx1 hx2 hx3); clear hx1 hx2 hx3
      have hbl : Below w.heap.size w (((V.alloc (.cells #[.int .i64 13, .int .i64 0, .int .i64 0, .int .i64 0, .int .i64 0, .int .i64 1, .int .i64 0, .int .i64 0, .int .i64 0, .int .i64 0] 40)).alloc (.cells #[.int .i64 13, .int .i64 0, .int .i64 0, .int .i64 0, .int .i64 1] 40)).alloc (.cells #[.slice (some ⟨V.heap.size, 0, none⟩) 2 2, .slice (some ⟨V.heap.size + 1, 0, none⟩) 1 1] 32)) := ((HS.out.below.alloc HS.out.below.size _).alloc (HS.out.below.alloc HS.out.below.size _).size _).alloc ((HS.out.below.alloc HS.out.below.size _).alloc (HS.out.below.alloc HS.out.below.size _).size _).size _
      have HBL := Lib.hid hbl; clear hbl HS
      go_wp2_with (fail)
      refine (join_any _ 2 jnL _ HPI.out (by decide) jn_small (joinP_take jn_small)).mono ?_
      rintro e V9 ⟨v, rfl, hrow, hb⟩
      have HB9 := Lib.hid (HBL.out.trans (hb.mono HBL.out.size)); clear hb HBL HPI
      rw [jn_out] at hrow
      change V9.ownsRow _ _ 5 v 3 _ at hrow
      obtain ⟨ad9, cap9, rfl⟩ := row_form hrow
      rcases owns_form hrow with ⟨_, h0, _⟩ | ⟨g9, c9, e9, _⟩
      · cases h0
      simp only [Value.slice.injEq] at e9
      obtain ⟨rfl, _, rfl⟩ := e9
      have HR := Lib.hid hrow; clear hrow
      go_wp2_with (fail)
      refine (HT1.out _).mono ?_
      rintro e Va ⟨rfl, hb⟩
      have HR := Lib.hid (owns_below HR.out hb)
      have HB9 := Lib.hid (HB9.out.trans (hb.mono HB9.out.size)); clear hb
      go_wp2_with (fail)
      refine (HT2.out _).mono ?_
      rintro e Vb ⟨rfl, hb⟩
      have HR := Lib.hid (owns_below HR.out hb)
      have HB9 := Lib.hid (HB9.out.trans (hb.mono HB9.out.size)); clear hb
      have k4 := (owns_cell HR.out (g := g9) rfl (j := 4) (u := .int .i64 0) rfl).1
      have k14 := (owns_cell HR.out (g := g9) rfl (j := 14) (u := .int .i64 3) rfl).1
      go_wp2_with (fail)
      refine (join_any none 0 [] _ (fun k l h => by simp at h) (by decide) (by simp) (by simp [joinP])).mono ?_
      rintro e Vc ⟨v, rfl, hrow, hb⟩
      have HB9 := Lib.hid (HB9.out.trans (hb.mono HB9.out.size)); clear hb
      change Vc.ownsRow _ _ 5 v 0 _ at hrow
      obtain ⟨adz, capz, rfl⟩ := row_form hrow
      go_wp2_with (fail)
      exact bodyPost_ret (results_tmp rfl _ _ _) rfl ⟨rfl, HB9.out⟩


end Go.Proofs.Ythjbcpgncnchoaa
