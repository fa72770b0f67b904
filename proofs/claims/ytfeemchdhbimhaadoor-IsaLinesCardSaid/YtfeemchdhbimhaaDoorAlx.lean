/- The chapter's first examples hold. Conditions: those stated in each theorem. -/
import Derived.Test.YtfeemchdhbimhaaDoorAlw
namespace Go.Proofs.YtfeemchdhbimhaaDoor
open Go.RowKit Go.BigFrame

@[local go_sem ↓ high] theorem same_efw (w : World) : (Op.equalIn 10000 27 (.agg #[.int .i64 1, .int .i64 4, .int .i64 0, .int .u64 4, .int .u64 0]) (.agg #[.int .i64 1, .int .i64 4, .int .i64 0, .int .u64 4, .int .u64 0])).run Tryd.prog w = .ok true w := by
  rw [same_ef]; simp

set_option maxRecDepth 100000 in
set_option maxHeartbeats 1000000 in
theorem alive_any (w : World) (h : Std w) : Calls Tryd.prog 21 #[] w fun e w' => e = .returned (.bool true) ∧ Below w.heap.size w w' := by
  have H := Lib.hid h; clear h
  go_enter Tryd.func21, Tryd.ntmps21
  go_wp2_with fail
  have hb0 : Below w.heap.size w (w.alloc (.cells #[.int .u64 0, .int .u64 5, .int .u64 18446744073709551615, .int .u64 0, .int .u64 0, .int .u64 0, .int .u64 0, .int .u64 0] 25)) := (Below.refl _ w).alloc (Nat.le_refl _) _
  have h0 := Holds.new w 25 [.int .u64 0, .int .u64 5, .int .u64 18446744073709551615, .int .u64 0, .int .u64 0, .int .u64 0, .int .u64 0, .int .u64 0]
  change Holds (w.alloc (.cells #[.int .u64 0, .int .u64 5, .int .u64 18446744073709551615, .int .u64 0, .int .u64 0, .int .u64 0, .int .u64 0, .int .u64 0] 25)) _ _ _ at h0
  generalize w.alloc (.cells #[.int .u64 0, .int .u64 5, .int .u64 18446744073709551615, .int .u64 0, .int .u64 0, .int .u64 0, .int .u64 0, .int .u64 0] 25) = w1 at *
  have Hb0 := Lib.hid hb0; clear hb0
  have H0 := Lib.hid h0; clear h0
  go_at_call 14
  refine (a_parse (H.out.below Hb0.out)).mono ?_
  rintro e w2 ⟨rfl, hb2⟩
  have hb2' := Hb0.out.trans (hb2.mono Hb0.out.size)
  have h02 := H0.out.below hb2
  clear H0 Hb0 hb2
  have Hb2 := Lib.hid hb2'; clear hb2'
  have H02 := Lib.hid h02; clear h02
  go_wp2_with fail
  have hb3 : Below w2.heap.size w2 ((w2.alloc (.cells #[.int .i64 4, .int .i64 0, .int .i64 1, .int .i64 2, .int .i64 0] 23)).alloc (.cells #[.int .i64 2, .int .i64 3, .int .i64 0, .int .i64 0, .int .i64 (-2)] 23)) := ((Below.refl _ w2).alloc (Nat.le_refl _) _).alloc (by simp) _
  have hi3 : Holds ((w2.alloc (.cells #[.int .i64 4, .int .i64 0, .int .i64 1, .int .i64 2, .int .i64 0] 23)).alloc (.cells #[.int .i64 2, .int .i64 3, .int .i64 0, .int .i64 0, .int .i64 (-2)] 23)) w2.heap.size 23 [.int .i64 4, .int .i64 0, .int .i64 1, .int .i64 2, .int .i64 0] := (Holds.new w2 23 [.int .i64 4, .int .i64 0, .int .i64 1, .int .i64 2, .int .i64 0]).alloc _
  have hs3 : Holds ((w2.alloc (.cells #[.int .i64 4, .int .i64 0, .int .i64 1, .int .i64 2, .int .i64 0] 23)).alloc (.cells #[.int .i64 2, .int .i64 3, .int .i64 0, .int .i64 0, .int .i64 (-2)] 23)) (w2.heap.size + 1) 23 [.int .i64 2, .int .i64 3, .int .i64 0, .int .i64 0, .int .i64 (-2)] := newAt (by simp) 23 [.int .i64 2, .int .i64 3, .int .i64 0, .int .i64 0, .int .i64 (-2)]
  generalize (w2.alloc (.cells #[.int .i64 4, .int .i64 0, .int .i64 1, .int .i64 2, .int .i64 0] 23)).alloc (.cells #[.int .i64 2, .int .i64 3, .int .i64 0, .int .i64 0, .int .i64 (-2)] 23) = w3 at *
  have hb03 := Hb2.out.trans (hb3.mono Hb2.out.size)
  have h03 := H02.out.below hb3
  clear Hb2 H02 hb3
  generalize w2.heap.size = q2 at *
  refine (a_enc hs3).mono ?_
  rintro e w4 ⟨g, cap, rfl, hr4, hb4⟩
  have hi4 := hi3.below hb4
  have h04 := h03.below hb4
  have hbw4 := hb03.trans (hb4.mono hb03.size)
  clear hi3 h03 hb03 hs3 hb4
  have hAll : ∀ V, Below w4.heap.size w4 V → (V.cell? ⟨q2, 0, none⟩ = some (.int .i64 4) ∧ V.cell? ⟨q2, 1, none⟩ = some (.int .i64 0) ∧ V.cell? ⟨q2, 2, none⟩ = some (.int .i64 1) ∧ V.cell? ⟨q2, 3, none⟩ = some (.int .i64 2) ∧ V.cell? ⟨q2, 4, none⟩ = some (.int .i64 0)) := fun V hV =>
    have h := hi4.below hV
    ⟨h.cell (i := 0) rfl, h.cell (i := 1) rfl, h.cell (i := 2) rfl, h.cell (i := 3) rfl, h.cell (i := 4) rfl⟩
  obtain ⟨c0, c1, c2, c3, c4⟩ := hAll w4 (Below.refl _ _)
  have r0 := h04.cell (i := 0) rfl
  have r1 := h04.cell (i := 1) rfl
  have r2 := h04.cell (i := 2) rfl
  have r3 := h04.cell (i := 3) rfl
  have r4 := h04.cell (i := 4) rfl
  have r5 := h04.cell (i := 5) rfl
  have r6 := h04.cell (i := 6) rfl
  have r7 := h04.cell (i := 7) rfl
  have hcv : ∀ V, Below w4.heap.size w4 V → (convert 42 9 (.slice (some ⟨g, 0, none⟩) 8 cap)).run Tryd.prog V = .ok (.string ⟨#[2, 3, 0, 0, 255, 255, 255, 254]⟩) V := fun V hV => string_M (below_old hV hr4)
  have HAll := Lib.hid hAll; clear hAll
  have Hcv := Lib.hid hcv; clear hcv
  have Hbw := Lib.hid hbw4; clear hbw4
  clear hi4 h04 hr4
  go_wp2_with (first
    | (go_at_call 10; refine (a_do (H.out.below Hbw.out)).mono ?_; rintro e w5 ⟨rfl, hb5⟩; obtain ⟨d0, d1, d2, d3, d4⟩ := HAll.out w5 hb5; have Hb5 := Lib.hid hb5; clear hb5)
    | (go_at_call 16; refine (a_text (H.out.below (Hbw.out.trans (Hb5.out.mono Hbw.out.size)))).mono ?_; rintro e w6 ⟨rfl, hb6⟩; have hb46 := Hb5.out.trans (hb6.mono Hb5.out.size); obtain ⟨e0, e1, e2, e3, e4⟩ := HAll.out w6 hb46; have hcv6 := Hcv.out w6 hb46; have Hb6 := Lib.hid hb46; clear hb6 hb46)
    | (go_at_call 12; refine (a_legal (H.out.below (Hbw.out.trans (Hb6.out.mono Hbw.out.size)))).mono ?_; rintro e w7 ⟨rfl, hb7⟩; have Hb7 := Lib.hid (Hbw.out.trans ((Hb6.out.trans (hb7.mono Hb6.out.size)).mono Hbw.out.size)); clear hb7))
  refine bodyPost_ret (results_tmp rfl _ _ _) rfl ⟨?_, Hb7.out⟩
  rfl

end Go.Proofs.YtfeemchdhbimhaaDoor
