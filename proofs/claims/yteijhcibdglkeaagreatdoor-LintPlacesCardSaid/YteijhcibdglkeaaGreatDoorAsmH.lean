/- A line is taken. Conditions: those stated in each theorem. -/
import Derived.Test.YteijhcibdglkeaaGreatDoorAsmG
namespace Go.Proofs.YteijhcibdglkeaaGreatDoor
open Go.RowKit Go.BigFrame Go.Shelf Go.Maps

theorem take_lab {m : Nms} {x : Rs} {ln : Ln} {s : By} (h : colonP ln.s = some s) : takeP m x ln = labP m x ln.n s := by unfold takeP labP; rw [h]
theorem take_no {m : Nms} {x : Rs} {ln : Ln} (h : colonP ln.s = none) (hi : instrP m ln.s = none) : takeP m x ln = none := by unfold takeP; rw [h, hi]
theorem take_full {m : Nms} {x : Rs} {ln : Ln} (h : colonP ln.s = none) {i : In} (hi : instrP m ln.s = some i) (hf : x.code.length = 1024) : takeP m x ln = none := by unfold takeP; rw [h, hi]; simp [hf]
theorem take_yes {m : Nms} {x : Rs} {ln : Ln} (h : colonP ln.s = none) {i : In} (hi : instrP m ln.s = some i) (hf : x.code.length ≠ 1024) : takeP m x ln = some { x with code := x.code ++ [i] } := by unfold takeP; rw [h, hi]; simp [hf]

set_option maxRecDepth 100000 in
set_option maxHeartbeats 4000000 in
theorem take_any {w : World} (h : Std w) {B b mb n : Nat} {m : Nms} {x : Rs} (hR : RdAt w B b mb m n x) (hB : B ≤ w.heap.size) (hn : n ≤ 1000000) (hP : ∀ s, placeOf m s ≤ 1000000) (ln : Ln) (hs : ln.s.length ≤ 900000) :
    Calls Tryz.prog 40 #[.pointer (some ⟨b, 0, none⟩), .int .i64 ln.n, .string ⟨ln.s.toArray⟩] w fun e w' => (e = .returned (.bool (takeP m x ln).isSome) ∧ RdAt w' B b mb m (n + 1) ((takeP m x ln).getD x)) ∧ Tch (RdC B w) w w' := by
  have hcs := fun V => suffix_any ln.s (by omega) V
  cases hcp : colonP ln.s with
  | some nm =>
    have hnl := colon_len hcp
    rw [hcp] at hcs
    simp only [Option.getD_some, Option.isSome_some] at hcs
    rw [take_lab hcp]
    obtain ⟨lnn, lns⟩ := ln
    simp only at *
    have hlab := label_any hR hB hn lnn nm (by omega)
    have Hcs := Lib.hid hcs; clear hcs
    have Hlab := Lib.hid hlab; clear hlab
    clear hR hcp
    go_enter Tryz.func40, Tryz.ntmps40
    go_wp2_with fail
    refine (Hcs.out _).mono ?_
    rintro e w2 ⟨rfl, rfl⟩
    go_wp2_with fail
    refine Hlab.out.mono ?_
    rintro e w3 ⟨⟨rfl, hR3⟩, hT3⟩
    have H3 := Lib.hid (And.intro hR3 hT3); clear hR3 hT3
    go_wp2_with fail
    exact bodyPost_ret (results_tmp rfl _ _ _) rfl ⟨⟨rfl, H3.out.1⟩, H3.out.2⟩
  | none =>
    rw [hcp] at hcs
    simp only [Option.getD_none, Option.isSome_none] at hcs
    obtain ⟨cv, lv, hR⟩ := hR
    have hin := rinstr_any h hR.head hR.map hP ln.s hs
    have Hcs := Lib.hid hcs; clear hcs
    have Hin := Lib.hid hin; clear hin
    have HR := Lib.hid hR; clear hR
    cases hi : instrP m ln.s with
    | none =>
      rw [take_no hcp hi]
      rw [hi] at Hin
      obtain ⟨lnn, lns⟩ := ln
      simp only [In.zero, In.val, Option.getD_none, Option.isSome_none] at *
      clear hcp hi
      go_enter Tryz.func40, Tryz.ntmps40
      go_wp2_with fail
      refine (Hcs.out _).mono ?_
      rintro e w2 ⟨rfl, rfl⟩
      go_wp2_with fail
      refine Hin.out.mono ?_
      rintro e w3 ⟨rfl, hb3⟩
      have hb4 := hb3.alloc hb3.size (.cells #[.int .i64 0, .int .i64 0, .int .i64 0, .int .i64 0, .int .i64 0] 43)
      have Hb4 := Lib.hid hb4; clear hb4 hb3
      go_wp2_with fail
      exact bodyPost_ret (results_tmp rfl _ _ _) rfl ⟨⟨rfl, _, _, (HR.out.idle Hb4.out).more⟩, RdC.idle Hb4.out⟩
    | some i =>
      obtain ⟨xo, xa, xb, xc, xi⟩ := i
      rw [hi] at Hin
      have Htk := Lib.hid (And.intro (take_full (x := x) hcp hi) (take_yes (x := x) hcp hi))
      have hln := HR.out.ln
      obtain ⟨lnn, lns⟩ := ln
      simp only [In.val, Option.getD_some, Option.isSome_some] at *
      clear hcp hi
      go_enter Tryz.func40, Tryz.ntmps40
      obtain ⟨ad, cap, rfl⟩ := row_form HR.out.code
      go_upto_region 4 with (go_at_call 50; refine (Hcs.out _).mono ?_; rintro e w2 ⟨rfl, rfl⟩)
      go_wp2_with fail
      refine Hin.out.mono ?_
      rintro e w3 ⟨rfl, hb3⟩
      have hb4 := hb3.alloc hb3.size (.cells #[.int .i64 xo, .int .i64 xa, .int .i64 xb, .int .i64 xc, .int .i64 xi] 43)
      have hX : Holds (w3.alloc (.cells #[.int .i64 xo, .int .i64 xa, .int .i64 xb, .int .i64 xc, .int .i64 xi] 43)) w3.heap.size 43 (In.cells ⟨xo, xa, xb, xc, xi⟩) := Holds.new w3 43 (In.cells ⟨xo, xa, xb, xc, xi⟩)
      have Hb4 := Lib.hid hb4; clear hb4 hb3
      have HX := Lib.hid hX; clear hX
      have HRW := Lib.hid (HR.out.idle Hb4.out)
      go_upto_region 5 with fail
      generalize w3.alloc (.cells #[.int .i64 xo, .int .i64 xa, .int .i64 xb, .int .i64 xc, .int .i64 xi] 43) = W at *
      have k0 := HRW.out.head.cell (i := 1) rfl
      by_cases hf : x.code.length = 1024
      · have e1 : ((x.code.length : Int) == 1024) = true := by rw [hf]; rfl
        have Hf := Lib.hid hf; clear hf
        go_wp2_with fail
        refine bodyPost_ret (results_tmp rfl _ _ _) rfl ?_
        rw [Htk.out.1 Hf.out]
        exact ⟨⟨rfl, _, _, HRW.out.more⟩, RdC.idle Hb4.out⟩
      · have e1 : ((x.code.length : Int) == 1024) = false := by rw [beq_eq_false_iff_ne]; omega
        have hlt : x.code.length < 1024 := by omega
        have Hf := Lib.hid hf; clear hf
        have Hlt := Lib.hid hlt; clear hlt
        have x0 := HX.out.cell (i := 0) rfl
        have x1 := HX.out.cell (i := 1) rfl
        have x2 := HX.out.cell (i := 2) rfl
        have x3 := HX.out.cell (i := 3) rfl
        have x4 := HX.out.cell (i := 4) rfl
        obtain ⟨i0, hi0, hz0, hz1, hz2⟩ := info_parts Tryz.infoIn
        have Hi := Lib.hid hi0; clear hi0
        have Hz0 := Lib.hid hz0; clear hz0
        have Hz1 := Lib.hid hz1; clear hz1
        have Hz2 := Lib.hid hz2; clear hz2
        have HoW := Lib.hid (show (W.alloc (.cells #[.int .i64 xo, .int .i64 xa, .int .i64 xb, .int .i64 xc, .int .i64 xi] 43)).drew.ownsRow B 43 5 (.slice ad x.code.length cap) x.code.length (flatA x.code) from owns_same HRW.out.code (fun g e => Below.heap_alloc W _ g (owns_lt HRW.out.code e).2))
        have HK : Hid (∀ w1, World.grownBy (W.alloc (.cells #[.int .i64 xo, .int .i64 xa, .int .i64 xb, .int .i64 xc, .int .i64 xi] 43)).drew w1 (Value.slice ad x.code.length cap).ownBlock → w1.cell? ⟨b, 1, none⟩ = some (.slice ad x.code.length cap) ∧ w1.frozen? ⟨b, 1, none⟩ = false) := Lib.hid (fun w1 hg => by
          have q := (HRW.out.idle ((Below.refl _ W).alloc (Nat.le_refl _) (.cells #[.int .i64 xo, .int .i64 xa, .int .i64 xb, .int .i64 xc, .int .i64 xi] 43)))
          have q2 := q.head.same (hg.block b q.head.lt (fun e => (q.apart.1 b e.symm).1 rfl))
          exact ⟨q2.cell (i := 1) rfl, q2.free 1⟩)
        have HsW := Lib.hid Hb4.out.size
        have hbW := HRW.out.head.lt
        go_upto_region 7 with fail
        clear e1
        go_region_law ((refine step_append_lies _ (by rfl) _ _ _ (by rfl) B 43 i0 _ 5 40 Tryz.underlying31 Hi.out Hz0.out Hz1.out Hz2.out rfl (by omega) (.slice ad x.code.length cap) x.code.length (flatA x.code) (by rfl) HoW.out ⟨W.heap.size, 0, none⟩ 1 1 [.int .i64 xo, .int .i64 xa, .int .i64 xb, .int .i64 xc, .int .i64 xi] (by rfl) (by rfl) (World.news_of_block (cs := #[.int .i64 xo, .int .i64 xa, .int .i64 xb, .int .i64 xc, .int .i64 xi]) (t := 43) (fr := (0, 0)) (new_block W _)) (by simp [Value.oneCell']) (by omega) (by have := Hlt.out; unfold maxLen; omega) (by have := Hlt.out; omega) (by first | (simp; done) | (have := HsW.out; simp; omega)) (W.heap.size + 1) (by first | (simp; done) | (have := HsW.out; simp; omega)) ?_; intro g cap' w3 hown3 hgrow hat hlt; have kk := (HK.out w3 hgrow).1; have kf := (HK.out w3 hgrow).2))
        all_goals
          have hfin := HRW.out.coded (Below.refl _ W) (i := ⟨xo, xa, xb, xc, xi⟩) (o := .cells #[.int .i64 xo, .int .i64 xa, .int .i64 xb, .int .i64 xc, .int .i64 xi] 43) (w3 := w3) ⟨hgrow.os, hgrow.tape, hgrow.output, hgrow.size, hgrow.block⟩ hown3 Hlt.out
          have HF := Lib.hid (show RdAt _ B b mb m (n + 1) _ ∧ Tch (RdC B w2) w2 _ from ⟨⟨_, _, hfin.1⟩, RdC.trans (RdC.idle Hb4.out) hfin.2⟩)
          clear hfin hown3 hgrow hat hlt kk kf
          go_wp2
          refine bodyPost_ret (results_tmp rfl _ _ _) rfl ?_
          rw [Htk.out.2 Hf.out]
          exact ⟨⟨rfl, HF.out.1⟩, HF.out.2⟩

end Go.Proofs.YteijhcibdglkeaaGreatDoor
