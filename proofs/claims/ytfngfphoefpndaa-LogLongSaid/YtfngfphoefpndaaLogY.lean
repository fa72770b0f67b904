/- do, kinds 5 and 6. Conditions: those stated in each theorem. -/
import Derived.Test.YtfngfphoefpndaaLogX
namespace Go.Proofs.Ytfngfphoefpndaa
open Go.RowKit Go.BigFrame Go.Maps

section
variable {w0 w : World} {L : List Value} {a q t n : Nat} {f : Lg}

set_option maxRecDepth 100000 in
set_option maxHeartbeats 2000000 in
theorem do_5 (h : PSt w0 w none L a q t f f n) (hn : n ≤ 100000) (x : OpV) (hk : x.kind = 5) :
    Calls Try.prog 11 #[.pointer (some ⟨a, 0, none⟩), .pointer (some ⟨q, 0, none⟩), .agg x.cells.toArray, .pointer (some ⟨t, 0, none⟩)] w (DP w0 a q t (stepL f x) n) := by
  rw [show stepL f x = f from by simp [stepL, hk]]
  have HL := Lib.hid h.fit.2.2.1
  have H := Lib.hid (h.box x.cells)
  have c0 := H.out.cell (i := 0) rfl
  rw [hk] at c0
  clear h
  obtain ⟨kd, i, v, nad, nlen, ncap⟩ := x
  simp only at hk
  subst hk
  simp only [OpV.cells] at *
  go_enter Try.func11, Try.ntmps11
  go_wp2
  generalize w.alloc (.cells #[.int .i64 5, .int .i64 i, .int .u64 v, .slice nad nlen ncap] 35) = W at *
  generalize w.heap.size = X at *
  have hD := H.out.idle (below_drew1 (Below.refl _ W))
  clear H
  obtain ⟨ad, cap, ad2, cap2, hh, hr, hr2, -⟩ := hD.lists
  have k2 := hh.cell (i := 0) rfl
  have HR := Lib.hid (reads_p hD)
  have HK : Hid (∀ V, Below W.drew.heap.size W.drew V → V.cell? ⟨q, 0, none⟩ = some (.slice ad f.r.length cap)) := Lib.hid (fun V hV => (hh.below hV).cell (i := 0) rfl)
  have HQ := Lib.hid hr
  have HD := Lib.hid hD
  clear hD hh hr hr2
  go_region_held3 (fun V => V.cell? ⟨q, 0, none⟩ = some (.slice ad f.r.length cap)) (first | with_reducible exact k2 | with_reducible exact HK.out _ hB) (first | (go_at_call 13; (with_reducible refine HR.out.mono ?_); rintro e V ⟨v0, rfl, hr, hB⟩))
  all_goals
    obtain ⟨ad3, cap3, rfl, hr3, -⟩ := hr.rows
    have e0 := (HD.out.idle hB).cell (i := 0) rfl
    have HS := Lib.hid (same_yes V ad3 ad cap3 cap f.r hr3 (HQ.out.below hB) (by have := HL.out; omega))
    have HB := Lib.hid hB
    have Hr := Lib.hid hr
    clear hB hr hr3
    go_wp2_with (first | (go_at_call 12; refine HS.out.mono ?_; rintro e V2 ⟨rfl, n2, hn2⟩; have hB2 : Below V.heap.size V V2 := hn2 ▸ below_drewN (Below.refl _ _) n2; have HK2 := Lib.hid (keep_p HD.out hn (HB.out.trans (hB2.mono HB.out.size)) (Hr.out.same (fun g e => hB2.block g (Hr.out.lt e).2)) HL.out)) | (go_at_call 28; refine HK2.out.mono ?_; rintro e V3 ⟨rfl, hE⟩; have HE := Lib.hid hE; clear hE))
    go_ret
    exact HE.out.post (by omega) (by simp)

set_option maxRecDepth 100000 in
set_option maxHeartbeats 2000000 in
theorem do_6 (h : PSt w0 w none L a q t f f n) (hn : n ≤ 100000) (x : OpV) (hk : x.kind = 6) :
    Calls Try.prog 11 #[.pointer (some ⟨a, 0, none⟩), .pointer (some ⟨q, 0, none⟩), .agg x.cells.toArray, .pointer (some ⟨t, 0, none⟩)] w (DP w0 a q t (stepL f x) n) := by
  rw [show stepL f x = f from by simp [stepL, hk]]
  have HL := Lib.hid h.fit.2.2
  have H := Lib.hid (h.box x.cells)
  have c0 := H.out.cell (i := 0) rfl
  rw [hk] at c0
  clear h
  obtain ⟨kd, i, v, nad, nlen, ncap⟩ := x
  simp only at hk
  subst hk
  simp only [OpV.cells] at *
  go_enter Try.func11, Try.ntmps11
  go_wp2
  generalize w.alloc (.cells #[.int .i64 6, .int .i64 i, .int .u64 v, .slice nad nlen ncap] 35) = W at *
  generalize w.heap.size = X at *
  have hD := H.out.idle (below_drew1 (Below.refl _ W))
  clear H
  obtain ⟨ad, cap, ad2, cap2, hh, hr, hr2, -⟩ := hD.lists
  have k2 := hh.cell (i := 0) rfl
  have HR := Lib.hid (reads_p hD)
  have HK : Hid (∀ V, Below W.drew.heap.size W.drew V → V.cell? ⟨q, 0, none⟩ = some (.slice ad f.r.length cap) ∧ V.cell? ⟨q, 1, none⟩ = some (.slice ad2 f.w.length cap2)) := Lib.hid (fun V hV => ⟨(hh.below hV).cell (i := 0) rfl, (hh.below hV).cell (i := 1) rfl⟩)
  have HQ := Lib.hid hr2
  have HD := Lib.hid hD
  clear hD hh hr hr2
  go_region_held3 (fun V => V.cell? ⟨q, 0, none⟩ = some (.slice ad f.r.length cap)) (first | with_reducible exact k2 | with_reducible exact (HK.out _ hB).1) (first | (go_at_call 13; (with_reducible refine HR.out.mono ?_); rintro e V ⟨v0, rfl, hr, hB⟩))
  all_goals
    obtain ⟨ad3, cap3, rfl, -, -⟩ := hr.rows
    have e0 := (HD.out.idle hB).cell (i := 0) rfl
    have HB := Lib.hid hB
    clear hB hr
    go_wp2
    have hB1 : Below W.drew.heap.size W.drew V.drew := below_drew1 HB.out
    have hD := HD.out.idle hB1
    have m2 := (HK.out _ hB1).2
    have HR2 := Lib.hid (writes_p hD)
    have HK1 : Hid (∀ U, Below V.drew.heap.size V.drew U → U.cell? ⟨q, 1, none⟩ = some (.slice ad2 f.w.length cap2)) := Lib.hid (fun U hV => (HK.out U (hB1.trans (hV.mono hB1.size))).2)
    have HQ1 := Lib.hid (HQ.out.below hB1)
    have HD1 := Lib.hid hD
    clear hD hB1 HB e0
    go_region_held3 (fun V => V.cell? ⟨q, 1, none⟩ = some (.slice ad2 f.w.length cap2)) (first | with_reducible exact m2 | with_reducible exact HK1.out _ hB) (first | (go_at_call 14; (with_reducible refine HR2.out.mono ?_); rintro e V9 ⟨v0, rfl, hr, hB⟩))
    obtain ⟨ad4, cap4, rfl, hr3, -⟩ := hr.rows
    have HS := Lib.hid (same_yes V9 ad4 ad2 cap4 cap2 f.w hr3 (HQ1.out.below hB) (by have := HL.out; omega))
    have HB := Lib.hid hB
    have Hr := Lib.hid hr
    clear hB hr hr3
    go_wp2_with (first | (go_at_call 12; refine HS.out.mono ?_; rintro e V2 ⟨rfl, n2, hn2⟩; have hB2 : Below V9.heap.size V9 V2 := hn2 ▸ below_drewN (Below.refl _ _) n2; have HK2 := Lib.hid (keep_p HD1.out hn (HB.out.trans (hB2.mono HB.out.size)) (Hr.out.same (fun g e => hB2.block g (Hr.out.lt e).2)) HL.out.2)) | (go_at_call 28; refine HK2.out.mono ?_; rintro e V3 ⟨rfl, hE⟩; have HE := Lib.hid hE; clear hE))
    go_ret
    exact HE.out.post (by omega) (by simp)
end

end Go.Proofs.Ytfngfphoefpndaa
