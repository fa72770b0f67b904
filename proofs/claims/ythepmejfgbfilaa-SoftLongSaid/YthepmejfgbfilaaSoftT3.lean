/- A path beside the document's own: Busy, Live, Writing; the lists; do whole; same. Conditions: those stated in each theorem. -/
import Derived.Test.YthepmejfgbfilaaSoftT2
namespace Go.Proofs.Ythepmejfgbfilaa
open Go.RowKit Go.BigFrame Go.Maps

section
variable {w0 w : World} {p q b c : Nat} {y : PV} {m : Int → Int} {E : Part}

set_option maxRecDepth 100000 in
set_option maxHeartbeats 2000000 in
theorem do_8no (h : Aparts w0 w [pathP p y, refP q y, memP b c m, E]) (ho : y.ok) (hat : y.at_ = .no) (x : OpQ) (hk : x.kind = 8) :
    Calls Try.prog 11 #[.pointer (some ⟨p, 0, none⟩), .pointer (some ⟨q, 0, none⟩), .agg x.cells.toArray, .map (some b)] w (DP E w0 p q b c y) := by
  obtain ⟨kd, i, v, o⟩ := x
  simp only at hk
  subst hk
  have H : Hid (Aparts w0 (w.alloc (.cells (OpQ.cells ⟨8, i, v, o⟩).toArray 36)) [pathP p y, refP q y, memP b c m, E, boxP w.heap.size 36 (OpQ.cells ⟨8, i, v, o⟩)]) := Lib.hid (h.box 36 (OpQ.cells ⟨8, i, v, o⟩))
  have c0 := (box_cells H.out).cell (i := 0) rfl
  obtain ⟨T, hR, -⟩ := H.out.get (i := 1) rfl
  obtain ⟨x, rv, wv, h1, h2, -⟩ := hR
  have c00 := h1.head.cell (i := 0) rfl
  have c12 := h1.head.cell (i := 12) rfl
  have c13 := h1.head.cell (i := 13) rfl
  rw [h2.live] at c12
  rw [h2.writing] at c13
  have HBusy := Lib.hid (fun k : Nat => busy_a (l := [pathP p y, refP q y, memP b c m, E, boxP w.heap.size 36 (OpQ.cells ⟨8, i, v, o⟩)]) (H.out.idle (below_drewN (Below.refl _ _) k)) (i := 0) rfl)
  have HLive := Lib.hid (fun k : Nat => live_a (l := [pathP p y, refP q y, memP b c m, E, boxP w.heap.size 36 (OpQ.cells ⟨8, i, v, o⟩)]) (H.out.idle (below_drewN (Below.refl _ _) k)) (i := 0) rfl)
  have HWriting := Lib.hid (fun k : Nat => writing_a (l := [pathP p y, refP q y, memP b c m, E, boxP w.heap.size 36 (OpQ.cells ⟨8, i, v, o⟩)]) (H.out.idle (below_drewN (Below.refl _ _) k)) (i := 0) rfl)
  have hb : y.busy = false := by unfold PV.busy; rw [hat]; rfl
  have hcd : x.code = 0 := h2.at_.no.1 hat
  rw [hcd] at c00
  rw [hb] at HBusy
  clear h h1
  simp only [OpQ.cells] at *
  go_enter Try.func11, Try.ntmps11
  go_wp2
  go_quiet ((first | (go_at_call 23; exact Calls.quiet_of_same ((HBusy.out _).mono (fun _ _ h => ⟨h.1, h.2.symm⟩))) | (go_at_call 24; exact Calls.quiet_of_same ((HLive.out _).mono (fun _ _ h => ⟨h.1, h.2.symm⟩))) | (go_at_call 27; exact Calls.quiet_of_same ((HWriting.out _).mono (fun _ _ h => ⟨h.1, h.2.symm⟩)))))
  go_wp2
  go_ret
  exact Aparts.post (H.out.idle (below_drewN (Below.refl _ _) _)) ho (by omega) (by omega) (by simp)

set_option maxRecDepth 100000 in
set_option maxHeartbeats 2000000 in
theorem do_8at (h : Aparts w0 w [pathP p y, refP q y, memP b c m, E]) (ho : y.ok) (hat : y.at_ ≠ .no) (x : OpQ) (hk : x.kind = 8) :
    Calls Try.prog 11 #[.pointer (some ⟨p, 0, none⟩), .pointer (some ⟨q, 0, none⟩), .agg x.cells.toArray, .map (some b)] w (DP E w0 p q b c y) := by
  obtain ⟨kd, i, v, o⟩ := x
  simp only at hk
  subst hk
  have H : Hid (Aparts w0 (w.alloc (.cells (OpQ.cells ⟨8, i, v, o⟩).toArray 36)) [pathP p y, refP q y, memP b c m, E, boxP w.heap.size 36 (OpQ.cells ⟨8, i, v, o⟩)]) := Lib.hid (h.box 36 (OpQ.cells ⟨8, i, v, o⟩))
  have c0 := (box_cells H.out).cell (i := 0) rfl
  obtain ⟨T, hR, -⟩ := H.out.get (i := 1) rfl
  obtain ⟨x, rv, wv, h1, h2, -⟩ := hR
  have c00 := h1.head.cell (i := 0) rfl
  have c12 := h1.head.cell (i := 12) rfl
  have c13 := h1.head.cell (i := 13) rfl
  rw [h2.live] at c12
  rw [h2.writing] at c13
  have HBusy := Lib.hid (fun k : Nat => busy_a (l := [pathP p y, refP q y, memP b c m, E, boxP w.heap.size 36 (OpQ.cells ⟨8, i, v, o⟩)]) (H.out.idle (below_drewN (Below.refl _ _) k)) (i := 0) rfl)
  have HLive := Lib.hid (fun k : Nat => live_a (l := [pathP p y, refP q y, memP b c m, E, boxP w.heap.size 36 (OpQ.cells ⟨8, i, v, o⟩)]) (H.out.idle (below_drewN (Below.refl _ _) k)) (i := 0) rfl)
  have HWriting := Lib.hid (fun k : Nat => writing_a (l := [pathP p y, refP q y, memP b c m, E, boxP w.heap.size 36 (OpQ.cells ⟨8, i, v, o⟩)]) (H.out.idle (below_drewN (Below.refl _ _) k)) (i := 0) rfl)
  have hb : y.busy = true := by unfold PV.busy; simpa using hat
  have hcd : x.code ≠ 0 := fun e => hat (h2.at_.no.2 e)
  generalize x.code = cd at *
  rw [hb] at HBusy
  clear h h1
  simp only [OpQ.cells] at *
  go_enter Try.func11, Try.ntmps11
  go_wp2
  go_quiet ((first | (go_at_call 23; exact Calls.quiet_of_same ((HBusy.out _).mono (fun _ _ h => ⟨h.1, h.2.symm⟩))) | (go_at_call 24; exact Calls.quiet_of_same ((HLive.out _).mono (fun _ _ h => ⟨h.1, h.2.symm⟩))) | (go_at_call 27; exact Calls.quiet_of_same ((HWriting.out _).mono (fun _ _ h => ⟨h.1, h.2.symm⟩)))))
  go_wp2
  go_ret
  exact Aparts.post (H.out.idle (below_drewN (Below.refl _ _) _)) ho (by omega) (by omega) (by simpa using hcd)

theorem lr_form {V : World} {lo : Nat} {v : Value} {l : List Pr} (h : RowL V lo v l) : ∃ ad cap, v = .slice ad l.length cap ∧ RowsIn V ad 2 Pr.cells l := by
  obtain ⟨ad, cap, e, h1, -⟩ := h.rows
  exact ⟨ad, cap, e, h1⟩

set_option maxRecDepth 100000 in
set_option maxHeartbeats 2000000 in
theorem lists_any {l : List Part} {i j : Nat} (h : Aparts w0 w l) (hi : l[i]? = some (pathP p y)) (hj : l[j]? = some (refP q y)) :
    Calls Try.prog 43 #[.pointer (some ⟨p, 0, none⟩), .pointer (some ⟨q, 0, none⟩)] w fun e w' => e = .returned (.bool true) ∧ Below w.heap.size w w' := by
  obtain ⟨T, hp, -⟩ := h.get hi
  obtain ⟨T2, hr, -⟩ := h.get hj
  obtain ⟨x, rv, wv, h1, h2, -, -, -, h6, h7⟩ := hr
  obtain ⟨ad1, cap1, rfl, r1⟩ := lr_form h1.r
  obtain ⟨ad2, cap2, rfl, r2⟩ := lr_form h1.wl
  have HS : Hid (∀ V, Below w.heap.size w V → V.cell? ⟨q, 10, none⟩ = some (.slice ad1 y.log.r.length cap1) ∧ V.cell? ⟨q, 11, none⟩ = some (.slice ad2 y.log.w.length cap2)) := Lib.hid (fun V hb => by
    have := (h1.below hb).head
    exact ⟨this.cell (i := 10) rfl, this.cell (i := 11) rfl⟩)
  have HR : Hid (∀ V, Below w.heap.size w V → Calls Try.prog 28 #[.pointer (some ⟨p, 0, none⟩)] V fun e w' => ∃ ad cap, e = .returned (.slice ad y.log.r.length cap) ∧ RowsIn w' ad 2 Pr.cells y.log.r ∧ Below w.heap.size w w') := Lib.hid (fun V hb => (sreads (SAt.below hp hb)).mono fun e w' ⟨v, e1, k, hb2⟩ => by
    obtain ⟨ad, cap, rfl, k2⟩ := lr_form k
    exact ⟨ad, cap, e1, k2, hb.trans (hb2.mono hb.size)⟩)
  have HW : Hid (∀ V, Below w.heap.size w V → Calls Try.prog 29 #[.pointer (some ⟨p, 0, none⟩)] V fun e w' => ∃ ad cap, e = .returned (.slice ad y.log.w.length cap) ∧ RowsIn w' ad 2 Pr.cells y.log.w ∧ Below w.heap.size w w') := Lib.hid (fun V hb => (swrites (SAt.below hp hb)).mono fun e w' ⟨v, e1, k, hb2⟩ => by
    obtain ⟨ad, cap, rfl, k2⟩ := lr_form k
    exact ⟨ad, cap, e1, k2, hb.trans (hb2.mono hb.size)⟩)
  have HQ : Hid (∀ V ad cap, Below w.heap.size w V → RowsIn V ad 2 Pr.cells y.log.r → Calls Try.prog 64 #[.slice ad y.log.r.length cap, .slice ad1 y.log.r.length cap1] V fun e w' => e = .returned (.bool true) ∧ Below w.heap.size w w') := Lib.hid (fun V ad cap hb hx => (same_yes V ad ad1 cap cap1 y.log.r hx (by
    obtain ⟨ad', cap', e, k⟩ := lr_form (h1.below hb).r
    simp only [Value.slice.injEq] at e
    rw [e.1]; exact k) (by omega)).mono fun e w' ⟨e1, n, hn⟩ => ⟨e1, hn ▸ below_drewN hb n⟩)
  have HQ2 : Hid (∀ V ad cap, Below w.heap.size w V → RowsIn V ad 2 Pr.cells y.log.w → Calls Try.prog 64 #[.slice ad y.log.w.length cap, .slice ad2 y.log.w.length cap2] V fun e w' => e = .returned (.bool true) ∧ Below w.heap.size w w') := Lib.hid (fun V ad cap hb hx => (same_yes V ad ad2 cap cap2 y.log.w hx (by
    obtain ⟨ad', cap', e, k⟩ := lr_form (h1.below hb).wl
    simp only [Value.slice.injEq] at e
    rw [e.1]; exact k) (by omega)).mono fun e w' ⟨e1, n, hn⟩ => ⟨e1, hn ▸ below_drewN hb n⟩)
  clear h h1 h2 hp r1 r2
  go_enter Try.func43, Try.ntmps43
  go_wp2
  have hB := below_drew1 (Below.refl w.heap.size w)
  go_region_held3 (fun V => V.cell? ⟨q, 10, none⟩ = some (.slice ad1 y.log.r.length cap1) ∧ V.cell? ⟨q, 11, none⟩ = some (.slice ad2 y.log.w.length cap2)) (first | with_reducible exact HS.out _ hB) (first | (go_at_call 28; (with_reducible refine (HR.out _ hB).mono ?_); rintro e V ⟨ad, cap, rfl, hx, hB⟩) | (go_at_call 29; (with_reducible refine (HW.out _ hB).mono ?_); rintro e V ⟨ad, cap, rfl, hx, hB⟩) | (go_at_call 64; (first | with_reducible refine (HQ.out _ _ _ hB hx).mono ?_ | with_reducible refine (HQ2.out _ _ _ hB hx).mono ?_); rintro e V ⟨rfl, hB⟩))
  all_goals
    have HB := Lib.hid hB
    go_wp2
    go_ret
    exact ⟨rfl, HB.out⟩

set_option maxRecDepth 100000 in
set_option maxHeartbeats 2000000 in
theorem do_10 (h : Aparts w0 w [pathP p y, refP q y, memP b c m, E]) (ho : y.ok)  (x : OpQ) (hk : x.kind = 10) :
    Calls Try.prog 11 #[.pointer (some ⟨p, 0, none⟩), .pointer (some ⟨q, 0, none⟩), .agg x.cells.toArray, .map (some b)] w (DP E w0 p q b c y) := by
  obtain ⟨kd, i, v, o⟩ := x
  simp only at hk
  subst hk
  have H : Hid (Aparts w0 (w.alloc (.cells (OpQ.cells ⟨10, i, v, o⟩).toArray 36)) [pathP p y, refP q y, memP b c m, E, boxP w.heap.size 36 (OpQ.cells ⟨10, i, v, o⟩)]) := Lib.hid (h.box 36 (OpQ.cells ⟨10, i, v, o⟩))
  have c0 := (box_cells H.out).cell (i := 0) rfl
  have HL := Lib.hid (lists_any H.out (i := 0) (j := 1) rfl rfl)
  clear h
  simp only [OpQ.cells] at *
  go_enter Try.func11, Try.ntmps11
  go_wp2_with (go_at_call 43; refine HL.out.mono ?_; rintro e V ⟨rfl, hb⟩; have HB := Lib.hid hb; clear hb)
  go_ret
  exact Aparts.post (H.out.idle HB.out) ho (by omega) (by omega) rfl

theorem do_any (h : Aparts w0 w [pathP p y, refP q y, memP b c m, E]) (ho : y.ok) (h0 : 0 ≤ y.pts) (h9 : y.pts ≤ 1000000) (hc : c ≤ 1000000) (x : OpQ) (hx : x.good) :
    Calls Try.prog 11 #[.pointer (some ⟨p, 0, none⟩), .pointer (some ⟨q, 0, none⟩), .agg x.cells.toArray, .map (some b)] w (DP E w0 p q b c y) := by
  by_cases k0 : x.kind = 0
  · exact do_0 h ho h0 h9 x hx k0
  by_cases k1 : x.kind = 1
  · exact do_1 h ho h0 h9 x hx k1
  by_cases k2 : x.kind = 2
  · exact do_2 h ho h0 h9 x hx k2
  by_cases k3 : x.kind = 3
  · exact do_3 h ho h0 h9 x hx k3
  by_cases k4 : x.kind = 4
  · exact do_4 h ho h0 h9 x hx k4
  by_cases k5 : x.kind = 5
  · exact do_5 h ho h0 h9 x hx k5
  by_cases k6 : x.kind = 6
  · exact do_6 h ho h0 h9 hc x k6
  by_cases k7 : x.kind = 7
  · exact do_7 h ho x k7
  by_cases k8 : x.kind = 8
  · by_cases hat : y.at_ = .no
    · exact do_8no h ho hat x k8
    · exact do_8at h ho hat x k8
  by_cases k9 : x.kind = 9
  · exact do_9 h ho x k9
  by_cases k10 : x.kind = 10
  · exact do_10 h ho x k10
  exact do_11 h ho x ⟨k0, k1, k2, k3, k4, k5, k6, k7, k8, k9, k10⟩
end

end Go.Proofs.Ythepmejfgbfilaa
