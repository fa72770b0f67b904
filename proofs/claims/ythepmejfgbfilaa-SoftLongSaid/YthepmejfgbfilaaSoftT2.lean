/- A path beside the document's own: Want, Answer and Give, the getters, the lists. Conditions: those stated in each theorem. -/
import Derived.Test.YthepmejfgbfilaaSoftT1
namespace Go.Proofs.Ythepmejfgbfilaa
open Go.RowKit Go.BigFrame Go.Maps

section
variable {w0 w W : World} {p q b c : Nat} {y : PV} {m : Int → Int} {A B C D E F : Part} {T : Nat → Prop}
theorem rwant (h : RAt w T q y) : Calls Try.prog 42 #[.pointer (some ⟨q, 0, none⟩)] w fun e w' => e = .returned (.tuple #[.agg y.req.cells.toArray, .bool y.busy]) ∧ Below w.heap.size w w' := by
  unfold PV.req PV.busy
  cases hy : y.at_ with
  | no => exact wn_no h hy
  | beginN => exact wn_beginN h hy
  | beginCas n => exact wn_beginCas h n hy
  | beginSeq => exact wn_beginSeq h hy
  | loadWord a => exact wn_loadWord h a hy
  | loadSeq a n => exact wn_loadSeq h a n hy
  | checkSeq t => exact wn_checkSeq h t hy
  | check g l t =>
    cases l with
    | nil => exact wn_check_end h g t hy
    | cons z l => exact wn_check h g z l t hy
  | take => exact wn_take h hy
  | back l =>
    cases l with
    | nil => exact wn_back_end h hy
    | cons z l => exact wn_back h z l hy
  | leaveN how => exact wn_leaveN h how hy
  | leaveCas how n =>
    have hw : IntKind.u64.wrap (n - 1) = IntKind.u64.wrap (n + 18446744073709551615) := by simp [IntKind.wrap, IntKind.bits, IntKind.signed]; omega
    have := wn_leaveCas h how n hy
    rw [hw] at this
    exact this
theorem a_Want (h : Aparts w0 w [pathP p y, B, C, D, F]) : Calls Try.prog 18 #[.pointer (some ⟨p, 0, none⟩)] w fun e w' => e = .returned (.tuple #[.agg #[.int .i64 y.req.op, .int .i64 y.req.addr, .int .u64 y.req.value, .int .u64 y.req.old], .bool y.busy]) ∧ Aparts w0 w' [pathP p y, B, C, D, F] := want_a h (i := 0) rfl
theorem r_Want (h : Aparts w0 w [A, refP q y, C, D, F]) : Calls Try.prog 42 #[.pointer (some ⟨q, 0, none⟩)] w fun e w' => e = .returned (.tuple #[.agg #[.int .i64 y.req.op, .int .i64 y.req.addr, .int .u64 y.req.value, .int .u64 y.req.old], .bool y.busy]) ∧ Aparts w0 w' [A, refP q y, C, D, F] := by
  obtain ⟨T, h1, -⟩ := h.get (i := 1) rfl
  exact (rwant h1).mono fun e w' ⟨e1, k⟩ => ⟨e1, h.idle k⟩
theorem r_Want2 (h : Aparts w0 w [A, refP q y, C, D, F]) : Calls Try.prog 42 #[.pointer (some ⟨q, 0, none⟩)] w fun e w' => e = .returned (.tuple #[.agg #[.int .i64 y.req.op, .int .i64 y.req.addr, .int .u64 y.req.value, .int .u64 y.req.old], .bool y.busy]) ∧ Aparts w0 w' [A, refP q y, C, D, F] ∧ Below w.heap.size w w' := by
  obtain ⟨T, h1, -⟩ := h.get (i := 1) rfl
  exact (rwant h1).mono fun e w' ⟨e1, k⟩ => ⟨e1, h.idle k, k⟩
theorem box_r {l : List Part} (h : Aparts w0 w l) (r : Rq) : Aparts w0 (w.alloc (.cells #[.int .i64 r.op, .int .i64 r.addr, .int .u64 r.value, .int .u64 r.old] 48)) l ∧ Holds (w.alloc (.cells #[.int .i64 r.op, .int .i64 r.addr, .int .u64 r.value, .int .u64 r.old] 48)) w.heap.size 48 [.int .i64 r.op, .int .i64 r.addr, .int .u64 r.value, .int .u64 r.old] :=
  ⟨h.idle ((Below.refl _ w).alloc (Nat.le_refl _) _), Holds.new w _ _⟩
theorem m_Answer (h : Aparts w0 w [A, B, memP b c m, D, F]) (hc : c ≤ 1000000) (r : Rq) (ha : I64 r.addr) (hv : W64 r.value) : Calls Try.prog 19 #[.map (some b), .agg #[.int .i64 r.op, .int .i64 r.addr, .int .u64 r.value, .int .u64 r.old]] w fun e w' => e = .returned (.tuple #[.int .u64 (m r.addr), .bool (okV m r)]) ∧ Aparts w0 w' [A, B, memP b (c + 1) (memV m r), D, F] := answer_a h (i := 2) rfl hc r ha hv rfl
theorem m_word (h : Aparts w0 w [A, B, memP b c m, D, F]) {a : Int} (ha : I64 a) : W64 (m a) := word_a h (i := 2) rfl ha
end

section
variable {w0 w : World} {p q b c : Nat} {y : PV} {m : Int → Int} {E : Part}

set_option maxRecDepth 100000 in
set_option maxHeartbeats 2000000 in
theorem do_6 (h : Aparts w0 w [pathP p y, refP q y, memP b c m, E]) (ho : y.ok) (h0 : 0 ≤ y.pts) (h9 : y.pts ≤ 1000000) (hc : c ≤ 1000000) (x : OpQ) (hk : x.kind = 6) :
    Calls Try.prog 11 #[.pointer (some ⟨p, 0, none⟩), .pointer (some ⟨q, 0, none⟩), .agg x.cells.toArray, .map (some b)] w (DP E w0 p q b c y) := by
  obtain ⟨kd, i, v, o⟩ := x
  simp only at hk
  subst hk
  have H : Hid (Aparts w0 (w.alloc (.cells (OpQ.cells ⟨6, i, v, o⟩).toArray 36)) [pathP p y, refP q y, memP b c m, E, boxP w.heap.size 36 (OpQ.cells ⟨6, i, v, o⟩)]) := Lib.hid (h.box 36 (OpQ.cells ⟨6, i, v, o⟩))
  have c0 := (box_cells H.out).cell (i := 0) rfl
  obtain ⟨q1, q2, q3⟩ := PV.req_ok ho
  have hv : W64 (m y.req.addr) := m_word H.out q1
  have HW : Hid (IntKind.i64.wrap y.errG = y.errG) := Lib.hid (by rcases errG_cases y with h | h <;> rw [h] <;> rfl)
  have hw := HW.out
  clear h
  simp only [OpQ.cells] at *
  go_enter Try.func11, Try.ntmps11
  go_wp2_with (first | (go_at_call 42; refine (r_Want H.out).mono ?_; rintro e V ⟨rfl, h⟩; obtain ⟨h1, hB⟩ := box_r h y.req; have k0 := hB.cell (i := 0) rfl; have k1 := hB.cell (i := 1) rfl; have k2 := hB.cell (i := 2) rfl; have k3 := hB.cell (i := 3) rfl; have H1 := Lib.hid h1; clear h h1 hB) | (go_at_call 19; refine (m_Answer H1.out hc y.req q1 q2).mono ?_; rintro e V2 ⟨rfl, h⟩; have H2 := Lib.hid h; clear h) | (go_at_call 14; refine (a_Give H2.out h0 h9 _ _ hv).mono ?_; rintro e V3 ⟨rfl, h⟩; have H3 := Lib.hid h; clear h) | (go_at_call 41; refine (r_Give H3.out h0 h9 _ _ hv).mono ?_; rintro e V4 ⟨rfl, h⟩; have H4 := Lib.hid h; clear h))
  go_ret
  have hp := PV.give_pts y (m y.req.addr) (okV m y.req)
  exact ⟨by simp, _, _, _, Nat.le_refl _, PV.give_ok ho hv _, by omega, by omega, H4.out.four⟩

set_option maxRecDepth 100000 in
set_option maxHeartbeats 2000000 in
theorem do_7 (h : Aparts w0 w [pathP p y, refP q y, memP b c m, E]) (ho : y.ok)  (x : OpQ) (hk : x.kind = 7) :
    Calls Try.prog 11 #[.pointer (some ⟨p, 0, none⟩), .pointer (some ⟨q, 0, none⟩), .agg x.cells.toArray, .map (some b)] w (DP E w0 p q b c y) := by
  obtain ⟨kd, i, v, o⟩ := x
  simp only at hk
  subst hk
  have H : Hid (Aparts w0 (w.alloc (.cells (OpQ.cells ⟨7, i, v, o⟩).toArray 36)) [pathP p y, refP q y, memP b c m, E, boxP w.heap.size 36 (OpQ.cells ⟨7, i, v, o⟩)]) := Lib.hid (h.box 36 (OpQ.cells ⟨7, i, v, o⟩))
  have c0 := (box_cells H.out).cell (i := 0) rfl
  clear h
  simp only [OpQ.cells] at *
  go_enter Try.func11, Try.ntmps11
  go_wp2_with (first | (go_at_call 18; refine (a_Want H.out).mono ?_; rintro e V ⟨rfl, h⟩; obtain ⟨h1, hB⟩ := box_r h y.req; have HB := Lib.hid hB; have H1 := Lib.hid h1; clear h h1 hB) | (go_at_call 42; refine (r_Want2 H1.out).mono ?_; rintro e V2 ⟨rfl, h, hb⟩; obtain ⟨h1, hC⟩ := box_r h y.req; have hr := ((HB.out.below hb).alloc (.cells #[.int .i64 y.req.op, .int .i64 y.req.addr, .int .u64 y.req.value, .int .u64 y.req.old] 48)); have k0 := hr.cell (i := 0) rfl; have k1 := hr.cell (i := 1) rfl; have k2 := hr.cell (i := 2) rfl; have k3 := hr.cell (i := 3) rfl; have j0 := hC.cell (i := 0) rfl; have j1 := hC.cell (i := 1) rfl; have j2 := hC.cell (i := 2) rfl; have j3 := hC.cell (i := 3) rfl; have H2 := Lib.hid h1; clear h h1 hC hr hb))
  go_ret
  exact H2.out.post ho (by omega) (by omega) (by simp)

set_option maxRecDepth 100000 in
set_option maxHeartbeats 2000000 in
theorem do_11 (h : Aparts w0 w [pathP p y, refP q y, memP b c m, E]) (ho : y.ok) (x : OpQ) (hk : x.kind ≠ 0 ∧ x.kind ≠ 1 ∧ x.kind ≠ 2 ∧ x.kind ≠ 3 ∧ x.kind ≠ 4 ∧ x.kind ≠ 5 ∧ x.kind ≠ 6 ∧ x.kind ≠ 7 ∧ x.kind ≠ 8 ∧ x.kind ≠ 9 ∧ x.kind ≠ 10) :
    Calls Try.prog 11 #[.pointer (some ⟨p, 0, none⟩), .pointer (some ⟨q, 0, none⟩), .agg x.cells.toArray, .map (some b)] w (DP E w0 p q b c y) := by
  obtain ⟨kd, i, v, o⟩ := x
  simp only at hk
  have H : Hid (Aparts w0 (w.alloc (.cells (OpQ.cells ⟨kd, i, v, o⟩).toArray 36)) [pathP p y, refP q y, memP b c m, E, boxP w.heap.size 36 (OpQ.cells ⟨kd, i, v, o⟩)]) := Lib.hid (h.box 36 (OpQ.cells ⟨kd, i, v, o⟩))
  have c0 := (box_cells H.out).cell (i := 0) rfl
  obtain ⟨k0, k1, k2, k3, k4, k5, k6, k7, k8, k9, k10⟩ := hk
  clear h
  simp only [OpQ.cells] at *
  go_enter Try.func11, Try.ntmps11
  go_wp2
  go_ret
  exact H.out.post ho (by omega) (by omega) rfl

set_option maxRecDepth 100000 in
set_option maxHeartbeats 2000000 in
theorem do_9 (h : Aparts w0 w [pathP p y, refP q y, memP b c m, E]) (ho : y.ok)  (x : OpQ) (hk : x.kind = 9) :
    Calls Try.prog 11 #[.pointer (some ⟨p, 0, none⟩), .pointer (some ⟨q, 0, none⟩), .agg x.cells.toArray, .map (some b)] w (DP E w0 p q b c y) := by
  obtain ⟨kd, i, v, o⟩ := x
  simp only at hk
  subst hk
  have H : Hid (Aparts w0 (w.alloc (.cells (OpQ.cells ⟨9, i, v, o⟩).toArray 36)) [pathP p y, refP q y, memP b c m, E, boxP w.heap.size 36 (OpQ.cells ⟨9, i, v, o⟩)]) := Lib.hid (h.box 36 (OpQ.cells ⟨9, i, v, o⟩))
  have c0 := (box_cells H.out).cell (i := 0) rfl
  obtain ⟨T, hR, -⟩ := H.out.get (i := 1) rfl
  obtain ⟨x, rv, wv, h1, h2, -⟩ := hR
  have c9 := h1.head.cell (i := 9) rfl
  have c14 := h1.head.cell (i := 14) rfl
  have c15 := h1.head.cell (i := 15) rfl
  rw [h2.val] at c9
  rw [h2.ended] at c14
  rw [h2.pts] at c15
  have HValue := Lib.hid (fun k : Nat => value_a (l := [pathP p y, refP q y, memP b c m, E, boxP w.heap.size 36 (OpQ.cells ⟨9, i, v, o⟩)]) (H.out.idle (below_drewN (Below.refl _ _) k)) (i := 0) rfl)
  have HEnded := Lib.hid (fun k : Nat => ended_a (l := [pathP p y, refP q y, memP b c m, E, boxP w.heap.size 36 (OpQ.cells ⟨9, i, v, o⟩)]) (H.out.idle (below_drewN (Below.refl _ _) k)) (i := 0) rfl)
  have HPoints := Lib.hid (fun k : Nat => points_a (l := [pathP p y, refP q y, memP b c m, E, boxP w.heap.size 36 (OpQ.cells ⟨9, i, v, o⟩)]) (H.out.idle (below_drewN (Below.refl _ _) k)) (i := 0) rfl)
  clear h h1
  simp only [OpQ.cells] at *
  go_enter Try.func11, Try.ntmps11
  go_wp2
  go_quiet ((first | (go_at_call 25; exact Calls.quiet_of_same ((HValue.out _).mono (fun _ _ h => ⟨h.1, h.2.symm⟩))) | (go_at_call 20; exact Calls.quiet_of_same ((HEnded.out _).mono (fun _ _ h => ⟨h.1, h.2.symm⟩))) | (go_at_call 26; exact Calls.quiet_of_same ((HPoints.out _).mono (fun _ _ h => ⟨h.1, h.2.symm⟩)))))
  go_wp2
  go_ret
  exact Aparts.post (H.out.idle (below_drewN (Below.refl _ _) _)) ho (by omega) (by omega) (by simp)
end

end Go.Proofs.Ythepmejfgbfilaa
