/- A node: what is refused, taken, heard. Conditions: those stated in each theorem. -/
import Derived.Test.YtddajnpichchfaaNodeK
namespace Go.Proofs.Ytddajnpichchfaa
open Go.RowKit Go.BigFrame Go.Sort

@[go_sem ↓ high] theorem eq_msg_lit (k c l d0 d1 d2 d3 d4 d5 d6 d7 : Int) (y : MsgV) (w : World) : (Op.equalIn 10000 52 (.agg #[.int .i64 k, .int .i64 c, .int .i64 l, .int .u64 d0, .int .u64 d1, .int .u64 d2, .int .u64 d3, .int .u64 d4, .int .u64 d5, .int .u64 d6, .int .u64 d7]) (.agg y.cells.toArray)).run Try.prog w = .ok (decide ((⟨k, c, l, ⟨d0, d1, d2, d3, d4, d5, d6, d7⟩⟩ : MsgV) = y)) w := eq_msgs ⟨k, c, l, ⟨d0, d1, d2, d3, d4, d5, d6, d7⟩⟩ y w

section
variable {w w' : World} {lo a p S : Nat} {bs : List Nat} {ways : Nat} {bv : Value} {n : Nd}

set_option maxRecDepth 100000 in
set_option maxHeartbeats 2000000 in
theorem refuses_inv (h : NodeAt w lo a p S bs ways bv n) (co ln : Int) (d : L8) :
    Calls Try.prog 61 #[.pointer (some ⟨a, 0, none⟩), .agg (MsgV.cells ⟨11, co, ln, d⟩).toArray] w fun e w' => e = .returned (.bool (decide (stateL n.ss ln = 2))) ∧ Below w.heap.size w w' := by
  have hb0 : Below w.heap.size w (w.alloc (.cells (MsgV.cells ⟨11, co, ln, d⟩).toArray 52)) := (Below.refl _ w).alloc (Nat.le_refl _) _
  have H := Lib.hid (h.below hb0 (Nat.le_refl _))
  have Hb := Lib.hid hb0
  have hal := h.head.lt
  clear h hb0
  simp only [MsgV.cells] at H Hb ⊢
  have HS := Lib.hid (state_any H.out ln)
  go_enter Try.func61, Try.ntmps61
  go_wp2_with fail
  refine HS.out.mono ?_
  rintro e w1 ⟨rfl, hb⟩
  have Hb1 := Lib.hid (Hb.out.trans (hb.mono (by simp))); clear hb
  go_wp2
  go_ret
  exact ⟨rfl, Hb1.out⟩

set_option maxRecDepth 100000 in
set_option maxHeartbeats 2000000 in
theorem refuses_rs (h : NodeAt w lo a p S bs ways bv n) (co ln : Int) (d : L8) :
    Calls Try.prog 61 #[.pointer (some ⟨a, 0, none⟩), .agg (MsgV.cells ⟨12, co, ln, d⟩).toArray] w fun e w' => e = .returned (.bool (decide (stateL n.ss ln = 1))) ∧ Below w.heap.size w w' := by
  have hb0 : Below w.heap.size w (w.alloc (.cells (MsgV.cells ⟨12, co, ln, d⟩).toArray 52)) := (Below.refl _ w).alloc (Nat.le_refl _) _
  have H := Lib.hid (h.below hb0 (Nat.le_refl _))
  have Hb := Lib.hid hb0
  have hal := h.head.lt
  clear h hb0
  simp only [MsgV.cells] at H Hb ⊢
  have HS := Lib.hid (state_any H.out ln)
  go_enter Try.func61, Try.ntmps61
  go_wp2_with fail
  refine HS.out.mono ?_
  rintro e w1 ⟨rfl, hb⟩
  have Hb1 := Lib.hid (Hb.out.trans (hb.mono (by simp))); clear hb
  go_wp2
  go_ret
  exact ⟨rfl, Hb1.out⟩

set_option maxRecDepth 100000 in
set_option maxHeartbeats 2000000 in
theorem refuses_rm (h : NodeAt w lo a p S bs ways bv n) (co ln : Int) (d : L8) :
    Calls Try.prog 61 #[.pointer (some ⟨a, 0, none⟩), .agg (MsgV.cells ⟨13, co, ln, d⟩).toArray] w fun e w' => e = .returned (.bool (decide (stateL n.ss ln = 1))) ∧ Below w.heap.size w w' := by
  have hb0 : Below w.heap.size w (w.alloc (.cells (MsgV.cells ⟨13, co, ln, d⟩).toArray 52)) := (Below.refl _ w).alloc (Nat.le_refl _) _
  have H := Lib.hid (h.below hb0 (Nat.le_refl _))
  have Hb := Lib.hid hb0
  have hal := h.head.lt
  clear h hb0
  simp only [MsgV.cells] at H Hb ⊢
  have HS := Lib.hid (state_any H.out ln)
  go_enter Try.func61, Try.ntmps61
  go_wp2_with fail
  refine HS.out.mono ?_
  rintro e w1 ⟨rfl, hb⟩
  have Hb1 := Lib.hid (Hb.out.trans (hb.mono (by simp))); clear hb
  go_wp2
  go_ret
  exact ⟨rfl, Hb1.out⟩

set_option maxRecDepth 100000 in
set_option maxHeartbeats 2000000 in
theorem refuses_gs (h : NodeAt w lo a p S bs ways bv n) (co ln : Int) (d : L8) :
    Calls Try.prog 61 #[.pointer (some ⟨a, 0, none⟩), .agg (MsgV.cells ⟨14, co, ln, d⟩).toArray] w fun e w' => e = .returned (.bool (decide (n.out ≠ n.msg 1 ln))) ∧ Below w.heap.size w w' := by
  have hb0 : Below w.heap.size w (w.alloc (.cells (MsgV.cells ⟨14, co, ln, d⟩).toArray 52)) := (Below.refl _ w).alloc (Nat.le_refl _) _
  have H := Lib.hid (h.below hb0 (Nat.le_refl _))
  have Hb := Lib.hid hb0
  have hal := h.head.lt
  clear h hb0
  simp only [MsgV.cells] at H Hb ⊢
  have hr : ∃ o0 o1 o2 q0 q1 q2 q3 q4 q5 q6 q7 : Int, n.out = ⟨o0, o1, o2, ⟨q0, q1, q2, q3, q4, q5, q6, q7⟩⟩ := ⟨_, _, _, _, _, _, _, _, _, _, _, rfl⟩
  obtain ⟨o0, o1, o2, q0, q1, q2, q3, q4, q5, q6, q7, ho⟩ := hr
  have Ho := Lib.hid ho
  have hB : (w.alloc (.cells #[.int .i64 14, .int .i64 co, .int .i64 ln, .int .u64 d.x0, .int .u64 d.x1, .int .u64 d.x2, .int .u64 d.x3, .int .u64 d.x4, .int .u64 d.x5, .int .u64 d.x6, .int .u64 d.x7] 52)).cell? ⟨w.heap.size, 2, none⟩ = some (.int .i64 ln) := (Holds.new w 52 (MsgV.cells ⟨14, co, ln, d⟩)).cell (i := 2) rfl
  have HK : Hid (∀ V, Below (w.alloc (.cells #[.int .i64 14, .int .i64 co, .int .i64 ln, .int .u64 d.x0, .int .u64 d.x1, .int .u64 d.x2, .int .u64 d.x3, .int .u64 d.x4, .int .u64 d.x5, .int .u64 d.x6, .int .u64 d.x7] 52)).heap.size (w.alloc (.cells #[.int .i64 14, .int .i64 co, .int .i64 ln, .int .u64 d.x0, .int .u64 d.x1, .int .u64 d.x2, .int .u64 d.x3, .int .u64 d.x4, .int .u64 d.x5, .int .u64 d.x6, .int .u64 d.x7] 52)) V → (V.cell? ⟨w.heap.size, 2, none⟩ = some (.int .i64 ln) ∧ V.cell? ⟨a, 3, none⟩ = some (.int .i64 o0) ∧ V.cell? ⟨a, 4, none⟩ = some (.int .i64 o1) ∧ V.cell? ⟨a, 5, none⟩ = some (.int .i64 o2) ∧ V.cell? ⟨a, 6, none⟩ = some (.int .u64 q0) ∧ V.cell? ⟨a, 7, none⟩ = some (.int .u64 q1) ∧ V.cell? ⟨a, 8, none⟩ = some (.int .u64 q2) ∧ V.cell? ⟨a, 9, none⟩ = some (.int .u64 q3) ∧ V.cell? ⟨a, 10, none⟩ = some (.int .u64 q4) ∧ V.cell? ⟨a, 11, none⟩ = some (.int .u64 q5) ∧ V.cell? ⟨a, 12, none⟩ = some (.int .u64 q6) ∧ V.cell? ⟨a, 13, none⟩ = some (.int .u64 q7))) := Lib.hid (fun V hV => by
    have h2 := (H.out.below hV (Nat.le_refl _)).outRow
    rw [ho] at h2
    have hc : V.cell? ⟨w.heap.size, 2, none⟩ = some (.int .i64 ln) := (hV.cell (p := ⟨w.heap.size, 2, none⟩) (by simp)).trans hB
    exact ⟨hc, h2 0 _ rfl, h2 1 _ rfl, h2 2 _ rfl, h2 3 _ rfl, h2 4 _ rfl, h2 5 _ rfl, h2 6 _ rfl, h2 7 _ rfl, h2 8 _ rfl, h2 9 _ rfl, h2 10 _ rfl⟩)
  clear ho hB
  go_enter Try.func61, Try.ntmps61
  go_wp2
  generalize (w.alloc (.cells #[.int .i64 14, .int .i64 co, .int .i64 ln, .int .u64 d.x0, .int .u64 d.x1, .int .u64 d.x2, .int .u64 d.x3, .int .u64 d.x4, .int .u64 d.x5, .int .u64 d.x6, .int .u64 d.x7] 52)) = W at *
  generalize hB9 : w.heap.size = B at *
  have HB9 := Lib.hid hB9; clear hB9
  obtain ⟨b2, r0, r1, r2, r3, r4, r5, r6, r7, r8, r9, r10⟩ := HK.out W (Below.refl _ _)
  have hbd : Below W.heap.size W W.drew := drew_below (Below.refl _ _)
  have Hbd := Lib.hid hbd
  have HM := Lib.hid (message_any (H.out.below hbd (Nat.le_refl _)) 1 ln)
  clear hbd
  go_region_held3 (fun V => V.cell? ⟨B, 2, none⟩ = some (.int .i64 ln) ∧ V.cell? ⟨a, 3, none⟩ = some (.int .i64 o0) ∧ V.cell? ⟨a, 4, none⟩ = some (.int .i64 o1) ∧ V.cell? ⟨a, 5, none⟩ = some (.int .i64 o2) ∧ V.cell? ⟨a, 6, none⟩ = some (.int .u64 q0) ∧ V.cell? ⟨a, 7, none⟩ = some (.int .u64 q1) ∧ V.cell? ⟨a, 8, none⟩ = some (.int .u64 q2) ∧ V.cell? ⟨a, 9, none⟩ = some (.int .u64 q3) ∧ V.cell? ⟨a, 10, none⟩ = some (.int .u64 q4) ∧ V.cell? ⟨a, 11, none⟩ = some (.int .u64 q5) ∧ V.cell? ⟨a, 12, none⟩ = some (.int .u64 q6) ∧ V.cell? ⟨a, 13, none⟩ = some (.int .u64 q7)) (first | with_reducible exact HK.out _ Hbd.out | with_reducible exact HK.out _ hbV) (first | (go_at_call 85; (with_reducible refine HM.out.mono ?_); rintro e V ⟨rfl, hbm⟩; have hbV := Hbd.out.trans (hbm.mono Hbd.out.size)))
  all_goals
    have HbV := Lib.hid hbV
    clear hbV hbm b2 r0 r1 r2 r3 r4 r5 r6 r7 r8 r9 r10
    go_wp2
    go_ret
    exact ⟨by rw [Ho.out]; simp, by have h := Hb.out; rw [← HB9.out] at h; exact h.trans (HbV.out.mono h.size)⟩

set_option maxRecDepth 100000 in
set_option maxHeartbeats 2000000 in
theorem refuses_gm (h : NodeAt w lo a p S bs ways bv n) (co ln : Int) (d : L8) :
    Calls Try.prog 61 #[.pointer (some ⟨a, 0, none⟩), .agg (MsgV.cells ⟨15, co, ln, d⟩).toArray] w fun e w' => e = .returned (.bool (decide (n.out ≠ n.msg 2 ln))) ∧ Below w.heap.size w w' := by
  have hb0 : Below w.heap.size w (w.alloc (.cells (MsgV.cells ⟨15, co, ln, d⟩).toArray 52)) := (Below.refl _ w).alloc (Nat.le_refl _) _
  have H := Lib.hid (h.below hb0 (Nat.le_refl _))
  have Hb := Lib.hid hb0
  have hal := h.head.lt
  clear h hb0
  simp only [MsgV.cells] at H Hb ⊢
  have hr : ∃ o0 o1 o2 q0 q1 q2 q3 q4 q5 q6 q7 : Int, n.out = ⟨o0, o1, o2, ⟨q0, q1, q2, q3, q4, q5, q6, q7⟩⟩ := ⟨_, _, _, _, _, _, _, _, _, _, _, rfl⟩
  obtain ⟨o0, o1, o2, q0, q1, q2, q3, q4, q5, q6, q7, ho⟩ := hr
  have Ho := Lib.hid ho
  have hB : (w.alloc (.cells #[.int .i64 15, .int .i64 co, .int .i64 ln, .int .u64 d.x0, .int .u64 d.x1, .int .u64 d.x2, .int .u64 d.x3, .int .u64 d.x4, .int .u64 d.x5, .int .u64 d.x6, .int .u64 d.x7] 52)).cell? ⟨w.heap.size, 2, none⟩ = some (.int .i64 ln) := (Holds.new w 52 (MsgV.cells ⟨15, co, ln, d⟩)).cell (i := 2) rfl
  have HK : Hid (∀ V, Below (w.alloc (.cells #[.int .i64 15, .int .i64 co, .int .i64 ln, .int .u64 d.x0, .int .u64 d.x1, .int .u64 d.x2, .int .u64 d.x3, .int .u64 d.x4, .int .u64 d.x5, .int .u64 d.x6, .int .u64 d.x7] 52)).heap.size (w.alloc (.cells #[.int .i64 15, .int .i64 co, .int .i64 ln, .int .u64 d.x0, .int .u64 d.x1, .int .u64 d.x2, .int .u64 d.x3, .int .u64 d.x4, .int .u64 d.x5, .int .u64 d.x6, .int .u64 d.x7] 52)) V → (V.cell? ⟨w.heap.size, 2, none⟩ = some (.int .i64 ln) ∧ V.cell? ⟨a, 3, none⟩ = some (.int .i64 o0) ∧ V.cell? ⟨a, 4, none⟩ = some (.int .i64 o1) ∧ V.cell? ⟨a, 5, none⟩ = some (.int .i64 o2) ∧ V.cell? ⟨a, 6, none⟩ = some (.int .u64 q0) ∧ V.cell? ⟨a, 7, none⟩ = some (.int .u64 q1) ∧ V.cell? ⟨a, 8, none⟩ = some (.int .u64 q2) ∧ V.cell? ⟨a, 9, none⟩ = some (.int .u64 q3) ∧ V.cell? ⟨a, 10, none⟩ = some (.int .u64 q4) ∧ V.cell? ⟨a, 11, none⟩ = some (.int .u64 q5) ∧ V.cell? ⟨a, 12, none⟩ = some (.int .u64 q6) ∧ V.cell? ⟨a, 13, none⟩ = some (.int .u64 q7))) := Lib.hid (fun V hV => by
    have h2 := (H.out.below hV (Nat.le_refl _)).outRow
    rw [ho] at h2
    have hc : V.cell? ⟨w.heap.size, 2, none⟩ = some (.int .i64 ln) := (hV.cell (p := ⟨w.heap.size, 2, none⟩) (by simp)).trans hB
    exact ⟨hc, h2 0 _ rfl, h2 1 _ rfl, h2 2 _ rfl, h2 3 _ rfl, h2 4 _ rfl, h2 5 _ rfl, h2 6 _ rfl, h2 7 _ rfl, h2 8 _ rfl, h2 9 _ rfl, h2 10 _ rfl⟩)
  clear ho hB
  go_enter Try.func61, Try.ntmps61
  go_wp2
  generalize (w.alloc (.cells #[.int .i64 15, .int .i64 co, .int .i64 ln, .int .u64 d.x0, .int .u64 d.x1, .int .u64 d.x2, .int .u64 d.x3, .int .u64 d.x4, .int .u64 d.x5, .int .u64 d.x6, .int .u64 d.x7] 52)) = W at *
  generalize hB9 : w.heap.size = B at *
  have HB9 := Lib.hid hB9; clear hB9
  obtain ⟨b2, r0, r1, r2, r3, r4, r5, r6, r7, r8, r9, r10⟩ := HK.out W (Below.refl _ _)
  have hbd : Below W.heap.size W W.drew := drew_below (Below.refl _ _)
  have Hbd := Lib.hid hbd
  have HM := Lib.hid (message_any (H.out.below hbd (Nat.le_refl _)) 2 ln)
  clear hbd
  go_region_held3 (fun V => V.cell? ⟨B, 2, none⟩ = some (.int .i64 ln) ∧ V.cell? ⟨a, 3, none⟩ = some (.int .i64 o0) ∧ V.cell? ⟨a, 4, none⟩ = some (.int .i64 o1) ∧ V.cell? ⟨a, 5, none⟩ = some (.int .i64 o2) ∧ V.cell? ⟨a, 6, none⟩ = some (.int .u64 q0) ∧ V.cell? ⟨a, 7, none⟩ = some (.int .u64 q1) ∧ V.cell? ⟨a, 8, none⟩ = some (.int .u64 q2) ∧ V.cell? ⟨a, 9, none⟩ = some (.int .u64 q3) ∧ V.cell? ⟨a, 10, none⟩ = some (.int .u64 q4) ∧ V.cell? ⟨a, 11, none⟩ = some (.int .u64 q5) ∧ V.cell? ⟨a, 12, none⟩ = some (.int .u64 q6) ∧ V.cell? ⟨a, 13, none⟩ = some (.int .u64 q7)) (first | with_reducible exact HK.out _ Hbd.out | with_reducible exact HK.out _ hbV) (first | (go_at_call 85; (with_reducible refine HM.out.mono ?_); rintro e V ⟨rfl, hbm⟩; have hbV := Hbd.out.trans (hbm.mono Hbd.out.size)))
  all_goals
    have HbV := Lib.hid hbV
    clear hbV hbm b2 r0 r1 r2 r3 r4 r5 r6 r7 r8 r9 r10
    go_wp2
    go_ret
    exact ⟨by rw [Ho.out]; simp, by have h := Hb.out; rw [← HB9.out] at h; exact h.trans (HbV.out.mono h.size)⟩

set_option maxRecDepth 100000 in
set_option maxHeartbeats 2000000 in
theorem refuses_ack (h : NodeAt w lo a p S bs ways bv n) (co ln : Int) (d : L8) (hl : n.backs.length ≤ 1000000) :
    Calls Try.prog 61 #[.pointer (some ⟨a, 0, none⟩), .agg (MsgV.cells ⟨16, co, ln, d⟩).toArray] w fun e w' => e = .returned (.bool (!n.gave ln)) ∧ Below w.heap.size w w' := by
  have hb0 : Below w.heap.size w (w.alloc (.cells (MsgV.cells ⟨16, co, ln, d⟩).toArray 52)) := (Below.refl _ w).alloc (Nat.le_refl _) _
  have H := Lib.hid (h.below hb0 (Nat.le_refl _))
  have Hb := Lib.hid hb0
  have hal := h.head.lt
  clear h hb0
  simp only [MsgV.cells] at H Hb ⊢
  have HS := Lib.hid (gave_any H.out ln hl)
  go_enter Try.func61, Try.ntmps61
  go_wp2_with fail
  refine HS.out.mono ?_
  rintro e w1 ⟨rfl, hb⟩
  have Hb1 := Lib.hid (Hb.out.trans (hb.mono (by simp))); clear hb
  go_wp2
  go_ret
  exact ⟨rfl, Hb1.out⟩

set_option maxRecDepth 100000 in
set_option maxHeartbeats 2000000 in
theorem refuses_other (h : NodeAt w lo a p S bs ways bv n) (kd co ln : Int) (d : L8) (h1 : (kd == 11) = false) (h2 : (kd == 12) = false) (h3 : (kd == 13) = false) (h4 : (kd == 14) = false) (h5 : (kd == 15) = false) (h6 : (kd == 16) = false) :
    Calls Try.prog 61 #[.pointer (some ⟨a, 0, none⟩), .agg (MsgV.cells ⟨kd, co, ln, d⟩).toArray] w fun e w' => e = .returned (.bool (true)) ∧ Below w.heap.size w w' := by
  have hb0 : Below w.heap.size w (w.alloc (.cells (MsgV.cells ⟨kd, co, ln, d⟩).toArray 52)) := (Below.refl _ w).alloc (Nat.le_refl _) _
  have H := Lib.hid (h.below hb0 (Nat.le_refl _))
  have Hb := Lib.hid hb0
  have hal := h.head.lt
  clear h hb0
  simp only [MsgV.cells] at H Hb ⊢
  go_enter Try.func61, Try.ntmps61
  go_wp2
  go_ret
  exact ⟨rfl, Hb.out⟩

theorem refuses_any (h : NodeAt w lo a p S bs ways bv n) (m : MsgV) (hl : n.backs.length ≤ 1000000) :
    Calls Try.prog 61 #[.pointer (some ⟨a, 0, none⟩), .agg m.cells.toArray] w fun e w' => e = .returned (.bool (n.refuses m)) ∧ Below w.heap.size w w' := by
  obtain ⟨kd, co, ln, d⟩ := m
  unfold Nd.refuses
  by_cases h1 : kd = 11
  · subst h1; simpa using refuses_inv h co ln d
  by_cases h2 : kd = 12
  · subst h2; simpa using refuses_rs h co ln d
  by_cases h3 : kd = 13
  · subst h3; simpa using refuses_rm h co ln d
  by_cases h4 : kd = 14
  · subst h4; simpa using refuses_gs h co ln d
  by_cases h5 : kd = 15
  · subst h5; simpa using refuses_gm h co ln d
  by_cases h6 : kd = 16
  · subst h6; simpa using refuses_ack h co ln d hl
  · have := refuses_other h kd co ln d (by simpa using h1) (by simpa using h2) (by simpa using h3) (by simpa using h4) (by simpa using h5) (by simpa using h6)
    simpa [h1, h2, h3, h4, h5, h6] using this

set_option maxRecDepth 100000 in
set_option maxHeartbeats 2000000 in
theorem take_inv (h : NodeAt w lo a p S bs ways bv n) (co ln : Int) (d : L8) :
    Calls Try.prog 62 #[.pointer (some ⟨a, 0, none⟩), .agg (MsgV.cells ⟨11, co, ln, d⟩).toArray] w fun e w' => ∃ v, e = .returned v ∧ NOut w lo a p S bs ways bv (n.hearInv ln).1 (n.hearInv ln).2 v w' := by
  have hb0 : Below w.heap.size w (w.alloc (.cells (MsgV.cells ⟨11, co, ln, d⟩).toArray 52)) := (Below.refl _ w).alloc (Nat.le_refl _) _
  have h1 := h.below hb0 (Nat.le_refl _)
  have HT := Lib.hid (below_own (a := a) (p := p) (bs := bs) (bv := bv) hb0)
  clear h hb0
  have HS := Lib.hid (hearInv_any h1 ln)
  clear h1
  simp only [MsgV.cells] at HT HS ⊢
  go_enter Try.func62, Try.ntmps62
  go_wp2_with fail
  refine HS.out.mono ?_
  rintro e w1 ⟨v, rfl, hn⟩
  have HN := Lib.hid (hn.after HT.out); clear hn
  go_wp2
  go_ret
  exact ⟨v, rfl, HN.out⟩

set_option maxRecDepth 100000 in
set_option maxHeartbeats 2000000 in
theorem take_rs (h : NodeAt w lo a p S bs ways bv n) (co ln : Int) (d : L8) :
    Calls Try.prog 62 #[.pointer (some ⟨a, 0, none⟩), .agg (MsgV.cells ⟨12, co, ln, d⟩).toArray] w fun e w' => ∃ v, e = .returned v ∧ NOut w lo a p S bs ways bv (n.hearRS ln).1 (n.hearRS ln).2 v w' := by
  have hb0 : Below w.heap.size w (w.alloc (.cells (MsgV.cells ⟨12, co, ln, d⟩).toArray 52)) := (Below.refl _ w).alloc (Nat.le_refl _) _
  have h1 := h.below hb0 (Nat.le_refl _)
  have HT := Lib.hid (below_own (a := a) (p := p) (bs := bs) (bv := bv) hb0)
  clear h hb0
  have HS := Lib.hid (hearRS_any h1 ln)
  clear h1
  simp only [MsgV.cells] at HT HS ⊢
  go_enter Try.func62, Try.ntmps62
  go_wp2_with fail
  refine HS.out.mono ?_
  rintro e w1 ⟨v, rfl, hn⟩
  have HN := Lib.hid (hn.after HT.out); clear hn
  go_wp2
  go_ret
  exact ⟨v, rfl, HN.out⟩

set_option maxRecDepth 100000 in
set_option maxHeartbeats 2000000 in
theorem take_rm (h : NodeAt w lo a p S bs ways bv n) (co ln : Int) (d : L8) :
    Calls Try.prog 62 #[.pointer (some ⟨a, 0, none⟩), .agg (MsgV.cells ⟨13, co, ln, d⟩).toArray] w fun e w' => ∃ v, e = .returned v ∧ NOut w lo a p S bs ways bv (n.hearRM ln).1 (n.hearRM ln).2 v w' := by
  have hb0 : Below w.heap.size w (w.alloc (.cells (MsgV.cells ⟨13, co, ln, d⟩).toArray 52)) := (Below.refl _ w).alloc (Nat.le_refl _) _
  have h1 := h.below hb0 (Nat.le_refl _)
  have HT := Lib.hid (below_own (a := a) (p := p) (bs := bs) (bv := bv) hb0)
  clear h hb0
  have HS := Lib.hid (hearRM_any h1 ln)
  clear h1
  simp only [MsgV.cells] at HT HS ⊢
  go_enter Try.func62, Try.ntmps62
  go_wp2_with fail
  refine HS.out.mono ?_
  rintro e w1 ⟨v, rfl, hn⟩
  have HN := Lib.hid (hn.after HT.out); clear hn
  go_wp2
  go_ret
  exact ⟨v, rfl, HN.out⟩

set_option maxRecDepth 100000 in
set_option maxHeartbeats 2000000 in
theorem take_gs (h : NodeAt w lo a p S bs ways bv n) (co ln : Int) (d : L8) (h0 : 0 ≤ n.u) (hu : n.u < 4294967296) (hl : n.backs.length < 100000) :
    Calls Try.prog 62 #[.pointer (some ⟨a, 0, none⟩), .agg (MsgV.cells ⟨14, co, ln, d⟩).toArray] w fun e w' => ∃ v, e = .returned v ∧ NOut w lo a p S bs ways bv (n.hearG ⟨14, co, ln, d⟩ 1).1 (n.hearG ⟨14, co, ln, d⟩ 1).2 v w' := by
  have hb0 : Below w.heap.size w (w.alloc (.cells (MsgV.cells ⟨14, co, ln, d⟩).toArray 52)) := (Below.refl _ w).alloc (Nat.le_refl _) _
  have h1 := h.below hb0 (Nat.le_refl _)
  have HT := Lib.hid (below_own (a := a) (p := p) (bs := bs) (bv := bv) hb0)
  clear h hb0
  have HS := Lib.hid (hearG_any h1 ⟨14, co, ln, d⟩ 1 h0 hu hl)
  clear h1
  simp only [MsgV.cells] at HT HS ⊢
  go_enter Try.func62, Try.ntmps62
  go_wp2_with fail
  refine HS.out.mono ?_
  rintro e w1 ⟨v, rfl, hn⟩
  have HN := Lib.hid (hn.after HT.out); clear hn
  go_wp2
  go_ret
  exact ⟨v, rfl, HN.out⟩

set_option maxRecDepth 100000 in
set_option maxHeartbeats 2000000 in
theorem take_gm (h : NodeAt w lo a p S bs ways bv n) (co ln : Int) (d : L8) (h0 : 0 ≤ n.u) (hu : n.u < 4294967296) (hl : n.backs.length < 100000) :
    Calls Try.prog 62 #[.pointer (some ⟨a, 0, none⟩), .agg (MsgV.cells ⟨15, co, ln, d⟩).toArray] w fun e w' => ∃ v, e = .returned v ∧ NOut w lo a p S bs ways bv (n.hearG ⟨15, co, ln, d⟩ 2).1 (n.hearG ⟨15, co, ln, d⟩ 2).2 v w' := by
  have hb0 : Below w.heap.size w (w.alloc (.cells (MsgV.cells ⟨15, co, ln, d⟩).toArray 52)) := (Below.refl _ w).alloc (Nat.le_refl _) _
  have h1 := h.below hb0 (Nat.le_refl _)
  have HT := Lib.hid (below_own (a := a) (p := p) (bs := bs) (bv := bv) hb0)
  clear h hb0
  have HS := Lib.hid (hearG_any h1 ⟨15, co, ln, d⟩ 2 h0 hu hl)
  clear h1
  simp only [MsgV.cells] at HT HS ⊢
  go_enter Try.func62, Try.ntmps62
  go_wp2_with fail
  refine HS.out.mono ?_
  rintro e w1 ⟨v, rfl, hn⟩
  have HN := Lib.hid (hn.after HT.out); clear hn
  go_wp2
  go_ret
  exact ⟨v, rfl, HN.out⟩

set_option maxRecDepth 100000 in
set_option maxHeartbeats 2000000 in
theorem take_ack (h : NodeAt w lo a p S bs ways bv n) (co ln : Int) (d : L8) (hg : n.gave ln = true) (hl : n.backs.length < 100000) :
    Calls Try.prog 62 #[.pointer (some ⟨a, 0, none⟩), .agg (MsgV.cells ⟨16, co, ln, d⟩).toArray] w fun e w' => ∃ v, e = .returned v ∧ NOut w lo a p S bs ways bv (n.hearPA ln) [] v w' := by
  have hb0 : Below w.heap.size w (w.alloc (.cells (MsgV.cells ⟨16, co, ln, d⟩).toArray 52)) := (Below.refl _ w).alloc (Nat.le_refl _) _
  have h1 := h.below hb0 (Nat.le_refl _)
  have HT := Lib.hid (below_own (a := a) (p := p) (bs := bs) (bv := bv) hb0)
  clear h hb0
  have HS := Lib.hid (hearPA_any h1 ln hg hl)
  clear h1
  simp only [MsgV.cells] at HT HS ⊢
  go_enter Try.func62, Try.ntmps62
  go_wp2_with fail
  refine HS.out.mono ?_
  rintro e w1 ⟨v, rfl, hn⟩
  have HN := Lib.hid (hn.after HT.out); clear hn
  go_wp2
  go_ret
  exact ⟨v, rfl, HN.out⟩

theorem take_any (h : NodeAt w lo a p S bs ways bv n) (m : MsgV) (h0 : 0 ≤ n.u) (hu : n.u < 4294967296) (hl : n.backs.length < 100000) (hr : n.refuses m = false) :
    Calls Try.prog 62 #[.pointer (some ⟨a, 0, none⟩), .agg m.cells.toArray] w fun e w' => ∃ v, e = .returned v ∧ NOut w lo a p S bs ways bv (n.take m).1 (n.take m).2 v w' := by
  obtain ⟨kd, co, ln, d⟩ := m
  unfold Nd.take
  unfold Nd.refuses at hr
  by_cases h1 : kd = 11
  · subst h1; simpa using take_inv h co ln d
  by_cases h2 : kd = 12
  · subst h2; simpa using take_rs h co ln d
  by_cases h3 : kd = 13
  · subst h3; simpa using take_rm h co ln d
  by_cases h4 : kd = 14
  · subst h4; simpa using take_gs h co ln d h0 hu hl
  by_cases h5 : kd = 15
  · subst h5; simpa using take_gm h co ln d h0 hu hl
  by_cases h6 : kd = 16
  · subst h6; simpa using take_ack h co ln d (by simpa using hr) hl
  · simp [h1, h2, h3, h4, h5, h6] at hr

end

end Go.Proofs.Ytddajnpichchfaa
