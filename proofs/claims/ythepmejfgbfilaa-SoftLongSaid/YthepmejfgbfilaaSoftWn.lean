/- The document's own path: Want. Conditions: those stated in each theorem. -/
import Derived.Test.YthepmejfgbfilaaSoftX
namespace Go.Proofs.Ythepmejfgbfilaa
open Go.RowKit Go.BigFrame Go.Maps

section
variable {w w' W : World} {C M T : Nat → Prop} {q : Nat} {y : PV}

set_option maxRecDepth 100000 in
set_option maxHeartbeats 400000 in
theorem wn_no (h : RAt w T q y)  (hy : y.at_ = .no) : Calls Try.prog 42 #[.pointer (some ⟨q, 0, none⟩)] w fun e w' => e = .returned (.tuple #[.agg (Rq.cells ⟨0, 0, 0, 0⟩).toArray, .bool false]) ∧ Below w.heap.size w w' := by
  obtain ⟨x, rv, wv, h1, h2, h3, h4, h5, h6, h7⟩ := h
  have ha := h2.at_
  rw [hy] at ha
  have hb0 : Below w.heap.size w ((w.alloc (.cells (Rq.cells ⟨0, 0, 0, 0⟩).toArray 48)).alloc (.cells (Rq.cells ⟨1, 0, 0, 0⟩).toArray 48)) := ((Below.refl _ w).alloc (Nat.le_refl _) _).alloc (by simp) _
  have hlt0 := h1.head.lt
  have hA : Holds ((w.alloc (.cells (Rq.cells ⟨0, 0, 0, 0⟩).toArray 48)).alloc (.cells (Rq.cells ⟨1, 0, 0, 0⟩).toArray 48)) w.heap.size 48 (Rq.cells ⟨0, 0, 0, 0⟩) := (Holds.new w _ _).alloc _
  have hB : Holds ((w.alloc (.cells (Rq.cells ⟨0, 0, 0, 0⟩).toArray 48)).alloc (.cells (Rq.cells ⟨1, 0, 0, 0⟩).toArray 48)) (w.heap.size + 1) 48 (Rq.cells ⟨1, 0, 0, 0⟩) := by
    have := Holds.new (w.alloc (.cells (Rq.cells ⟨0, 0, 0, 0⟩).toArray 48)) 48 (Rq.cells ⟨1, 0, 0, 0⟩)
    simpa using this
  have h1 := h1.below hb0
  have hlt := h1.head.lt
  have hsn := h2.snap
  have c0 := h1.head.cell (i := 0) rfl
  have hc : x.code = 0 := ha
  rw [hc] at c0
  clear h1 h2 h3 h4 h5
  have n1 : q ≠ w.heap.size := by omega
  have n2 : q ≠ w.heap.size + 1 := by omega
  unfold Rq.cells at *
  go_enter Try.func42, Try.ntmps42
  go_wp2
  refine bodyPost_ret (results_ct rfl rfl ?_ rfl) rfl ⟨rfl, ?_⟩
  · refine Try.loadReq ⟨0, 0, 0, 0⟩ (fun i v hi => ?_)
    rw [Nat.zero_add]
    refine Holds.cell (L := Rq.cells ⟨0, 0, 0, 0⟩) (t := 48) ?_ hi
    repeat first | exact Holds.new w _ _ | refine Holds.alloc ?_ _ | refine Holds.drewN ?_ _
  · repeat first | exact Below.refl _ _ | refine Below.alloc ?_ (by simp) _ | refine below_drewN ?_ _

set_option maxRecDepth 100000 in
set_option maxHeartbeats 400000 in
theorem wn_beginN (h : RAt w T q y)  (hy : y.at_ = .beginN) : Calls Try.prog 42 #[.pointer (some ⟨q, 0, none⟩)] w fun e w' => e = .returned (.tuple #[.agg (Rq.cells ⟨1, 1, 0, 0⟩).toArray, .bool true]) ∧ Below w.heap.size w w' := by
  obtain ⟨x, rv, wv, h1, h2, h3, h4, h5, h6, h7⟩ := h
  have ha := h2.at_
  rw [hy] at ha
  have hb0 : Below w.heap.size w ((w.alloc (.cells (Rq.cells ⟨0, 0, 0, 0⟩).toArray 48)).alloc (.cells (Rq.cells ⟨1, 0, 0, 0⟩).toArray 48)) := ((Below.refl _ w).alloc (Nat.le_refl _) _).alloc (by simp) _
  have hlt0 := h1.head.lt
  have hA : Holds ((w.alloc (.cells (Rq.cells ⟨0, 0, 0, 0⟩).toArray 48)).alloc (.cells (Rq.cells ⟨1, 0, 0, 0⟩).toArray 48)) w.heap.size 48 (Rq.cells ⟨0, 0, 0, 0⟩) := (Holds.new w _ _).alloc _
  have hB : Holds ((w.alloc (.cells (Rq.cells ⟨0, 0, 0, 0⟩).toArray 48)).alloc (.cells (Rq.cells ⟨1, 0, 0, 0⟩).toArray 48)) (w.heap.size + 1) 48 (Rq.cells ⟨1, 0, 0, 0⟩) := by
    have := Holds.new (w.alloc (.cells (Rq.cells ⟨0, 0, 0, 0⟩).toArray 48)) 48 (Rq.cells ⟨1, 0, 0, 0⟩)
    simpa using this
  have h1 := h1.below hb0
  have hlt := h1.head.lt
  have hsn := h2.snap
  have c0 := h1.head.cell (i := 0) rfl
  have hc : x.code = 1 := ha
  rw [hc] at c0
  clear h1 h2 h3 h4 h5
  have n1 : q ≠ w.heap.size := by omega
  have n2 : q ≠ w.heap.size + 1 := by omega
  unfold Rq.cells at *
  go_enter Try.func42, Try.ntmps42
  go_wp2
  refine bodyPost_ret (results_ct rfl rfl ?_ rfl) rfl ⟨rfl, ?_⟩
  · refine Try.loadReq ⟨1, 1, 0, 0⟩ (fun i v hi => ?_)
    rw [Nat.zero_add]
    refine Holds.cell (L := Rq.cells ⟨1, 1, 0, 0⟩) (t := 48) ?_ hi
    repeat first | exact Holds.new w _ _ | refine Holds.alloc ?_ _ | refine Holds.drewN ?_ _
  · repeat first | exact Below.refl _ _ | refine Below.alloc ?_ (by simp) _ | refine below_drewN ?_ _

set_option maxRecDepth 100000 in
set_option maxHeartbeats 400000 in
theorem wn_leaveN (h : RAt w T q y) (how : Int) (hy : y.at_ = .leaveN how) : Calls Try.prog 42 #[.pointer (some ⟨q, 0, none⟩)] w fun e w' => e = .returned (.tuple #[.agg (Rq.cells ⟨1, 1, 0, 0⟩).toArray, .bool true]) ∧ Below w.heap.size w w' := by
  obtain ⟨x, rv, wv, h1, h2, h3, h4, h5, h6, h7⟩ := h
  have ha := h2.at_
  rw [hy] at ha
  have hb0 : Below w.heap.size w ((w.alloc (.cells (Rq.cells ⟨0, 0, 0, 0⟩).toArray 48)).alloc (.cells (Rq.cells ⟨1, 0, 0, 0⟩).toArray 48)) := ((Below.refl _ w).alloc (Nat.le_refl _) _).alloc (by simp) _
  have hlt0 := h1.head.lt
  have hA : Holds ((w.alloc (.cells (Rq.cells ⟨0, 0, 0, 0⟩).toArray 48)).alloc (.cells (Rq.cells ⟨1, 0, 0, 0⟩).toArray 48)) w.heap.size 48 (Rq.cells ⟨0, 0, 0, 0⟩) := (Holds.new w _ _).alloc _
  have hB : Holds ((w.alloc (.cells (Rq.cells ⟨0, 0, 0, 0⟩).toArray 48)).alloc (.cells (Rq.cells ⟨1, 0, 0, 0⟩).toArray 48)) (w.heap.size + 1) 48 (Rq.cells ⟨1, 0, 0, 0⟩) := by
    have := Holds.new (w.alloc (.cells (Rq.cells ⟨0, 0, 0, 0⟩).toArray 48)) 48 (Rq.cells ⟨1, 0, 0, 0⟩)
    simpa using this
  have h1 := h1.below hb0
  have hlt := h1.head.lt
  have hsn := h2.snap
  have c0 := h1.head.cell (i := 0) rfl
  have hc : x.code = 12 := ha.1
  rw [hc] at c0
  clear h1 h2 h3 h4 h5
  have n1 : q ≠ w.heap.size := by omega
  have n2 : q ≠ w.heap.size + 1 := by omega
  unfold Rq.cells at *
  go_enter Try.func42, Try.ntmps42
  go_wp2
  refine bodyPost_ret (results_ct rfl rfl ?_ rfl) rfl ⟨rfl, ?_⟩
  · refine Try.loadReq ⟨1, 1, 0, 0⟩ (fun i v hi => ?_)
    rw [Nat.zero_add]
    refine Holds.cell (L := Rq.cells ⟨1, 1, 0, 0⟩) (t := 48) ?_ hi
    repeat first | exact Holds.new w _ _ | refine Holds.alloc ?_ _ | refine Holds.drewN ?_ _
  · repeat first | exact Below.refl _ _ | refine Below.alloc ?_ (by simp) _ | refine below_drewN ?_ _

set_option maxRecDepth 100000 in
set_option maxHeartbeats 400000 in
theorem wn_beginCas (h : RAt w T q y) (n : Int) (hy : y.at_ = .beginCas n) : Calls Try.prog 42 #[.pointer (some ⟨q, 0, none⟩)] w fun e w' => e = .returned (.tuple #[.agg (Rq.cells ⟨3, 1, IntKind.u64.wrap (n + 1), n⟩).toArray, .bool true]) ∧ Below w.heap.size w w' := by
  obtain ⟨x, rv, wv, h1, h2, h3, h4, h5, h6, h7⟩ := h
  have ha := h2.at_
  rw [hy] at ha
  have hb0 : Below w.heap.size w ((w.alloc (.cells (Rq.cells ⟨0, 0, 0, 0⟩).toArray 48)).alloc (.cells (Rq.cells ⟨1, 0, 0, 0⟩).toArray 48)) := ((Below.refl _ w).alloc (Nat.le_refl _) _).alloc (by simp) _
  have hlt0 := h1.head.lt
  have hA : Holds ((w.alloc (.cells (Rq.cells ⟨0, 0, 0, 0⟩).toArray 48)).alloc (.cells (Rq.cells ⟨1, 0, 0, 0⟩).toArray 48)) w.heap.size 48 (Rq.cells ⟨0, 0, 0, 0⟩) := (Holds.new w _ _).alloc _
  have hB : Holds ((w.alloc (.cells (Rq.cells ⟨0, 0, 0, 0⟩).toArray 48)).alloc (.cells (Rq.cells ⟨1, 0, 0, 0⟩).toArray 48)) (w.heap.size + 1) 48 (Rq.cells ⟨1, 0, 0, 0⟩) := by
    have := Holds.new (w.alloc (.cells (Rq.cells ⟨0, 0, 0, 0⟩).toArray 48)) 48 (Rq.cells ⟨1, 0, 0, 0⟩)
    simpa using this
  have h1 := h1.below hb0
  have hlt := h1.head.lt
  have hsn := h2.snap
  have c0 := h1.head.cell (i := 0) rfl
  have c1 := h1.head.cell (i := 1) rfl
  have hc : x.code = 2 := ha.1
  rw [hc] at c0
  rw [ha.2] at c1
  clear h1 h2 h3 h4 h5
  have n1 : q ≠ w.heap.size := by omega
  have n2 : q ≠ w.heap.size + 1 := by omega
  unfold Rq.cells at *
  go_enter Try.func42, Try.ntmps42
  go_wp2
  go_region
  go_wp2
  refine bodyPost_ret (results_ct rfl rfl ?_ rfl) rfl ⟨rfl, ?_⟩
  · refine Try.loadReq ⟨3, 1, IntKind.u64.wrap (n + 1), n⟩ (fun i v hi => ?_)
    rw [Nat.zero_add]
    refine Holds.cell (L := Rq.cells ⟨3, 1, IntKind.u64.wrap (n + 1), n⟩) (t := 48) ?_ hi
    repeat first | exact Holds.new w _ _ | refine Holds.alloc ?_ _ | refine Holds.drewN ?_ _
  · repeat first | exact Below.refl _ _ | refine Below.alloc ?_ (by simp) _ | refine below_drewN ?_ _

set_option maxRecDepth 100000 in
set_option maxHeartbeats 400000 in
theorem wn_leaveCas (h : RAt w T q y) (how n : Int) (hy : y.at_ = .leaveCas how n) : Calls Try.prog 42 #[.pointer (some ⟨q, 0, none⟩)] w fun e w' => e = .returned (.tuple #[.agg (Rq.cells ⟨3, 1, IntKind.u64.wrap (n - 1), n⟩).toArray, .bool true]) ∧ Below w.heap.size w w' := by
  obtain ⟨x, rv, wv, h1, h2, h3, h4, h5, h6, h7⟩ := h
  have ha := h2.at_
  rw [hy] at ha
  have hb0 : Below w.heap.size w ((w.alloc (.cells (Rq.cells ⟨0, 0, 0, 0⟩).toArray 48)).alloc (.cells (Rq.cells ⟨1, 0, 0, 0⟩).toArray 48)) := ((Below.refl _ w).alloc (Nat.le_refl _) _).alloc (by simp) _
  have hlt0 := h1.head.lt
  have hA : Holds ((w.alloc (.cells (Rq.cells ⟨0, 0, 0, 0⟩).toArray 48)).alloc (.cells (Rq.cells ⟨1, 0, 0, 0⟩).toArray 48)) w.heap.size 48 (Rq.cells ⟨0, 0, 0, 0⟩) := (Holds.new w _ _).alloc _
  have hB : Holds ((w.alloc (.cells (Rq.cells ⟨0, 0, 0, 0⟩).toArray 48)).alloc (.cells (Rq.cells ⟨1, 0, 0, 0⟩).toArray 48)) (w.heap.size + 1) 48 (Rq.cells ⟨1, 0, 0, 0⟩) := by
    have := Holds.new (w.alloc (.cells (Rq.cells ⟨0, 0, 0, 0⟩).toArray 48)) 48 (Rq.cells ⟨1, 0, 0, 0⟩)
    simpa using this
  have h1 := h1.below hb0
  have hlt := h1.head.lt
  have hsn := h2.snap
  have c0 := h1.head.cell (i := 0) rfl
  have c1 := h1.head.cell (i := 1) rfl
  have hc : x.code = 13 := ha.1
  rw [hc] at c0
  rw [ha.2.2] at c1
  clear h1 h2 h3 h4 h5
  have n1 : q ≠ w.heap.size := by omega
  have n2 : q ≠ w.heap.size + 1 := by omega
  unfold Rq.cells at *
  go_enter Try.func42, Try.ntmps42
  go_wp2
  go_region
  go_wp2
  refine bodyPost_ret (results_ct rfl rfl ?_ rfl) rfl ⟨rfl, ?_⟩
  · refine Try.loadReq ⟨3, 1, IntKind.u64.wrap (n - 1), n⟩ (fun i v hi => ?_)
    rw [Nat.zero_add]
    refine Holds.cell (L := Rq.cells ⟨3, 1, IntKind.u64.wrap (n - 1), n⟩) (t := 48) ?_ hi
    repeat first | exact Holds.new w _ _ | refine Holds.alloc ?_ _ | refine Holds.drewN ?_ _
  · repeat first | exact Below.refl _ _ | refine Below.alloc ?_ (by simp) _ | refine below_drewN ?_ _

set_option maxRecDepth 100000 in
set_option maxHeartbeats 400000 in
theorem wn_beginSeq (h : RAt w T q y)  (hy : y.at_ = .beginSeq) : Calls Try.prog 42 #[.pointer (some ⟨q, 0, none⟩)] w fun e w' => e = .returned (.tuple #[.agg (Rq.cells ⟨1, 0, 0, 0⟩).toArray, .bool true]) ∧ Below w.heap.size w w' := by
  obtain ⟨x, rv, wv, h1, h2, h3, h4, h5, h6, h7⟩ := h
  have ha := h2.at_
  rw [hy] at ha
  have hb0 : Below w.heap.size w ((w.alloc (.cells (Rq.cells ⟨0, 0, 0, 0⟩).toArray 48)).alloc (.cells (Rq.cells ⟨1, 0, 0, 0⟩).toArray 48)) := ((Below.refl _ w).alloc (Nat.le_refl _) _).alloc (by simp) _
  have hlt0 := h1.head.lt
  have hA : Holds ((w.alloc (.cells (Rq.cells ⟨0, 0, 0, 0⟩).toArray 48)).alloc (.cells (Rq.cells ⟨1, 0, 0, 0⟩).toArray 48)) w.heap.size 48 (Rq.cells ⟨0, 0, 0, 0⟩) := (Holds.new w _ _).alloc _
  have hB : Holds ((w.alloc (.cells (Rq.cells ⟨0, 0, 0, 0⟩).toArray 48)).alloc (.cells (Rq.cells ⟨1, 0, 0, 0⟩).toArray 48)) (w.heap.size + 1) 48 (Rq.cells ⟨1, 0, 0, 0⟩) := by
    have := Holds.new (w.alloc (.cells (Rq.cells ⟨0, 0, 0, 0⟩).toArray 48)) 48 (Rq.cells ⟨1, 0, 0, 0⟩)
    simpa using this
  have h1 := h1.below hb0
  have hlt := h1.head.lt
  have hsn := h2.snap
  have c0 := h1.head.cell (i := 0) rfl
  have hc : x.code = 3 := ha
  rw [hc] at c0
  clear h1 h2 h3 h4 h5
  have n1 : q ≠ w.heap.size := by omega
  have n2 : q ≠ w.heap.size + 1 := by omega
  unfold Rq.cells at *
  go_enter Try.func42, Try.ntmps42
  go_wp2
  refine bodyPost_ret (results_ct rfl rfl ?_ rfl) rfl ⟨rfl, ?_⟩
  · refine Try.loadReq ⟨1, 0, 0, 0⟩ (fun i v hi => ?_)
    rw [Nat.zero_add]
    refine Holds.cell (L := Rq.cells ⟨1, 0, 0, 0⟩) (t := 48) ?_ hi
    repeat first | exact Holds.new w _ _ | refine Holds.alloc ?_ _ | refine Holds.drewN ?_ _
  · repeat first | exact Below.refl _ _ | refine Below.alloc ?_ (by simp) _ | refine below_drewN ?_ _

set_option maxRecDepth 100000 in
set_option maxHeartbeats 400000 in
theorem wn_loadSeq (h : RAt w T q y) (a n : Int) (hy : y.at_ = .loadSeq a n) : Calls Try.prog 42 #[.pointer (some ⟨q, 0, none⟩)] w fun e w' => e = .returned (.tuple #[.agg (Rq.cells ⟨1, 0, 0, 0⟩).toArray, .bool true]) ∧ Below w.heap.size w w' := by
  obtain ⟨x, rv, wv, h1, h2, h3, h4, h5, h6, h7⟩ := h
  have ha := h2.at_
  rw [hy] at ha
  have hb0 : Below w.heap.size w ((w.alloc (.cells (Rq.cells ⟨0, 0, 0, 0⟩).toArray 48)).alloc (.cells (Rq.cells ⟨1, 0, 0, 0⟩).toArray 48)) := ((Below.refl _ w).alloc (Nat.le_refl _) _).alloc (by simp) _
  have hlt0 := h1.head.lt
  have hA : Holds ((w.alloc (.cells (Rq.cells ⟨0, 0, 0, 0⟩).toArray 48)).alloc (.cells (Rq.cells ⟨1, 0, 0, 0⟩).toArray 48)) w.heap.size 48 (Rq.cells ⟨0, 0, 0, 0⟩) := (Holds.new w _ _).alloc _
  have hB : Holds ((w.alloc (.cells (Rq.cells ⟨0, 0, 0, 0⟩).toArray 48)).alloc (.cells (Rq.cells ⟨1, 0, 0, 0⟩).toArray 48)) (w.heap.size + 1) 48 (Rq.cells ⟨1, 0, 0, 0⟩) := by
    have := Holds.new (w.alloc (.cells (Rq.cells ⟨0, 0, 0, 0⟩).toArray 48)) 48 (Rq.cells ⟨1, 0, 0, 0⟩)
    simpa using this
  have h1 := h1.below hb0
  have hlt := h1.head.lt
  have hsn := h2.snap
  have c0 := h1.head.cell (i := 0) rfl
  have hc : x.code = 5 := ha.1
  rw [hc] at c0
  clear h1 h2 h3 h4 h5
  have n1 : q ≠ w.heap.size := by omega
  have n2 : q ≠ w.heap.size + 1 := by omega
  unfold Rq.cells at *
  go_enter Try.func42, Try.ntmps42
  go_wp2
  refine bodyPost_ret (results_ct rfl rfl ?_ rfl) rfl ⟨rfl, ?_⟩
  · refine Try.loadReq ⟨1, 0, 0, 0⟩ (fun i v hi => ?_)
    rw [Nat.zero_add]
    refine Holds.cell (L := Rq.cells ⟨1, 0, 0, 0⟩) (t := 48) ?_ hi
    repeat first | exact Holds.new w _ _ | refine Holds.alloc ?_ _ | refine Holds.drewN ?_ _
  · repeat first | exact Below.refl _ _ | refine Below.alloc ?_ (by simp) _ | refine below_drewN ?_ _

set_option maxRecDepth 100000 in
set_option maxHeartbeats 400000 in
theorem wn_checkSeq (h : RAt w T q y) (t : Th) (hy : y.at_ = .checkSeq t) : Calls Try.prog 42 #[.pointer (some ⟨q, 0, none⟩)] w fun e w' => e = .returned (.tuple #[.agg (Rq.cells ⟨1, 0, 0, 0⟩).toArray, .bool true]) ∧ Below w.heap.size w w' := by
  obtain ⟨x, rv, wv, h1, h2, h3, h4, h5, h6, h7⟩ := h
  have ha := h2.at_
  rw [hy] at ha
  have hb0 : Below w.heap.size w ((w.alloc (.cells (Rq.cells ⟨0, 0, 0, 0⟩).toArray 48)).alloc (.cells (Rq.cells ⟨1, 0, 0, 0⟩).toArray 48)) := ((Below.refl _ w).alloc (Nat.le_refl _) _).alloc (by simp) _
  have hlt0 := h1.head.lt
  have hA : Holds ((w.alloc (.cells (Rq.cells ⟨0, 0, 0, 0⟩).toArray 48)).alloc (.cells (Rq.cells ⟨1, 0, 0, 0⟩).toArray 48)) w.heap.size 48 (Rq.cells ⟨0, 0, 0, 0⟩) := (Holds.new w _ _).alloc _
  have hB : Holds ((w.alloc (.cells (Rq.cells ⟨0, 0, 0, 0⟩).toArray 48)).alloc (.cells (Rq.cells ⟨1, 0, 0, 0⟩).toArray 48)) (w.heap.size + 1) 48 (Rq.cells ⟨1, 0, 0, 0⟩) := by
    have := Holds.new (w.alloc (.cells (Rq.cells ⟨0, 0, 0, 0⟩).toArray 48)) 48 (Rq.cells ⟨1, 0, 0, 0⟩)
    simpa using this
  have h1 := h1.below hb0
  have hlt := h1.head.lt
  have hsn := h2.snap
  have c0 := h1.head.cell (i := 0) rfl
  have hc : x.code = 6 := ha.1
  rw [hc] at c0
  clear h1 h2 h3 h4 h5
  have n1 : q ≠ w.heap.size := by omega
  have n2 : q ≠ w.heap.size + 1 := by omega
  unfold Rq.cells at *
  go_enter Try.func42, Try.ntmps42
  go_wp2
  refine bodyPost_ret (results_ct rfl rfl ?_ rfl) rfl ⟨rfl, ?_⟩
  · refine Try.loadReq ⟨1, 0, 0, 0⟩ (fun i v hi => ?_)
    rw [Nat.zero_add]
    refine Holds.cell (L := Rq.cells ⟨1, 0, 0, 0⟩) (t := 48) ?_ hi
    repeat first | exact Holds.new w _ _ | refine Holds.alloc ?_ _ | refine Holds.drewN ?_ _
  · repeat first | exact Below.refl _ _ | refine Below.alloc ?_ (by simp) _ | refine below_drewN ?_ _

set_option maxRecDepth 100000 in
set_option maxHeartbeats 400000 in
theorem wn_check_end (h : RAt w T q y) (g : Int) (t : Th) (hy : y.at_ = .check g [] t) : Calls Try.prog 42 #[.pointer (some ⟨q, 0, none⟩)] w fun e w' => e = .returned (.tuple #[.agg (Rq.cells ⟨1, 0, 0, 0⟩).toArray, .bool true]) ∧ Below w.heap.size w w' := by
  obtain ⟨x, rv, wv, h1, h2, h3, h4, h5, h6, h7⟩ := h
  have ha := h2.at_
  rw [hy] at ha
  have hb0 : Below w.heap.size w ((w.alloc (.cells (Rq.cells ⟨0, 0, 0, 0⟩).toArray 48)).alloc (.cells (Rq.cells ⟨1, 0, 0, 0⟩).toArray 48)) := ((Below.refl _ w).alloc (Nat.le_refl _) _).alloc (by simp) _
  have hlt0 := h1.head.lt
  have hA : Holds ((w.alloc (.cells (Rq.cells ⟨0, 0, 0, 0⟩).toArray 48)).alloc (.cells (Rq.cells ⟨1, 0, 0, 0⟩).toArray 48)) w.heap.size 48 (Rq.cells ⟨0, 0, 0, 0⟩) := (Holds.new w _ _).alloc _
  have hB : Holds ((w.alloc (.cells (Rq.cells ⟨0, 0, 0, 0⟩).toArray 48)).alloc (.cells (Rq.cells ⟨1, 0, 0, 0⟩).toArray 48)) (w.heap.size + 1) 48 (Rq.cells ⟨1, 0, 0, 0⟩) := by
    have := Holds.new (w.alloc (.cells (Rq.cells ⟨0, 0, 0, 0⟩).toArray 48)) 48 (Rq.cells ⟨1, 0, 0, 0⟩)
    simpa using this
  have h1 := h1.below hb0
  have hlt := h1.head.lt
  have hsn := h2.snap
  have c0 := h1.head.cell (i := 0) rfl
  obtain ⟨k, hc, hg, hi, hk, hl, ht⟩ := ha
  have k4 := drop_nil hl hk
  rw [if_neg (by omega)] at hc
  rw [hc] at c0
  clear h1 h2 h3 h4 h5
  have n1 : q ≠ w.heap.size := by omega
  have n2 : q ≠ w.heap.size + 1 := by omega
  unfold Rq.cells at *
  go_enter Try.func42, Try.ntmps42
  go_wp2
  refine bodyPost_ret (results_ct rfl rfl ?_ rfl) rfl ⟨rfl, ?_⟩
  · refine Try.loadReq ⟨1, 0, 0, 0⟩ (fun i v hi => ?_)
    rw [Nat.zero_add]
    refine Holds.cell (L := Rq.cells ⟨1, 0, 0, 0⟩) (t := 48) ?_ hi
    repeat first | exact Holds.new w _ _ | refine Holds.alloc ?_ _ | refine Holds.drewN ?_ _
  · repeat first | exact Below.refl _ _ | refine Below.alloc ?_ (by simp) _ | refine below_drewN ?_ _

set_option maxRecDepth 100000 in
set_option maxHeartbeats 400000 in
theorem wn_loadWord (h : RAt w T q y) (a : Int) (hy : y.at_ = .loadWord a) : Calls Try.prog 42 #[.pointer (some ⟨q, 0, none⟩)] w fun e w' => e = .returned (.tuple #[.agg (Rq.cells ⟨1, a, 0, 0⟩).toArray, .bool true]) ∧ Below w.heap.size w w' := by
  obtain ⟨x, rv, wv, h1, h2, h3, h4, h5, h6, h7⟩ := h
  have ha := h2.at_
  rw [hy] at ha
  have hb0 : Below w.heap.size w ((w.alloc (.cells (Rq.cells ⟨0, 0, 0, 0⟩).toArray 48)).alloc (.cells (Rq.cells ⟨1, 0, 0, 0⟩).toArray 48)) := ((Below.refl _ w).alloc (Nat.le_refl _) _).alloc (by simp) _
  have hlt0 := h1.head.lt
  have hA : Holds ((w.alloc (.cells (Rq.cells ⟨0, 0, 0, 0⟩).toArray 48)).alloc (.cells (Rq.cells ⟨1, 0, 0, 0⟩).toArray 48)) w.heap.size 48 (Rq.cells ⟨0, 0, 0, 0⟩) := (Holds.new w _ _).alloc _
  have hB : Holds ((w.alloc (.cells (Rq.cells ⟨0, 0, 0, 0⟩).toArray 48)).alloc (.cells (Rq.cells ⟨1, 0, 0, 0⟩).toArray 48)) (w.heap.size + 1) 48 (Rq.cells ⟨1, 0, 0, 0⟩) := by
    have := Holds.new (w.alloc (.cells (Rq.cells ⟨0, 0, 0, 0⟩).toArray 48)) 48 (Rq.cells ⟨1, 0, 0, 0⟩)
    simpa using this
  have h1 := h1.below hb0
  have hlt := h1.head.lt
  have hsn := h2.snap
  have c0 := h1.head.cell (i := 0) rfl
  have c2 := h1.head.cell (i := 2) rfl
  have hc : x.code = 4 := ha.1
  rw [hc] at c0
  rw [ha.2] at c2
  clear h1 h2 h3 h4 h5
  have n1 : q ≠ w.heap.size := by omega
  have n2 : q ≠ w.heap.size + 1 := by omega
  unfold Rq.cells at *
  go_enter Try.func42, Try.ntmps42
  go_wp2
  refine bodyPost_ret (results_ct rfl rfl ?_ rfl) rfl ⟨rfl, ?_⟩
  · refine Try.loadReq ⟨1, a, 0, 0⟩ (fun i v hi => ?_)
    rw [Nat.zero_add]
    refine Holds.cell (L := Rq.cells ⟨1, a, 0, 0⟩) (t := 48) ?_ hi
    repeat first | exact Holds.new w _ _ | refine Holds.alloc ?_ _ | refine Holds.drewN ?_ _
  · repeat first | exact Below.refl _ _ | refine Below.alloc ?_ (by simp) _ | refine below_drewN ?_ _

set_option maxRecDepth 100000 in
set_option maxHeartbeats 400000 in
theorem wn_take (h : RAt w T q y)  (hy : y.at_ = .take) : Calls Try.prog 42 #[.pointer (some ⟨q, 0, none⟩)] w fun e w' => e = .returned (.tuple #[.agg (Rq.cells ⟨3, 0, IntKind.u64.wrap (y.snap + 1), y.snap⟩).toArray, .bool true]) ∧ Below w.heap.size w w' := by
  obtain ⟨x, rv, wv, h1, h2, h3, h4, h5, h6, h7⟩ := h
  have ha := h2.at_
  rw [hy] at ha
  have hb0 : Below w.heap.size w ((w.alloc (.cells (Rq.cells ⟨0, 0, 0, 0⟩).toArray 48)).alloc (.cells (Rq.cells ⟨1, 0, 0, 0⟩).toArray 48)) := ((Below.refl _ w).alloc (Nat.le_refl _) _).alloc (by simp) _
  have hlt0 := h1.head.lt
  have hA : Holds ((w.alloc (.cells (Rq.cells ⟨0, 0, 0, 0⟩).toArray 48)).alloc (.cells (Rq.cells ⟨1, 0, 0, 0⟩).toArray 48)) w.heap.size 48 (Rq.cells ⟨0, 0, 0, 0⟩) := (Holds.new w _ _).alloc _
  have hB : Holds ((w.alloc (.cells (Rq.cells ⟨0, 0, 0, 0⟩).toArray 48)).alloc (.cells (Rq.cells ⟨1, 0, 0, 0⟩).toArray 48)) (w.heap.size + 1) 48 (Rq.cells ⟨1, 0, 0, 0⟩) := by
    have := Holds.new (w.alloc (.cells (Rq.cells ⟨0, 0, 0, 0⟩).toArray 48)) 48 (Rq.cells ⟨1, 0, 0, 0⟩)
    simpa using this
  have h1 := h1.below hb0
  have hlt := h1.head.lt
  have hsn := h2.snap
  have c0 := h1.head.cell (i := 0) rfl
  have c8 := h1.head.cell (i := 8) rfl
  have hc : x.code = 9 := ha.1
  rw [hc] at c0
  rw [hsn] at c8
  clear h1 h2 h3 h4 h5
  have n1 : q ≠ w.heap.size := by omega
  have n2 : q ≠ w.heap.size + 1 := by omega
  unfold Rq.cells at *
  go_enter Try.func42, Try.ntmps42
  go_wp2
  go_region
  go_wp2
  refine bodyPost_ret (results_ct rfl rfl ?_ rfl) rfl ⟨rfl, ?_⟩
  · refine Try.loadReq ⟨3, 0, IntKind.u64.wrap (y.snap + 1), y.snap⟩ (fun i v hi => ?_)
    rw [Nat.zero_add]
    refine Holds.cell (L := Rq.cells ⟨3, 0, IntKind.u64.wrap (y.snap + 1), y.snap⟩) (t := 48) ?_ hi
    repeat first | exact Holds.new w _ _ | refine Holds.alloc ?_ _ | refine Holds.drewN ?_ _
  · repeat first | exact Below.refl _ _ | refine Below.alloc ?_ (by simp) _ | refine below_drewN ?_ _

set_option maxRecDepth 100000 in
set_option maxHeartbeats 400000 in
theorem wn_back_end (h : RAt w T q y)  (hy : y.at_ = .back []) : Calls Try.prog 42 #[.pointer (some ⟨q, 0, none⟩)] w fun e w' => e = .returned (.tuple #[.agg (Rq.cells ⟨2, 0, IntKind.u64.wrap (y.snap + 2), 0⟩).toArray, .bool true]) ∧ Below w.heap.size w w' := by
  obtain ⟨x, rv, wv, h1, h2, h3, h4, h5, h6, h7⟩ := h
  have ha := h2.at_
  rw [hy] at ha
  have hb0 : Below w.heap.size w ((w.alloc (.cells (Rq.cells ⟨0, 0, 0, 0⟩).toArray 48)).alloc (.cells (Rq.cells ⟨1, 0, 0, 0⟩).toArray 48)) := ((Below.refl _ w).alloc (Nat.le_refl _) _).alloc (by simp) _
  have hlt0 := h1.head.lt
  have hA : Holds ((w.alloc (.cells (Rq.cells ⟨0, 0, 0, 0⟩).toArray 48)).alloc (.cells (Rq.cells ⟨1, 0, 0, 0⟩).toArray 48)) w.heap.size 48 (Rq.cells ⟨0, 0, 0, 0⟩) := (Holds.new w _ _).alloc _
  have hB : Holds ((w.alloc (.cells (Rq.cells ⟨0, 0, 0, 0⟩).toArray 48)).alloc (.cells (Rq.cells ⟨1, 0, 0, 0⟩).toArray 48)) (w.heap.size + 1) 48 (Rq.cells ⟨1, 0, 0, 0⟩) := by
    have := Holds.new (w.alloc (.cells (Rq.cells ⟨0, 0, 0, 0⟩).toArray 48)) 48 (Rq.cells ⟨1, 0, 0, 0⟩)
    simpa using this
  have h1 := h1.below hb0
  have hlt := h1.head.lt
  have hsn := h2.snap
  have c0 := h1.head.cell (i := 0) rfl
  have c8 := h1.head.cell (i := 8) rfl
  obtain ⟨k, hc, hi, hk, hl⟩ := ha
  have k4 := drop_nil hl hk
  rw [if_neg (by omega)] at hc
  rw [hc] at c0
  rw [hsn] at c8
  clear h1 h2 h3 h4 h5
  have n1 : q ≠ w.heap.size := by omega
  have n2 : q ≠ w.heap.size + 1 := by omega
  unfold Rq.cells at *
  go_enter Try.func42, Try.ntmps42
  go_wp2
  refine bodyPost_ret (results_ct rfl rfl ?_ rfl) rfl ⟨rfl, ?_⟩
  · refine Try.loadReq ⟨2, 0, IntKind.u64.wrap (y.snap + 2), 0⟩ (fun i v hi => ?_)
    rw [Nat.zero_add]
    refine Holds.cell (L := Rq.cells ⟨2, 0, IntKind.u64.wrap (y.snap + 2), 0⟩) (t := 48) ?_ hi
    repeat first | exact Holds.new w _ _ | refine Holds.alloc ?_ _ | refine Holds.drewN ?_ _
  · repeat first | exact Below.refl _ _ | refine Below.alloc ?_ (by simp) _ | refine below_drewN ?_ _

set_option maxRecDepth 100000 in
set_option maxHeartbeats 400000 in
theorem wn_check (h : RAt w T q y) (g : Int) (z : Pr) (l : List Pr) (t : Th) (hy : y.at_ = .check g (z :: l) t) : Calls Try.prog 42 #[.pointer (some ⟨q, 0, none⟩)] w fun e w' => e = .returned (.tuple #[.agg (Rq.cells ⟨1, z.a, 0, 0⟩).toArray, .bool true]) ∧ Below w.heap.size w w' := by
  obtain ⟨x, rv, wv, h1, h2, h3, h4, h5, h6, h7⟩ := h
  have ha := h2.at_
  rw [hy] at ha
  have hb0 : Below w.heap.size w ((w.alloc (.cells (Rq.cells ⟨0, 0, 0, 0⟩).toArray 48)).alloc (.cells (Rq.cells ⟨1, 0, 0, 0⟩).toArray 48)) := ((Below.refl _ w).alloc (Nat.le_refl _) _).alloc (by simp) _
  have hlt0 := h1.head.lt
  have hA : Holds ((w.alloc (.cells (Rq.cells ⟨0, 0, 0, 0⟩).toArray 48)).alloc (.cells (Rq.cells ⟨1, 0, 0, 0⟩).toArray 48)) w.heap.size 48 (Rq.cells ⟨0, 0, 0, 0⟩) := (Holds.new w _ _).alloc _
  have hB : Holds ((w.alloc (.cells (Rq.cells ⟨0, 0, 0, 0⟩).toArray 48)).alloc (.cells (Rq.cells ⟨1, 0, 0, 0⟩).toArray 48)) (w.heap.size + 1) 48 (Rq.cells ⟨1, 0, 0, 0⟩) := by
    have := Holds.new (w.alloc (.cells (Rq.cells ⟨0, 0, 0, 0⟩).toArray 48)) 48 (Rq.cells ⟨1, 0, 0, 0⟩)
    simpa using this
  have h1 := h1.below hb0
  have hlt := h1.head.lt
  have hsn := h2.snap
  have c0 := h1.head.cell (i := 0) rfl
  have c5 := h1.head.cell (i := 5) rfl
  have c10 := h1.head.cell (i := 10) rfl
  obtain ⟨k, hc, hg, hi, hk, hl, ht⟩ := ha
  obtain ⟨k1, k2, k3⟩ := drop_cons hl
  rw [if_pos k1] at hc
  rw [hc] at c0
  rw [hi] at c5
  obtain ⟨ad, cap, rfl, hr, -⟩ := h1.r.spot
  obtain ⟨q0, o0, rfl⟩ := rows_some hr (by omega)
  have r1 := (rows_cells hr k2).1
  have r2 := (rows_cells hr k2).2
  clear h1 h2 h3 h4 h5
  have n1 : q ≠ w.heap.size := by omega
  have n2 : q ≠ w.heap.size + 1 := by omega
  unfold Rq.cells at *
  go_enter Try.func42, Try.ntmps42
  go_wp2
  go_region
  go_wp2
  refine bodyPost_ret (results_ct rfl rfl ?_ rfl) rfl ⟨rfl, ?_⟩
  · refine Try.loadReq ⟨1, z.a, 0, 0⟩ (fun i v hi => ?_)
    rw [Nat.zero_add]
    refine Holds.cell (L := Rq.cells ⟨1, z.a, 0, 0⟩) (t := 48) ?_ hi
    repeat first | exact Holds.new w _ _ | refine Holds.alloc ?_ _ | refine Holds.drewN ?_ _
  · repeat first | exact Below.refl _ _ | refine Below.alloc ?_ (by simp) _ | refine below_drewN ?_ _

set_option maxRecDepth 100000 in
set_option maxHeartbeats 400000 in
theorem wn_back (h : RAt w T q y) (z : Pr) (l : List Pr) (hy : y.at_ = .back (z :: l)) : Calls Try.prog 42 #[.pointer (some ⟨q, 0, none⟩)] w fun e w' => e = .returned (.tuple #[.agg (Rq.cells ⟨2, z.a, z.v, 0⟩).toArray, .bool true]) ∧ Below w.heap.size w w' := by
  obtain ⟨x, rv, wv, h1, h2, h3, h4, h5, h6, h7⟩ := h
  have ha := h2.at_
  rw [hy] at ha
  have hb0 : Below w.heap.size w ((w.alloc (.cells (Rq.cells ⟨0, 0, 0, 0⟩).toArray 48)).alloc (.cells (Rq.cells ⟨1, 0, 0, 0⟩).toArray 48)) := ((Below.refl _ w).alloc (Nat.le_refl _) _).alloc (by simp) _
  have hlt0 := h1.head.lt
  have hA : Holds ((w.alloc (.cells (Rq.cells ⟨0, 0, 0, 0⟩).toArray 48)).alloc (.cells (Rq.cells ⟨1, 0, 0, 0⟩).toArray 48)) w.heap.size 48 (Rq.cells ⟨0, 0, 0, 0⟩) := (Holds.new w _ _).alloc _
  have hB : Holds ((w.alloc (.cells (Rq.cells ⟨0, 0, 0, 0⟩).toArray 48)).alloc (.cells (Rq.cells ⟨1, 0, 0, 0⟩).toArray 48)) (w.heap.size + 1) 48 (Rq.cells ⟨1, 0, 0, 0⟩) := by
    have := Holds.new (w.alloc (.cells (Rq.cells ⟨0, 0, 0, 0⟩).toArray 48)) 48 (Rq.cells ⟨1, 0, 0, 0⟩)
    simpa using this
  have h1 := h1.below hb0
  have hlt := h1.head.lt
  have hsn := h2.snap
  have c0 := h1.head.cell (i := 0) rfl
  have c5 := h1.head.cell (i := 5) rfl
  have c11 := h1.head.cell (i := 11) rfl
  obtain ⟨k, hc, hi, hk, hl⟩ := ha
  obtain ⟨k1, k2, k3⟩ := drop_cons hl
  rw [if_pos k1] at hc
  rw [hc] at c0
  rw [hi] at c5
  obtain ⟨ad, cap, rfl, hr, -⟩ := h1.wl.spot
  obtain ⟨q0, o0, rfl⟩ := rows_some hr (by omega)
  have r1 := (rows_cells hr k2).1
  have r2 := (rows_cells hr k2).2
  clear h1 h2 h3 h4 h5
  have n1 : q ≠ w.heap.size := by omega
  have n2 : q ≠ w.heap.size + 1 := by omega
  unfold Rq.cells at *
  go_enter Try.func42, Try.ntmps42
  go_wp2
  go_region
  go_wp2
  refine bodyPost_ret (results_ct rfl rfl ?_ rfl) rfl ⟨rfl, ?_⟩
  · refine Try.loadReq ⟨2, z.a, z.v, 0⟩ (fun i v hi => ?_)
    rw [Nat.zero_add]
    refine Holds.cell (L := Rq.cells ⟨2, z.a, z.v, 0⟩) (t := 48) ?_ hi
    repeat first | exact Holds.new w _ _ | refine Holds.alloc ?_ _ | refine Holds.drewN ?_ _
  · repeat first | exact Below.refl _ _ | refine Below.alloc ?_ (by simp) _ | refine below_drewN ?_ _
end

end Go.Proofs.Ythepmejfgbfilaa
