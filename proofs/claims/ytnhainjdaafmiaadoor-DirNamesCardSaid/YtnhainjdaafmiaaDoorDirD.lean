/- The directory: what is refused, by kinds. Conditions: those stated in each theorem. -/
import Derived.Test.YtnhainjdaafmiaaDoorDirC
import Derived.RangeFuncBox
namespace Go.Proofs.YtnhainjdaafmiaaDoor
open Go.RowKit

def refusesL (k : KnV) (ms : List MsgV) (m : MsgV) : Bool :=
  if m.kind = 1 ∨ m.kind = 2 then refReqL k ms m.core
  else if m.kind = 3 then k.owner != m.core
  else if m.kind = 4 then k.phase != 3 || !(hasS k.asked m.core.toNat)
  else if m.kind = 5 then k.phase != 1 || k.owner != m.core
  else if m.kind = 6 then k.phase != 1 || !(hasS k.asked m.core.toNat)
  else if m.kind = 7 then k.phase != 4 || !(runsL k m.core)
  else true

section
variable {w : World} {L o : Nat} {k : KnV} {ms : List MsgV}
/-- A box of a message. -/
structure MBox (w W : World) (m : MsgV) : Prop where
  c0 : W.cell? ⟨w.heap.size, 0, none⟩ = some (.int .i64 m.kind)
  c1 : W.cell? ⟨w.heap.size, 1, none⟩ = some (.int .i64 m.core)
  c2 : W.cell? ⟨w.heap.size, 2, none⟩ = some (.int .i64 m.line)
  row : W.rangeAt w.heap.size 0 m.cells
  below : Below w.heap.size w W
theorem mbox_new (w : World) (m : MsgV) : MBox w (w.alloc (.cells m.cells.toArray 45)) m := by
  have hr : (w.alloc (.cells m.cells.toArray 45)).rangeAt w.heap.size 0 m.cells := fun j v hv => by
    have h := World.alloc_heap_new w (.cells m.cells.toArray 45)
    rw [Nat.zero_add]
    generalize w.alloc (.cells m.cells.toArray 45) = W at h ⊢
    generalize w.heap.size = b at h ⊢
    simp [World.cell?, h, hv]
  exact ⟨hr 0 _ rfl, hr 1 _ rfl, hr 2 _ rfl, hr, (Below.refl _ w).alloc (Nat.le_refl _) _⟩
end

theorem below_drew {B : Nat} {a w : World} (h : Below B a w) : Below B a w.drew := drew_below h

set_option maxRecDepth 100000 in
set_option maxHeartbeats 1000000 in
theorem refuses_req1 (L o : Nat) (k : KnV) (c : Nat) (ln : Int) (d : L8) (ms : List MsgV) (w : World) (h : known w L o k) (hv : MsgsAt w k.wv ms) (hl : ms.length < 1000000) :
    Calls Tryd.prog 28 #[.pointer (some ⟨L, o, none⟩), .agg (MsgV.cells ⟨1, c, ln, d⟩).toArray] w fun e w' => e = .returned (.bool (refReqL k ms c)) ∧ Below w.heap.size w w' := by
  have HB := Lib.hid (mbox_new w ⟨1, c, ln, d⟩)
  have H := Lib.hid (h.below HB.out.below (Nat.le_refl _)); clear h
  have HV := Lib.hid (hv.below HB.out.below (Nat.le_refl _)); clear hv
  simp only [MsgV.cells] at *
  go_enter Tryd.func28, Tryd.ntmps28
  go_wp2_with fail
  refine (refReq_any L o k c ms _ H.out HV.out hl).mono ?_
  rintro e w' ⟨rfl, hb⟩
  have Hb := Lib.hid (HB.out.below.trans (hb.mono (by simp))); clear hb
  go_wp2
  go_ret
  exact ⟨rfl, Hb.out⟩

set_option maxRecDepth 100000 in
set_option maxHeartbeats 1000000 in
theorem refuses_req2 (L o : Nat) (k : KnV) (c : Nat) (ln : Int) (d : L8) (ms : List MsgV) (w : World) (h : known w L o k) (hv : MsgsAt w k.wv ms) (hl : ms.length < 1000000) :
    Calls Tryd.prog 28 #[.pointer (some ⟨L, o, none⟩), .agg (MsgV.cells ⟨2, c, ln, d⟩).toArray] w fun e w' => e = .returned (.bool (refReqL k ms c)) ∧ Below w.heap.size w w' := by
  have HB := Lib.hid (mbox_new w ⟨2, c, ln, d⟩)
  have H := Lib.hid (h.below HB.out.below (Nat.le_refl _)); clear h
  have HV := Lib.hid (hv.below HB.out.below (Nat.le_refl _)); clear hv
  simp only [MsgV.cells] at *
  go_enter Tryd.func28, Tryd.ntmps28
  go_wp2_with fail
  refine (refReq_any L o k c ms _ H.out HV.out hl).mono ?_
  rintro e w' ⟨rfl, hb⟩
  have Hb := Lib.hid (HB.out.below.trans (hb.mono (by simp))); clear hb
  go_wp2
  go_ret
  exact ⟨rfl, Hb.out⟩

set_option maxRecDepth 100000 in
set_option maxHeartbeats 1000000 in
theorem refuses_put (L o : Nat) (k : KnV) (c : Nat) (ln : Int) (d : L8) (w : World) (h : known w L o k) :
    Calls Tryd.prog 28 #[.pointer (some ⟨L, o, none⟩), .agg (MsgV.cells ⟨3, c, ln, d⟩).toArray] w fun e w' => e = .returned (.bool (k.owner != c)) ∧ Below w.heap.size w w' := by
  have HB := Lib.hid (mbox_new w ⟨3, c, ln, d⟩)
  have H := Lib.hid (h.below HB.out.below (Nat.le_refl _)); clear h
  have c0 := H.out.c0
  have b1 := HB.out.c1
  simp only [MsgV.cells] at *
  go_enter Tryd.func28, Tryd.ntmps28
  go_wp2
  generalize (w.alloc (.cells #[.int .i64 3, .int .i64 c, .int .i64 ln, .int .u64 d.x0, .int .u64 d.x1, .int .u64 d.x2, .int .u64 d.x3, .int .u64 d.x4, .int .u64 d.x5, .int .u64 d.x6, .int .u64 d.x7] 45)) = W at *
  refine still_region (by kernel_rfl) (by kernel_rfl) ?_
  iterate 8 (refine StillG.want (by kernel_rfl) (fun K hK => ?_); go_simp; refine hK _ ?_; clear hK K)
  refine StillG.nil ?_
  go_wp2
  go_ret
  exact ⟨rfl, below_drew HB.out.below⟩

set_option maxRecDepth 100000 in
set_option maxHeartbeats 1000000 in
theorem refuses_invAck (L o : Nat) (k : KnV) (c : Nat) (ln : Int) (d : L8) (w : World) (h : known w L o k) (ha : k.asked < 16) (hc : c < 4) :
    Calls Tryd.prog 28 #[.pointer (some ⟨L, o, none⟩), .agg (MsgV.cells ⟨4, c, ln, d⟩).toArray] w fun e w' => e = .returned (.bool (k.phase != 3 || !(hasS k.asked c))) ∧ Below w.heap.size w w' := by
  have HB := Lib.hid (mbox_new w ⟨4, c, ln, d⟩)
  have H := Lib.hid (h.below HB.out.below (Nat.le_refl _)); clear h
  have c13 := H.out.c13
  have c14 := H.out.c14
  have b1 := HB.out.c1
  simp only [MsgV.cells] at *
  go_enter Tryd.func28, Tryd.ntmps28
  by_cases hp : k.phase = 3
  · have Hr := Lib.hid (show (k.phase != 3 || !(hasS k.asked c)) = !(hasS k.asked c) by simp [hp])
    rw [hp] at c13
    clear hp
    go_wp2
    generalize (w.alloc (.cells #[.int .i64 4, .int .i64 c, .int .i64 ln, .int .u64 d.x0, .int .u64 d.x1, .int .u64 d.x2, .int .u64 d.x3, .int .u64 d.x4, .int .u64 d.x5, .int .u64 d.x6, .int .u64 d.x7] 45)) = W at *
    refine still_region (by kernel_rfl) (by kernel_rfl) ?_
    iterate 12 (refine StillG.want (by kernel_rfl) (fun K hK => ?_); go_simp; refine hK _ ?_; clear hK K)
    (refine StillG.want (by kernel_rfl) (fun K hK => ?_); go_simp; refine ⟨_, (has_any k.asked c _ ha hc).mono (fun _ _ h => ⟨h.1, h.2.symm⟩), hK _ ?_⟩; clear hK K)
    iterate 3 (refine StillG.want (by kernel_rfl) (fun K hK => ?_); go_simp; refine hK _ ?_; clear hK K)
    refine StillG.nil ?_
    go_wp2
    go_ret
    exact ⟨congrArg Ending.returned (congrArg Value.bool Hr.out.symm), below_drew HB.out.below⟩
  · have hp' : (k.phase != 3) = true := by simpa using hp
    have Hr := Lib.hid (show (k.phase != 3 || !(hasS k.asked c)) = true by rw [hp']; rfl)
    clear hp
    go_wp2
    generalize (w.alloc (.cells #[.int .i64 4, .int .i64 c, .int .i64 ln, .int .u64 d.x0, .int .u64 d.x1, .int .u64 d.x2, .int .u64 d.x3, .int .u64 d.x4, .int .u64 d.x5, .int .u64 d.x6, .int .u64 d.x7] 45)) = W at *
    refine still_region (by kernel_rfl) (by kernel_rfl) ?_
    iterate 6 (refine StillG.want (by kernel_rfl) (fun K hK => ?_); go_simp; refine hK _ ?_; clear hK K)
    iterate 8 (refine StillG.skip (by kernel_rfl) (fun K hK => ?_); go_simp; refine hK _ ?_; clear hK K)
    iterate 2 (refine StillG.want (by kernel_rfl) (fun K hK => ?_); go_simp; refine hK _ ?_; clear hK K)
    refine StillG.nil ?_
    go_wp2
    go_ret
    exact ⟨congrArg Ending.returned (congrArg Value.bool Hr.out.symm), below_drew HB.out.below⟩

set_option maxRecDepth 100000 in
set_option maxHeartbeats 1000000 in
theorem refuses_recallNone (L o : Nat) (k : KnV) (c : Nat) (ln : Int) (d : L8) (w : World) (h : known w L o k) (ha : k.asked < 16) (hc : c < 4) :
    Calls Tryd.prog 28 #[.pointer (some ⟨L, o, none⟩), .agg (MsgV.cells ⟨6, c, ln, d⟩).toArray] w fun e w' => e = .returned (.bool (k.phase != 1 || !(hasS k.asked c))) ∧ Below w.heap.size w w' := by
  have HB := Lib.hid (mbox_new w ⟨6, c, ln, d⟩)
  have H := Lib.hid (h.below HB.out.below (Nat.le_refl _)); clear h
  have c13 := H.out.c13
  have c14 := H.out.c14
  have b1 := HB.out.c1
  simp only [MsgV.cells] at *
  go_enter Tryd.func28, Tryd.ntmps28
  by_cases hp : k.phase = 1
  · have Hr := Lib.hid (show (k.phase != 1 || !(hasS k.asked c)) = !(hasS k.asked c) by simp [hp])
    rw [hp] at c13
    clear hp
    go_wp2
    generalize (w.alloc (.cells #[.int .i64 6, .int .i64 c, .int .i64 ln, .int .u64 d.x0, .int .u64 d.x1, .int .u64 d.x2, .int .u64 d.x3, .int .u64 d.x4, .int .u64 d.x5, .int .u64 d.x6, .int .u64 d.x7] 45)) = W at *
    refine still_region (by kernel_rfl) (by kernel_rfl) ?_
    iterate 12 (refine StillG.want (by kernel_rfl) (fun K hK => ?_); go_simp; refine hK _ ?_; clear hK K)
    (refine StillG.want (by kernel_rfl) (fun K hK => ?_); go_simp; refine ⟨_, (has_any k.asked c _ ha hc).mono (fun _ _ h => ⟨h.1, h.2.symm⟩), hK _ ?_⟩; clear hK K)
    iterate 3 (refine StillG.want (by kernel_rfl) (fun K hK => ?_); go_simp; refine hK _ ?_; clear hK K)
    refine StillG.nil ?_
    go_wp2
    go_ret
    exact ⟨congrArg Ending.returned (congrArg Value.bool Hr.out.symm), below_drew HB.out.below⟩
  · have hp' : (k.phase != 1) = true := by simpa using hp
    have Hr := Lib.hid (show (k.phase != 1 || !(hasS k.asked c)) = true by rw [hp']; rfl)
    clear hp
    go_wp2
    generalize (w.alloc (.cells #[.int .i64 6, .int .i64 c, .int .i64 ln, .int .u64 d.x0, .int .u64 d.x1, .int .u64 d.x2, .int .u64 d.x3, .int .u64 d.x4, .int .u64 d.x5, .int .u64 d.x6, .int .u64 d.x7] 45)) = W at *
    refine still_region (by kernel_rfl) (by kernel_rfl) ?_
    iterate 6 (refine StillG.want (by kernel_rfl) (fun K hK => ?_); go_simp; refine hK _ ?_; clear hK K)
    iterate 8 (refine StillG.skip (by kernel_rfl) (fun K hK => ?_); go_simp; refine hK _ ?_; clear hK K)
    iterate 2 (refine StillG.want (by kernel_rfl) (fun K hK => ?_); go_simp; refine hK _ ?_; clear hK K)
    refine StillG.nil ?_
    go_wp2
    go_ret
    exact ⟨congrArg Ending.returned (congrArg Value.bool Hr.out.symm), below_drew HB.out.below⟩

set_option maxRecDepth 100000 in
set_option maxHeartbeats 1000000 in
theorem refuses_recallAck (L o : Nat) (k : KnV) (c : Nat) (ln : Int) (d : L8) (w : World) (h : known w L o k) :
    Calls Tryd.prog 28 #[.pointer (some ⟨L, o, none⟩), .agg (MsgV.cells ⟨5, c, ln, d⟩).toArray] w fun e w' => e = .returned (.bool (k.phase != 1 || k.owner != c)) ∧ Below w.heap.size w w' := by
  have HB := Lib.hid (mbox_new w ⟨5, c, ln, d⟩)
  have H := Lib.hid (h.below HB.out.below (Nat.le_refl _)); clear h
  have c13 := H.out.c13
  have c0 := H.out.c0
  have b1 := HB.out.c1
  simp only [MsgV.cells] at *
  go_enter Tryd.func28, Tryd.ntmps28
  by_cases hp : k.phase = 1
  · have Hr := Lib.hid (show (k.phase != 1 || k.owner != (c : Int)) = (k.owner != (c : Int)) by simp [hp])
    rw [hp] at c13
    clear hp
    go_wp2
    generalize (w.alloc (.cells #[.int .i64 5, .int .i64 c, .int .i64 ln, .int .u64 d.x0, .int .u64 d.x1, .int .u64 d.x2, .int .u64 d.x3, .int .u64 d.x4, .int .u64 d.x5, .int .u64 d.x6, .int .u64 d.x7] 45)) = W at *
    refine still_region (by kernel_rfl) (by kernel_rfl) ?_
    iterate 15 (refine StillG.want (by kernel_rfl) (fun K hK => ?_); go_simp; refine hK _ ?_; clear hK K)
    refine StillG.nil ?_
    go_wp2
    go_ret
    exact ⟨congrArg Ending.returned (congrArg Value.bool Hr.out.symm), below_drew HB.out.below⟩
  · have hp' : (k.phase != 1) = true := by simpa using hp
    have Hr := Lib.hid (show (k.phase != 1 || k.owner != (c : Int)) = true by rw [hp']; rfl)
    clear hp
    go_wp2
    generalize (w.alloc (.cells #[.int .i64 5, .int .i64 c, .int .i64 ln, .int .u64 d.x0, .int .u64 d.x1, .int .u64 d.x2, .int .u64 d.x3, .int .u64 d.x4, .int .u64 d.x5, .int .u64 d.x6, .int .u64 d.x7] 45)) = W at *
    refine still_region (by kernel_rfl) (by kernel_rfl) ?_
    iterate 6 (refine StillG.want (by kernel_rfl) (fun K hK => ?_); go_simp; refine hK _ ?_; clear hK K)
    iterate 7 (refine StillG.skip (by kernel_rfl) (fun K hK => ?_); go_simp; refine hK _ ?_; clear hK K)
    iterate 2 (refine StillG.want (by kernel_rfl) (fun K hK => ?_); go_simp; refine hK _ ?_; clear hK K)
    refine StillG.nil ?_
    go_wp2
    go_ret
    exact ⟨congrArg Ending.returned (congrArg Value.bool Hr.out.symm), below_drew HB.out.below⟩

set_option maxRecDepth 100000 in
set_option maxHeartbeats 1000000 in
theorem refuses_unblock (L o : Nat) (k : KnV) (c : Nat) (ln : Int) (d : L8) (w : World) (h : known w L o k) :
    Calls Tryd.prog 28 #[.pointer (some ⟨L, o, none⟩), .agg (MsgV.cells ⟨7, c, ln, d⟩).toArray] w fun e w' => e = .returned (.bool (k.phase != 4 || !(runsL k c))) ∧ Below w.heap.size w w' := by
  have HB := Lib.hid (mbox_new w ⟨7, c, ln, d⟩)
  have H := Lib.hid (h.below HB.out.below (Nat.le_refl _)); clear h
  have c13 := H.out.c13
  simp only [MsgV.cells] at *
  go_enter Tryd.func28, Tryd.ntmps28
  by_cases hp : k.phase = 4
  · have Hr := Lib.hid (show (k.phase != 4 || !(runsL k c)) = !(runsL k c) by simp [hp])
    rw [hp] at c13
    clear hp
    go_wp2_with fail
    refine (runs_any L o k c _ H.out).mono ?_
    rintro e w' ⟨rfl, rfl⟩
    go_wp2
    go_ret
    exact ⟨congrArg Ending.returned (congrArg Value.bool Hr.out.symm), HB.out.below⟩
  · have hp' : (k.phase != 4) = true := by simpa using hp
    have Hr := Lib.hid (show (k.phase != 4 || !(runsL k c)) = true by rw [hp']; rfl)
    clear hp
    go_wp2
    go_ret
    exact ⟨congrArg Ending.returned (congrArg Value.bool Hr.out.symm), HB.out.below⟩

set_option maxRecDepth 100000 in
set_option maxHeartbeats 1000000 in
theorem drefuses_other (L o : Nat) (k : KnV) (c : Nat) (ln : Int) (d : L8) (w : World) (h : known w L o k) (kd : Int) (h1 : (kd == 1) = false) (h2 : (kd == 2) = false) (h3 : (kd == 3) = false) (h4 : (kd == 4) = false) (h5 : (kd == 5) = false) (h6 : (kd == 6) = false) (h7 : (kd == 7) = false) :
    Calls Tryd.prog 28 #[.pointer (some ⟨L, o, none⟩), .agg (MsgV.cells ⟨kd, c, ln, d⟩).toArray] w fun e w' => e = .returned (.bool true) ∧ Below w.heap.size w w' := by
  have HB := Lib.hid (mbox_new w ⟨kd, c, ln, d⟩)
  have H := Lib.hid (h.below HB.out.below (Nat.le_refl _)); clear h
  simp only [MsgV.cells] at *
  go_enter Tryd.func28, Tryd.ntmps28
  go_wp2
  go_ret
  exact ⟨rfl, HB.out.below⟩

/-- refuses, over all messages of a core that is there. -/
theorem drefuses_any (L o : Nat) (k : KnV) (m : MsgV) (ms : List MsgV) (w : World) (h : known w L o k) (hv : MsgsAt w k.wv ms) (hl : ms.length < 1000000) (ha : k.asked < 16) (h0 : 0 ≤ m.core) (h4 : m.core < 4) :
    Calls Tryd.prog 28 #[.pointer (some ⟨L, o, none⟩), .agg m.cells.toArray] w fun e w' => e = .returned (.bool (refusesL k ms m)) ∧ Below w.heap.size w w' := by
  obtain ⟨kd, co, ln, d⟩ := m
  simp only at h0 h4
  obtain ⟨c, rfl⟩ := Int.eq_ofNat_of_zero_le h0
  unfold refusesL
  simp only [Int.toNat_natCast]
  by_cases k1 : kd = 1
  · subst k1; rw [if_pos (.inl rfl)]; exact refuses_req1 L o k c ln d ms w h hv hl
  by_cases k2 : kd = 2
  · subst k2; rw [if_pos (.inr rfl)]; exact refuses_req2 L o k c ln d ms w h hv hl
  rw [if_neg (by omega)]
  by_cases k3 : kd = 3
  · subst k3; rw [if_pos rfl]; exact refuses_put L o k c ln d w h
  rw [if_neg k3]
  by_cases k4 : kd = 4
  · subst k4; rw [if_pos rfl]; exact refuses_invAck L o k c ln d w h ha (by omega)
  rw [if_neg k4]
  by_cases k5 : kd = 5
  · subst k5; rw [if_pos rfl]; exact refuses_recallAck L o k c ln d w h
  rw [if_neg k5]
  by_cases k6 : kd = 6
  · subst k6; rw [if_pos rfl]; exact refuses_recallNone L o k c ln d w h ha (by omega)
  rw [if_neg k6]
  by_cases k7 : kd = 7
  · subst k7; rw [if_pos rfl]; exact refuses_unblock L o k c ln d w h
  rw [if_neg k7]
  exact drefuses_other L o k c ln d w h kd (by simpa using k1) (by simpa using k2) (by simpa using k3) (by simpa using k4) (by simpa using k5) (by simpa using k6) (by simpa using k7)

end Go.Proofs.YtnhainjdaafmiaaDoor
