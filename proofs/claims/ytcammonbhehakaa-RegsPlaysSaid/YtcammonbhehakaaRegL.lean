/- The document's own file: its calls. Conditions: those stated in each theorem. -/
import Derived.Test.YtcammonbhehakaaRegG
namespace Go.Proofs.Ytcammonbhehakaa
open Go.RowKit Go.BigFrame

/-- The document's file, of the same plain file. -/
def Fl.rcells (f : Fl) : List Value := [.int .u64 f.m.r.x0, .int .u64 f.m.r.x1, .int .u64 f.m.r.x2, .int .u64 f.m.r.x3, .int .u64 f.m.r.x4, .int .u64 f.m.r.x5, .int .u64 f.m.r.x6, .int .u64 f.m.r.x7, .int .i64 f.m.pc, .bool f.pt.isSome,
  .int .u64 f.point.r.x0, .int .u64 f.point.r.x1, .int .u64 f.point.r.x2, .int .u64 f.point.r.x3, .int .u64 f.point.r.x4, .int .u64 f.point.r.x5, .int .u64 f.point.r.x6, .int .u64 f.point.r.x7, .int .i64 f.point.pc]
def RfAt (w : World) (q : Nat) (f : Fl) : Prop := Holds w q 29 f.rcells

section
variable {w w' : World} {q : Nat} {f : Fl}
theorem RfAt.c (h : RfAt w q f) (j : Nat) {v : Value} (hv : f.rcells[j]? = some v) : w.cell? ⟨q, j, none⟩ = some v := Holds.cell h hv
theorem RfAt.rest (w : World) (q : Nat) (f : Fl) (h : RfAt w q f) : RfAt w q f ∧ Tch (· = q) w w := ⟨h, Tch.refl _ w⟩
theorem rcellR (f : Fl) {k : Nat} (hk : k < 8) : f.rcells[k]? = some (.int .u64 (f.m.r.get k)) := by
  match k, hk with
  | 0, _ => rfl | 1, _ => rfl | 2, _ => rfl | 3, _ => rfl | 4, _ => rfl | 5, _ => rfl | 6, _ => rfl | 7, _ => rfl
theorem rcellR_set (f : Fl) {k : Nat} (hk : k < 8) (v : Int) : f.rcells.set k (.int .u64 v) = Fl.rcells { f with m := { f.m with r := f.m.r.set k v } } := by
  match k, hk with
  | 0, _ => rfl | 1, _ => rfl | 2, _ => rfl | 3, _ => rfl | 4, _ => rfl | 5, _ => rfl | 6, _ => rfl | 7, _ => rfl

set_option maxHeartbeats 400000 in
theorem rget_any (h : RfAt w q f) (i : Int) : Calls Try.prog 28 #[.pointer (some ⟨q, 0, none⟩), .int .i64 i] w fun e w' => e = .returned (.tuple #[.int .u64 (f.get i), .int .i64 (errR i)]) ∧ w = w' := by
  unfold Fl.get errR
  by_cases hi : 0 ≤ i ∧ i < 8
  · obtain ⟨k, rfl⟩ := Int.eq_ofNat_of_zero_le hi.1
    have hk : k < 8 := by omega
    rw [if_pos hi, if_pos hi, Int.toNat_natCast]
    have c := h.c k (rcellR _ hk)
    have d1 : decide ((k : Int) < 0) = false := by simp
    have d2 : decide (8 ≤ (k : Int)) = false := by simp; omega
    clear h
    generalize f.m.r.get k = x at *
    go_enter Try.func28, Try.ntmps28
    go_wp2
    go_ret2
    exact ⟨rfl, rfl⟩
  · rw [if_neg hi, if_neg hi]
    clear h
    by_cases h0 : i < 0
    · go_enter Try.func28, Try.ntmps28
      go_wp2
      go_ret2
      exact ⟨rfl, rfl⟩
    · have d1 : decide (i < 0) = false := by simpa using h0
      have d2 : decide (8 ≤ i) = true := by simp; omega
      go_enter Try.func28, Try.ntmps28
      go_wp2
      go_ret2
      exact ⟨rfl, rfl⟩

set_option maxHeartbeats 400000 in
theorem rset_any (h : RfAt w q f) (i v : Int) : Calls Try.prog 23 #[.pointer (some ⟨q, 0, none⟩), .int .i64 i, .int .u64 v] w fun e w' => e = .returned (.int .i64 (errR i)) ∧ RfAt w' q (f.set i v) ∧ Tch (· = q) w w' := by
  unfold Fl.set errR
  by_cases hi : 0 ≤ i ∧ i < 8
  · obtain ⟨k, rfl⟩ := Int.eq_ofNat_of_zero_le hi.1
    have hk : k < 8 := by omega
    rw [if_pos hi, if_pos hi, Int.toNat_natCast]
    have c := h.c k (rcellR _ hk)
    have fr := Holds.free h k
    have d1 : decide ((k : Int) < 0) = false := by simp
    have d2 : decide (8 ≤ (k : Int)) = false := by simp; omega
    have hT : Tch (· = q) w (w.setCell ⟨q, k, none⟩ (.int .u64 v)) := Tch.setCell (C := (· = q)) (Tch.refl _ w) (p := ⟨q, k, none⟩) (.inl rfl) _
    have HE := Lib.hid (And.intro (show RfAt (w.setCell ⟨q, k, none⟩ (.int .u64 v)) q { f with m := { f.m with r := f.m.r.set k v } } from by unfold RfAt; rw [← rcellR_set f hk]; exact Holds.set h k _) hT)
    clear h hT
    generalize f.m.r.get k = x at *
    go_enter Try.func23, Try.ntmps23
    go_wp2
    go_ret
    exact ⟨rfl, HE.out⟩
  · rw [if_neg hi, if_neg hi]
    have HE := Lib.hid (h.rest)
    clear h
    by_cases h0 : i < 0
    · go_enter Try.func23, Try.ntmps23
      go_wp2
      go_ret
      exact ⟨rfl, HE.out⟩
    · have d1 : decide (i < 0) = false := by simpa using h0
      have d2 : decide (8 ≤ i) = true := by simp; omega
      go_enter Try.func23, Try.ntmps23
      go_wp2
      go_ret
      exact ⟨rfl, HE.out⟩

set_option maxHeartbeats 400000 in
theorem rjump_any (h : RfAt w q f) (k : Int) : Calls Try.prog 24 #[.pointer (some ⟨q, 0, none⟩), .int .i64 k] w fun e w' => e = .returned (.int .i64 (errJ k)) ∧ RfAt w' q (f.jump k) ∧ Tch (· = q) w w' := by
  unfold Fl.jump errJ
  by_cases hk : k < 0
  · rw [if_pos hk, if_pos hk]
    have HE := Lib.hid (h.rest)
    clear h
    go_enter Try.func24, Try.ntmps24
    go_wp2
    go_ret
    exact ⟨rfl, HE.out⟩
  · rw [if_neg hk, if_neg hk]
    have d1 : decide (k < 0) = false := by simpa using hk
    have c := h.c 8 rfl
    have fr := Holds.free h 8
    have hT : Tch (· = q) w (w.setCell ⟨q, 8, none⟩ (.int .i64 k)) := Tch.setCell (C := (· = q)) (Tch.refl _ w) (p := ⟨q, 8, none⟩) (.inl rfl) _
    have HE := Lib.hid (And.intro (show RfAt (w.setCell ⟨q, 8, none⟩ (.int .i64 k)) q { f with m := { f.m with pc := k } } from Holds.set h 8 _) hT)
    clear h hT
    go_enter Try.func24, Try.ntmps24
    go_wp2
    go_ret
    exact ⟨rfl, HE.out⟩

theorem RfAt.rangeR {f : Fl} (h : RfAt w q f) : w.rangeAt q 0 f.m.r.cells := Holds.range h (fun i v hi => by
  rw [Nat.zero_add]
  match i, (List.getElem?_eq_some_iff.1 hi).1 with
  | 0, _ => exact hi | 1, _ => exact hi | 2, _ => exact hi | 3, _ => exact hi | 4, _ => exact hi | 5, _ => exact hi | 6, _ => exact hi | 7, _ => exact hi)
theorem RfAt.rangeP {f : Fl} (h : RfAt w q f) : w.rangeAt q 10 f.point.r.cells := Holds.range h (fun i v hi => by
  match i, (List.getElem?_eq_some_iff.1 hi).1 with
  | 0, _ => exact hi | 1, _ => exact hi | 2, _ => exact hi | 3, _ => exact hi | 4, _ => exact hi | 5, _ => exact hi | 6, _ => exact hi | 7, _ => exact hi)
theorem tchq (w : World) (q j : Nat) (v : Value) : Tch (· = q) w (w.setCell ⟨q, j, none⟩ v) := Tch.setCell (C := (· = q)) (Tch.refl _ w) (p := ⟨q, j, none⟩) (.inl rfl) v
theorem tchqs (w : World) (q j : Nat) (vs : List Value) : Tch (· = q) w (w.setCells q j vs) := Tch.setCells (C := (· = q)) (.inl rfl) _ _ (Tch.refl _ w)

set_option maxRecDepth 100000 in
set_option maxHeartbeats 1000000 in
theorem rsave_any (h : RfAt w q f) : Calls Try.prog 25 #[.pointer (some ⟨q, 0, none⟩)] w fun e w' => e = .returned (.int .i64 0) ∧ RfAt w' q f.save ∧ Tch (· = q) w w' := by
  have c9 := h.c 9 rfl
  have f9 := Holds.free h 9
  have hw1 := Holds.set h 9 (.bool true)
  have hr1 : (w.setCell ⟨q, 9, none⟩ (.bool true)).rangeAt q 0 f.m.r.cells := hw1.range (fun i v hi => by
    rw [Nat.zero_add]
    match i, (List.getElem?_eq_some_iff.1 hi).1 with
    | 0, _ => exact hi | 1, _ => exact hi | 2, _ => exact hi | 3, _ => exact hi | 4, _ => exact hi | 5, _ => exact hi | 6, _ => exact hi | 7, _ => exact hi)
  have ht1 := hw1.there (o := 10) (n := 8) (by show 18 ≤ 19; omega)
  have hw2 := hw1.sets f.m.r.cells 10
  obtain ⟨W, eW⟩ : ∃ W, W = (w.setCell ⟨q, 9, none⟩ (.bool true)).setCells q 10 f.m.r.cells := ⟨_, rfl⟩
  rw [← eW] at hw2
  have hT : Tch (· = q) w W := eW ▸ (tchq w q 9 _).trans (tchqs _ q 10 _)
  have c8 : W.cell? ⟨q, 8, none⟩ = some (.int .i64 f.m.pc) := hw2.cell rfl
  have c18 : W.cell? ⟨q, 18, none⟩ = some (.int .i64 f.point.pc) := hw2.cell rfl
  have f18 := hw2.free 18
  have HK := Lib.hid (And.intro (show RfAt (W.setCell ⟨q, 18, none⟩ (.int .i64 f.m.pc)) q f.save from hw2.set 18 (.int .i64 f.m.pc)) (hT.trans (tchq W q 18 (.int .i64 f.m.pc))))
  have HR := Lib.hid hr1
  have HT := Lib.hid ht1
  have HE := Lib.hid eW
  clear h hw1 hw2 hr1 ht1 hT eW
  generalize f.save = g at *
  go_enter Try.func25, Try.ntmps25
  go_wp2_with (first | (refine wpList_load_mid rfl 27 (.tmp 9) rfl q 0 rfl f.m.r.cells _ ?_ Try.underlying27 rfl Try.sizeRegs ?_; exact HR.out) | (refine wpList_store_mid rfl 27 (.tmp 12) (.tmp 10) rfl q 10 f.m.r.cells.toArray rfl rfl ?_ Try.sizeRegs (oneL8 _) ?_; exact HT.out; change wpList _ _ _ _ _ ((w.setCell ⟨q, 9, none⟩ (.bool true)).setCells q 10 f.m.r.cells); rw [← HE.out]))
  go_ret
  exact ⟨rfl, HK.out⟩

set_option maxRecDepth 100000 in
set_option maxHeartbeats 1000000 in
theorem rrestore_any (h : RfAt w q f) : Calls Try.prog 26 #[.pointer (some ⟨q, 0, none⟩)] w fun e w' => e = .returned (.int .i64 f.errP) ∧ RfAt w' q f.restore ∧ Tch (· = q) w w' := by
  obtain ⟨fm, fp⟩ := f
  cases fp with
  | none =>
    have c9 : w.cell? ⟨q, 9, none⟩ = some (.bool false) := h.c 9 rfl
    have HE := Lib.hid h.rest
    clear h
    go_enter Try.func26, Try.ntmps26
    go_wp2
    go_ret
    exact ⟨rfl, HE.out⟩
  | some m =>
    have c9 : w.cell? ⟨q, 9, none⟩ = some (.bool true) := h.c 9 rfl
    have hr1 : w.rangeAt q 10 m.r.cells := h.rangeP
    have ht1 := Holds.there h (o := 0) (n := 8) (by show 8 ≤ 19; omega)
    have hw2 := Holds.sets m.r.cells 0 h
    obtain ⟨W, eW⟩ : ∃ W, W = w.setCells q 0 m.r.cells := ⟨_, rfl⟩
    rw [← eW] at hw2
    have hT : Tch (· = q) w W := eW ▸ tchqs _ q 0 _
    have c8 : W.cell? ⟨q, 8, none⟩ = some (.int .i64 fm.pc) := hw2.cell rfl
    have c18 : W.cell? ⟨q, 18, none⟩ = some (.int .i64 m.pc) := hw2.cell rfl
    have f8 := hw2.free 8
    have HK := Lib.hid (And.intro (show RfAt (W.setCell ⟨q, 8, none⟩ (.int .i64 m.pc)) q ⟨m, some m⟩ from hw2.set 8 (.int .i64 m.pc)) (hT.trans (tchq W q 8 (.int .i64 m.pc))))
    have HR := Lib.hid hr1
    have HT := Lib.hid ht1
    have HE := Lib.hid eW
    clear h hw2 hr1 ht1 hT eW
    go_enter Try.func26, Try.ntmps26
    go_wp2_with (first | (refine wpList_load_mid rfl 27 (.tmp 11) rfl q 10 rfl m.r.cells _ ?_ Try.underlying27 rfl Try.sizeRegs ?_; exact HR.out) | (refine wpList_store_mid rfl 27 (.tmp 14) (.tmp 12) rfl q 0 m.r.cells.toArray rfl rfl ?_ Try.sizeRegs (oneL8 _) ?_; exact HT.out; change wpList _ _ _ _ _ (w.setCells q 0 m.r.cells); rw [← HE.out]))
    go_ret
    exact ⟨rfl, HK.out⟩

set_option maxRecDepth 100000 in
set_option maxHeartbeats 1000000 in
theorem rdrop_any (h : RfAt w q f) : Calls Try.prog 27 #[.pointer (some ⟨q, 0, none⟩)] w fun e w' => e = .returned (.int .i64 f.errP) ∧ RfAt w' q f.drop ∧ Tch (· = q) w w' := by
  obtain ⟨fm, fp⟩ := f
  cases fp with
  | none =>
    have c9 : w.cell? ⟨q, 9, none⟩ = some (.bool false) := h.c 9 rfl
    have HE := Lib.hid h.rest
    clear h
    go_enter Try.func27, Try.ntmps27
    go_wp2
    go_ret
    exact ⟨rfl, HE.out⟩
  | some m =>
    have c9 : w.cell? ⟨q, 9, none⟩ = some (.bool true) := h.c 9 rfl
    have f9 := Holds.free h 9
    have hw1 := Holds.set h 9 (.bool false)
    have ht1 := hw1.there (o := 10) (n := 8) (by show 18 ≤ 19; omega)
    have hw2 := hw1.sets L8.zero.cells 10
    obtain ⟨W, eW⟩ : ∃ W, W = (w.setCell ⟨q, 9, none⟩ (.bool false)).setCells q 10 L8.zero.cells := ⟨_, rfl⟩
    rw [← eW] at hw2
    have hT : Tch (· = q) w W := eW ▸ (tchq w q 9 _).trans (tchqs _ q 10 _)
    have c18 : W.cell? ⟨q, 18, none⟩ = some (.int .i64 m.pc) := hw2.cell rfl
    have f18 := hw2.free 18
    have HK := Lib.hid (And.intro (show RfAt (W.setCell ⟨q, 18, none⟩ (.int .i64 0)) q ⟨fm, none⟩ from hw2.set 18 (.int .i64 0)) (hT.trans (tchq W q 18 (.int .i64 0))))
    have HT := Lib.hid ht1
    have HE := Lib.hid eW
    clear h hw1 hw2 ht1 hT eW
    go_enter Try.func27, Try.ntmps27
    go_wp2_with (refine wpList_store_mid rfl 27 (.tmp 14) (.tmp 12) rfl q 10 L8.zero.cells.toArray rfl rfl ?_ Try.sizeRegs (oneL8 _) ?_; exact HT.out; change wpList _ _ _ _ _ ((w.setCell ⟨q, 9, none⟩ (.bool false)).setCells q 10 L8.zero.cells); rw [← HE.out])
    go_ret
    exact ⟨rfl, HK.out⟩
end

end Go.Proofs.Ytcammonbhehakaa
