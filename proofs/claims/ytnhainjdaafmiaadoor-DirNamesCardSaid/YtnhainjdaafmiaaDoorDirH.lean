/- The directory: what an owner gives back. Conditions: those stated in each theorem. -/
import Derived.Test.YtnhainjdaafmiaaDoorDirG
namespace Go.Proofs.YtnhainjdaafmiaaDoor
open Go.RowKit

def setL (n : Nat) (xs : List Int) (k : Int) (d : L8) : List Int := setLineS n xs k d.x0 d.x1 d.x2 d.x3 d.x4 d.x5 d.x6 d.x7

theorem lset_only (k : Int) (p b n : Nat) (xs : List Int) (d : L8) (w : World) (h : MemAt w p b n xs) :
    Calls Tryd.prog 26 #[.pointer (some ⟨p, 0, none⟩), .int .i64 k, .agg #[.int .u64 d.x0, .int .u64 d.x1, .int .u64 d.x2, .int .u64 d.x3, .int .u64 d.x4, .int .u64 d.x5, .int .u64 d.x6, .int .u64 d.x7]] w fun e w' => e = .returned (.int .i64 (errL n k)) ∧ MemAt w' p b n (setL n xs k d) ∧ Tch (· = b) w w' := by
  have keep : ∀ (err : Int), errL n k = err → setL n xs k d = xs → ∀ e w', Agrees w (.int .i64 err) e w' → e = .returned (.int .i64 (errL n k)) ∧ MemAt w' p b n (setL n xs k d) ∧ Tch (· = b) w w' := by
    rintro err h1 h2 e w' ⟨rfl, hB⟩
    refine ⟨by rw [h1], ?_, ⟨hB.os, hB.tape, hB.output, hB.size, fun k hk _ => hB.block k hk⟩⟩
    rw [h2]; exact h.below hB (World.block_lt_of_cell? _ _ h.head) (lt_of_block h.row)
  by_cases h0 : 0 ≤ k
  · obtain ⟨j, rfl⟩ := Int.eq_ofNat_of_zero_le h0
    by_cases hj : j < n
    · have hc : 0 ≤ (j : Int) ∧ (j : Int) < n := ⟨h0, by omega⟩
      refine (lset_ok j p b n d.x0 d.x1 d.x2 d.x3 d.x4 d.x5 d.x6 d.x7 w h.head hj (h.there hj)).mono ?_
      rintro e w' ⟨rfl, rfl⟩
      refine ⟨by rw [errL, if_pos hc], ?_, Tch.setCells (C := (· = b)) (.inl rfl) _ _ ((Tch.refl _ _).alloc _)⟩
      rw [setL, setLineS, if_pos hc, Int.toNat_natCast]
      exact (h.alloc _).setLine j d.x0 d.x1 d.x2 d.x3 d.x4 d.x5 d.x6 d.x7
    · have hc : ¬ (0 ≤ (j : Int) ∧ (j : Int) < n) := by omega
      exact (lset_big j p b n d.x0 d.x1 d.x2 d.x3 d.x4 d.x5 d.x6 d.x7 w h.head (by omega) (by omega)).mono (keep 2 (by rw [errL, if_neg hc]) (by rw [setL, setLineS, if_neg hc]))
  · have hc : ¬ (0 ≤ k ∧ k < n) := by omega
    exact (lset_neg k p d.x0 d.x1 d.x2 d.x3 d.x4 d.x5 d.x6 d.x7 w (by omega)).mono (keep 2 (by rw [errL, if_neg hc]) (by rw [setL, setLineS, if_neg hc]))

set_option maxRecDepth 100000 in
set_option maxHeartbeats 1000000 in
theorem giveBack_any (p m b L o n : Nat) (xs : List Int) (k : KnV) (x : MsgV) (w : World) (hp : w.cell? ⟨p, 0, none⟩ = some (.pointer (some ⟨m, 0, none⟩))) (hm : MemAt w m b n xs) (hk : known w L o k) (hbL : b ≠ L) (hmL : m ≠ L) :
    Calls Tryd.prog 60 #[.pointer (some ⟨p, 0, none⟩), .pointer (some ⟨L, o, none⟩), .agg x.cells.toArray] w fun e w' => e = .returned (.tuple #[]) ∧ MemAt w' m b n (setL n xs x.line x.data) ∧ known w' L o { k with owner := -1 } ∧ Only (· = b) L o w w' := by
  obtain ⟨kd, co, ln, d⟩ := x
  have HB := Lib.hid (mbox_new w ⟨kd, co, ln, d⟩)
  have hpl := World.block_lt_of_cell? _ _ hp
  have hp1 : (w.alloc (.cells (MsgV.cells ⟨kd, co, ln, d⟩).toArray 45)).cell? ⟨p, 0, none⟩ = some (.pointer (some ⟨m, 0, none⟩)) := by rw [HB.out.below.cell (p := ⟨p, 0, none⟩) hpl]; exact hp
  have HM := Lib.hid (hm.alloc (.cells (MsgV.cells ⟨kd, co, ln, d⟩).toArray 45))
  have HK := Lib.hid (hk.below HB.out.below (Nat.le_refl _))
  have HO := Lib.hid (Only.of_below (C := (· = b)) (L := L) (o := o) HB.out.below)
  have b2 := HB.out.c2
  have r3 : (w.alloc (.cells (MsgV.cells ⟨kd, co, ln, d⟩).toArray 45)).cell? ⟨w.heap.size, 3, none⟩ = some (.int .u64 d.x0) := HB.out.row 3 _ rfl
  have r4 : (w.alloc (.cells (MsgV.cells ⟨kd, co, ln, d⟩).toArray 45)).cell? ⟨w.heap.size, 4, none⟩ = some (.int .u64 d.x1) := HB.out.row 4 _ rfl
  have r5 : (w.alloc (.cells (MsgV.cells ⟨kd, co, ln, d⟩).toArray 45)).cell? ⟨w.heap.size, 5, none⟩ = some (.int .u64 d.x2) := HB.out.row 5 _ rfl
  have r6 : (w.alloc (.cells (MsgV.cells ⟨kd, co, ln, d⟩).toArray 45)).cell? ⟨w.heap.size, 6, none⟩ = some (.int .u64 d.x3) := HB.out.row 6 _ rfl
  have r7 : (w.alloc (.cells (MsgV.cells ⟨kd, co, ln, d⟩).toArray 45)).cell? ⟨w.heap.size, 7, none⟩ = some (.int .u64 d.x4) := HB.out.row 7 _ rfl
  have r8 : (w.alloc (.cells (MsgV.cells ⟨kd, co, ln, d⟩).toArray 45)).cell? ⟨w.heap.size, 8, none⟩ = some (.int .u64 d.x5) := HB.out.row 8 _ rfl
  have r9 : (w.alloc (.cells (MsgV.cells ⟨kd, co, ln, d⟩).toArray 45)).cell? ⟨w.heap.size, 9, none⟩ = some (.int .u64 d.x6) := HB.out.row 9 _ rfl
  have r10 : (w.alloc (.cells (MsgV.cells ⟨kd, co, ln, d⟩).toArray 45)).cell? ⟨w.heap.size, 10, none⟩ = some (.int .u64 d.x7) := HB.out.row 10 _ rfl
  clear hp hm hk HB hpl
  simp only [MsgV.cells] at *
  go_enter Tryd.func60, Tryd.ntmps60
  go_wp2
  generalize (w.alloc (.cells #[.int .i64 kd, .int .i64 co, .int .i64 ln, .int .u64 d.x0, .int .u64 d.x1, .int .u64 d.x2, .int .u64 d.x3, .int .u64 d.x4, .int .u64 d.x5, .int .u64 d.x6, .int .u64 d.x7] 45)) = W at *
  go_still_tail 8, (by kernel_rfl)
  change wpList _ _ _ _ _ W.drew
  clear hp1 b2 r3 r4 r5 r6 r7 r8 r9 r10
  have hmd : MemAt W.drew m b n xs := HM.out.below (B := W.heap.size) (below_drew (Below.refl _ _)) (World.block_lt_of_cell? _ _ HM.out.head) (lt_of_block HM.out.row)
  have Hmd := Lib.hid hmd; clear hmd
  go_wp2_with fail
  refine (lset_only ln m b n xs d _ Hmd.out).mono ?_
  rintro e w1 ⟨rfl, hm1, ho1⟩
  have hk1 := (HK.out.below (B := W.heap.size) (below_drew (Below.refl _ W)) (Nat.le_refl _)).tch ho1 (fun e => hbL e.symm)
  have k0 := hk1.c0
  have f0 := hk1.2 0
  rw [Nat.add_zero] at f0
  have hk2 := hk1.set 0 (.int .i64 (-1)) { k with owner := -1 } (by omega) rfl
  rw [Nat.add_zero] at hk2
  have hm2 : MemAt (w1.setCell ⟨L, o, none⟩ (.int .i64 (-1))) m b n (setL n xs ln d) := by
    refine ⟨?_, hm1.apart, hm1.len, ?_⟩
    · rw [World.cell?_of_block (a := ⟨m, 0, none⟩) (Below.heap_setCell w1 ⟨L, o, none⟩ _ m hmL)]; exact hm1.head
    · rw [Below.heap_setCell w1 ⟨L, o, none⟩ _ b hbL]; exact hm1.row
  have ho2 : Only (· = b) L o w (w1.setCell ⟨L, o, none⟩ (.int .i64 (-1))) := by
    have := (HO.out.trans ((Only.drew (Only.refl _ L o W)).trans (Only.of_tch ho1 (fun e => hbL e.symm)))).set 0 (by omega) (.int .i64 (-1))
    rwa [Nat.add_zero] at this
  have Hfin := Lib.hid (And.intro hm2 (And.intro hk2 ho2))
  clear hm1 ho1 hk1 hk2 hm2 ho2 Hmd HO HM HK
  go_wp2
  exact ⟨rfl, .tuple #[], (by simp [results, Tryd.results60, go_sem]), rfl, Hfin.out⟩

end Go.Proofs.YtnhainjdaafmiaaDoor
