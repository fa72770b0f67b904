/- The reference's Put, Word, Line and Set over a memory at q. Conditions: those stated in each theorem. -/
import Derived.Test.YtjebkbpljbohcaaWl
import Derived.StillTailTactics
import Derived.IntWalk
namespace Go.Proofs.Ytjebkbpljbohcaa
open Go.RowKit

def RPut (q c n : Nat) (xs : List Int) (k v : Int) (w : World) (e : Ending) (w' : World) : Prop :=
  e = .returned (.int .i64 (errS n k)) ∧ RefAt w' q c n (putS n xs k v) ∧ w.grownBy w' (some c)

theorem rput_any (k v : Int) (q c n : Nat) (xs : List Int) (w : World) (h : RefAt w q c n xs) :
    Calls Try.prog 12 #[.pointer (some ⟨q, 0, none⟩), .int .i64 k, .int .u64 v] w (RPut q c n xs k v w) := by
  by_cases h0 : 0 ≤ k
  · obtain ⟨j, rfl⟩ := Int.eq_ofNat_of_zero_le h0
    by_cases hj : j < 8 * n
    · refine (rput_ok j q c (8 * n) v _ w h.head hj (h.cell hj) (h.free j)).mono ?_
      rintro e w' ⟨rfl, rfl⟩
      have hc : 0 ≤ (j : Int) ∧ (j : Int) < 8 * n := ⟨h0, by omega⟩
      refine ⟨by rw [errS, if_pos hc], ?_, grown_setCell w ⟨c, j, none⟩ _⟩
      rw [putS, if_pos hc]; exact h.set j v
    · refine (rput_big j v q c (8 * n) w h.head (by omega) (by omega)).mono ?_
      rintro e w' ⟨rfl, rfl⟩
      have hc : ¬ (0 ≤ (j : Int) ∧ (j : Int) < 8 * n) := by omega
      exact ⟨by rw [errS, if_neg hc], by rw [putS, if_neg hc]; exact h, grown_refl _ _⟩
  · refine (rput_neg k v q w (by omega)).mono ?_
    rintro e w' ⟨rfl, rfl⟩
    have hc : ¬ (0 ≤ k ∧ k < 8 * n) := by omega
    exact ⟨by rw [errS, if_neg hc], by rw [putS, if_neg hc]; exact h, grown_refl _ _⟩

theorem rget_any (k : Int) (q c n : Nat) (xs : List Int) (w : World) (h : RefAt w q c n xs) :
    Calls Try.prog 16 #[.pointer (some ⟨q, 0, none⟩), .int .i64 k] w fun e w' => e = .returned (.tuple #[.int .u64 (getS n xs k), .int .i64 (errS n k)]) ∧ w = w' := by
  by_cases h0 : 0 ≤ k
  · obtain ⟨j, rfl⟩ := Int.eq_ofNat_of_zero_le h0
    by_cases hj : j < 8 * n
    · refine (rget_ok j q c (8 * n) _ w h.head hj (h.cell hj)).mono ?_
      rintro e w' ⟨rfl, rfl⟩
      have hc : 0 ≤ (j : Int) ∧ (j : Int) < 8 * n := ⟨h0, by omega⟩
      exact ⟨by rw [errS, if_pos hc, getS, if_pos hc, Int.toNat_natCast], rfl⟩
    · refine (rget_big j q c (8 * n) w h.head (by omega) (by omega)).mono ?_
      rintro e w' ⟨rfl, rfl⟩
      have hc : ¬ (0 ≤ (j : Int) ∧ (j : Int) < 8 * n) := by omega
      exact ⟨by rw [errS, if_neg hc, getS, if_neg hc], rfl⟩
  · refine (rget_neg k q w (by omega)).mono ?_
    rintro e w' ⟨rfl, rfl⟩
    have hc : ¬ (0 ≤ k ∧ k < 8 * n) := by omega
    exact ⟨by rw [errS, if_neg hc, getS, if_neg hc], rfl⟩

/-! Set -/
def setK (xs : List Int) (N : Nat) (ls : List Int) : Nat → List Int
  | 0 => xs
  | k + 1 => (setK xs N ls k).set (8 * N + k) (ls.getD k 0)

theorem setK_len (xs : List Int) (N : Nat) (ls : List Int) : ∀ k, (setK xs N ls k).length = xs.length
  | 0 => rfl
  | k + 1 => by simp [setK, setK_len xs N ls k]

theorem setK_line (xs : List Int) (N : Nat) (x0 x1 x2 x3 x4 x5 x6 x7 : Int) : setK xs N [x0, x1, x2, x3, x4, x5, x6, x7] 8 = setLine xs N x0 x1 x2 x3 x4 x5 x6 x7 := by
  simp [setK, setLine, Nat.mul_comm]

theorem below_to {w w1 : World} {B : Nat} (h : Below B w w1) (hB : w.heap.size ≤ B) {r : Nat} : w.grownBy w1 (some r) := grown_below (h.mono hB) _

theorem rset_neg (N : Int) (q : Nat) (x0 x1 x2 x3 x4 x5 x6 x7 : Int) (w : World) (hk : N < 0) :
    Calls Try.prog 10 #[.pointer (some ⟨q, 0, none⟩), .int .i64 N, .agg #[.int .u64 x0, .int .u64 x1, .int .u64 x2, .int .u64 x3, .int .u64 x4, .int .u64 x5, .int .u64 x6, .int .u64 x7]] w (Agrees w (.int .i64 2)) := by
  go_enter Try.func10, Try.ntmps10
  go_wp2
  go_ret
  exact ⟨rfl, (Below.refl _ _).alloc (Nat.le_refl _) _⟩

set_option maxHeartbeats 400000 in
theorem rset_big (N : Int) (q c n : Nat) (x0 x1 x2 x3 x4 x5 x6 x7 : Int) (w : World) (hc : w.cell? ⟨q, 0, none⟩ = some (.slice (some ⟨c, 0, none⟩) (8 * n) (8 * n))) (h0 : ¬ N < 0) (hk : ¬ N < n) (hn : n ≤ 64) :
    Calls Try.prog 10 #[.pointer (some ⟨q, 0, none⟩), .int .i64 N, .agg #[.int .u64 x0, .int .u64 x1, .int .u64 x2, .int .u64 x3, .int .u64 x4, .int .u64 x5, .int .u64 x6, .int .u64 x7]] w (Agrees w (.int .i64 2)) := by
  have hc1 : (w.alloc (.cells #[.int .u64 x0, .int .u64 x1, .int .u64 x2, .int .u64 x3, .int .u64 x4, .int .u64 x5, .int .u64 x6, .int .u64 x7] 34)).cell? ⟨q, 0, none⟩ = some (.slice (some ⟨c, 0, none⟩) (8 * n) (8 * n)) := by
    rw [World.cell?_alloc_lt _ _ _ (World.block_lt_of_cell? _ _ hc)]; exact hc
  have h1 : (n : Int) ≤ N := by omega
  have h2 : (8 * (n : Int)) / 8 = n := by omega
  have H2 := Lib.hid h2; clear h2
  clear hc hk
  go_enter Try.func10, Try.ntmps10
  go_wp2
  all_goals
    go_ret
    exact ⟨rfl, (Below.refl _ _).alloc (Nat.le_refl _) _⟩

def RSet (q c n : Nat) (xs : List Int) (N : Nat) (ls : List Int) (w : World) (e : Ending) (w' : World) : Prop :=
  e = .returned (.int .i64 0) ∧ RefAt w' q c n (setK xs N ls 8) ∧ w.grownBy w' (some c)

set_option maxHeartbeats 1000000 in
theorem rset_ok (N q c n : Nat) (xs : List Int) (x0 x1 x2 x3 x4 x5 x6 x7 : Int) (w : World) (h : RefAt w q c n xs) (hN : N < n) (hn : n ≤ 64) :
    Calls Try.prog 10 #[.pointer (some ⟨q, 0, none⟩), .int .i64 N, .agg #[.int .u64 x0, .int .u64 x1, .int .u64 x2, .int .u64 x3, .int .u64 x4, .int .u64 x5, .int .u64 x6, .int .u64 x7]] w (RSet q c n xs N [x0, x1, x2, x3, x4, x5, x6, x7] w) := by
  have hlt := World.block_lt_of_cell? _ _ h.head
  have hlc := lt_of_block h.row
  have h1 : RefAt (w.alloc (.cells #[.int .u64 x0, .int .u64 x1, .int .u64 x2, .int .u64 x3, .int .u64 x4, .int .u64 x5, .int .u64 x6, .int .u64 x7] 34)) q c n xs := h.below ((Below.refl _ _).alloc (Nat.le_refl _) _)
  have hc1 := h1.head
  have hg1 : w.grownBy (w.alloc (.cells #[.int .u64 x0, .int .u64 x1, .int .u64 x2, .int .u64 x3, .int .u64 x4, .int .u64 x5, .int .u64 x6, .int .u64 x7] 34)) (some c) := World.grownBy_alloc w _ _
  have hb1 : (w.alloc (.cells #[.int .u64 x0, .int .u64 x1, .int .u64 x2, .int .u64 x3, .int .u64 x4, .int .u64 x5, .int .u64 x6, .int .u64 x7] 34)).heap[w.heap.size]? = some (.cells #[.int .u64 x0, .int .u64 x1, .int .u64 x2, .int .u64 x3, .int .u64 x4, .int .u64 x5, .int .u64 x6, .int .u64 x7] 34 (0, 0)) := World.alloc_heap_new w _
  have H1 := Lib.hid h1; clear h1
  have HG1 := Lib.hid hg1; clear hg1
  have HB1 := Lib.hid hb1; clear hb1
  have d1 : decide ((N : Int) < 0) = false := by simp
  clear h
  go_enter Try.func10, Try.ntmps10
  go_wp2
  clear hc1
  go_loopw [7] (fun i wr => ∃ k : Nat, k ≤ 8 ∧ i = .int .i64 k ∧ RefAt wr q c n (setK xs N [x0, x1, x2, x3, x4, x5, x6, x7] k) ∧ w.grownBy wr (some c) ∧ wr.heap[w.heap.size]? = some (.cells #[.int .u64 x0, .int .u64 x1, .int .u64 x2, .int .u64 x3, .int .u64 x4, .int .u64 x5, .int .u64 x6, .int .u64 x7] 34 (0, 0))) (fun i _ => 8 - (intOf i).toNat)
  case atStart => exact ⟨0, by omega, rfl, H1.out, HG1.out, HB1.out⟩
  case round =>
    obtain ⟨k, hk, rfl, hr, hg, hbx⟩ := hrel
    by_cases hlt8 : k < 8
    · have r1 := hr.head
      have r2 : wr.cell? ⟨w.heap.size, k, none⟩ = some (.int .u64 ([x0, x1, x2, x3, x4, x5, x6, x7].getD k 0)) := by
        match k, hlt8 with
        | 0, _ => simp [World.cell?, hbx]
        | 1, _ => simp [World.cell?, hbx]
        | 2, _ => simp [World.cell?, hbx]
        | 3, _ => simp [World.cell?, hbx]
        | 4, _ => simp [World.cell?, hbx]
        | 5, _ => simp [World.cell?, hbx]
        | 6, _ => simp [World.cell?, hbx]
        | 7, _ => simp [World.cell?, hbx]
      have r3 := hr.cell (i := 8 * N + k) (by omega)
      have r4 := hr.free (8 * N + k)
      have hnew := hr.set (8 * N + k) ([x0, x1, x2, x3, x4, x5, x6, x7].getD k 0)
      have hgn := grown_trans hg (grown_setCell wr ⟨c, 8 * N + k, none⟩ (.int .u64 ([x0, x1, x2, x3, x4, x5, x6, x7].getD k 0)))
      have hbn : (wr.setCell ⟨c, 8 * N + k, none⟩ (.int .u64 ([x0, x1, x2, x3, x4, x5, x6, x7].getD k 0))).heap[w.heap.size]? = some (.cells #[.int .u64 x0, .int .u64 x1, .int .u64 x2, .int .u64 x3, .int .u64 x4, .int .u64 x5, .int .u64 x6, .int .u64 x7] 34 (0, 0)) := by rw [Below.heap_setCell _ _ _ _ (by simp; omega)]; exact hbx
      have hdr : ∀ W : World, W.drew.heap = W.heap := fun _ => rfl
      rw [show (setK xs N [x0, x1, x2, x3, x4, x5, x6, x7] k).set (8 * N + k) ([x0, x1, x2, x3, x4, x5, x6, x7].getD k 0) = setK xs N [x0, x1, x2, x3, x4, x5, x6, x7] (k + 1) from rfl] at hnew
      have Hnew := Lib.hid hnew; clear hnew
      have Hgn := Lib.hid hgn; clear hgn
      have Hbn := Lib.hid hbn; clear hbn
      clear hr hg hbx hdr
      generalize [x0, x1, x2, x3, x4, x5, x6, x7].getD k 0 = z at *
      generalize (setK xs N [x0, x1, x2, x3, x4, x5, x6, x7] k).getD (8 * N + k) 0 = zz at *
      go_wp2
      have e1 : IntKind.i64.wrap (8 * (N : Int)) = 8 * (N : Int) := IntWalk.i64_in _ (by omega)
      have e2 : IntKind.i64.wrap (8 * (N : Int) + (k : Int)) = 8 * (N : Int) + (k : Int) := IntWalk.i64_in _ (by omega)
      have e3 : 0 ≤ 8 * (N : Int) + (k : Int) := by omega
      have e4 : (8 * (N : Int) + (k : Int)).toNat = 8 * N + k := by omega
      have e5 : 8 * (N : Int) + (k : Int) < 8 * (n : Int) := by omega
      go_still_tail 12, (by kernel_rfl)
      clear e1 e2 e3 e4 e5
      change wpList _ _ _ _ _ wr.drew
      go_wp2
      go_roundw
      case rel => exact ⟨k + 1, by omega, by go_num, ⟨Hnew.out.head, Hnew.out.apart, Hnew.out.len, Hnew.out.row⟩, ⟨Hgn.out.os, Hgn.out.tape, Hgn.out.output, Hgn.out.size, Hgn.out.block⟩, Hbn.out⟩
      case measure => simp [intOf]; omega
    · have : k = 8 := by omega
      subst this
      have Hr := Lib.hid hr; clear hr
      have Hg := Lib.hid hg; clear hg
      clear hbx
      go_wp2
      go_ret
      exact ⟨rfl, Hr.out, Hg.out⟩

end Go.Proofs.Ytjebkbpljbohcaa
