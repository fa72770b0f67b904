/- Set over a memory, and MemLines: the walk. For any line and any number it answers true and turns nothing that was there. -/
import Derived.Test.YtjebkbpljbohcaaWj
namespace Go.Proofs.Ytjebkbpljbohcaa
open Go.RowKit

/-- The words behind Set. -/
def setLine (xs : List Int) (k : Nat) (x0 x1 x2 x3 x4 x5 x6 x7 : Int) : List Int := ((((((((xs.set (k * 8) x0).set (k * 8 + 1) x1).set (k * 8 + 2) x2).set (k * 8 + 3) x3).set (k * 8 + 4) x4).set (k * 8 + 5) x5).set (k * 8 + 6) x6).set (k * 8 + 7) x7)

theorem setLine_in (xs : List Int) (k : Nat) (x0 x1 x2 x3 x4 x5 x6 x7 : Int) (h : k * 8 + 8 ≤ xs.length) : ∀ i, i < 8 → (setLine xs k x0 x1 x2 x3 x4 x5 x6 x7).getD (k * 8 + i) 0 = [x0, x1, x2, x3, x4, x5, x6, x7].getD i 0 := by
  intro i hi
  match i, hi with
  | 0, _ => simp [setLine, List.getD_eq_getElem?_getD, show k * 8 < xs.length from by omega]
  | 1, _ => simp [setLine, List.getD_eq_getElem?_getD, show k * 8 + 1 < xs.length from by omega]
  | 2, _ => simp [setLine, List.getD_eq_getElem?_getD, show k * 8 + 2 < xs.length from by omega]
  | 3, _ => simp [setLine, List.getD_eq_getElem?_getD, show k * 8 + 3 < xs.length from by omega]
  | 4, _ => simp [setLine, List.getD_eq_getElem?_getD, show k * 8 + 4 < xs.length from by omega]
  | 5, _ => simp [setLine, List.getD_eq_getElem?_getD, show k * 8 + 5 < xs.length from by omega]
  | 6, _ => simp [setLine, List.getD_eq_getElem?_getD, show k * 8 + 6 < xs.length from by omega]
  | 7, _ => simp [setLine, List.getD_eq_getElem?_getD, show k * 8 + 7 < xs.length from by omega]

theorem setLine_len (xs : List Int) (k : Nat) (x0 x1 x2 x3 x4 x5 x6 x7 : Int) : (setLine xs k x0 x1 x2 x3 x4 x5 x6 x7).length = xs.length := by simp [setLine]

theorem MemAt.there {w : World} {p b n : Nat} {xs : List Int} (h : MemAt w p b n xs) {k : Nat} (hk : k < n) : w.there b (k * 8) 8 :=
  fun j hj => ⟨by rw [h.cell (by omega)]; rfl, h.free _⟩

theorem MemAt.setLine {w : World} {p b n : Nat} {xs : List Int} (h : MemAt w p b n xs) (k : Nat) (x0 x1 x2 x3 x4 x5 x6 x7 : Int) :
    MemAt (w.setCells b (k * 8) [.int .u64 x0, .int .u64 x1, .int .u64 x2, .int .u64 x3, .int .u64 x4, .int .u64 x5, .int .u64 x6, .int .u64 x7]) p b n (setLine xs k x0 x1 x2 x3 x4 x5 x6 x7) := by
  simp only [World.setCells, Go.Proofs.Ytjebkbpljbohcaa.setLine]
  exact ((((((((h.set _ _).set _ _).set _ _).set _ _).set _ _).set _ _).set _ _).set _ _)

theorem below_cells {B b : Nat} {a : World} (hb : B ≤ b) : ∀ (vs : List Value) (o : Nat) (w : World), Below B a w → Below B a (w.setCells b o vs)
  | [], _, _, h => h
  | v :: r, o, _, h => below_cells hb r (o + 1) _ (h.setCell hb v)

def setLineS (n : Nat) (xs : List Int) (k : Int) (x0 x1 x2 x3 x4 x5 x6 x7 : Int) : List Int := if 0 ≤ k ∧ k < n then setLine xs k.toNat x0 x1 x2 x3 x4 x5 x6 x7 else xs

def SetPost (p b n : Nat) (xs : List Int) (k : Int) (x0 x1 x2 x3 x4 x5 x6 x7 : Int) (w : World) (e : Ending) (w' : World) : Prop :=
  e = .returned (.int .i64 (errL n k)) ∧ MemAt w' p b n (setLineS n xs k x0 x1 x2 x3 x4 x5 x6 x7) ∧ ∀ B, B ≤ b → B ≤ w.heap.size → Below B w w'

theorem lset_any (k : Int) (p b n : Nat) (xs : List Int) (x0 x1 x2 x3 x4 x5 x6 x7 : Int) (w : World) (h : MemAt w p b n xs) :
    Calls Try.prog 9 #[.pointer (some ⟨p, 0, none⟩), .int .i64 k, .agg #[.int .u64 x0, .int .u64 x1, .int .u64 x2, .int .u64 x3, .int .u64 x4, .int .u64 x5, .int .u64 x6, .int .u64 x7]] w (SetPost p b n xs k x0 x1 x2 x3 x4 x5 x6 x7 w) := by
  have keep : ∀ (err : Int), errL n k = err → setLineS n xs k x0 x1 x2 x3 x4 x5 x6 x7 = xs → ∀ e w', Agrees w (.int .i64 err) e w' → SetPost p b n xs k x0 x1 x2 x3 x4 x5 x6 x7 w e w' := by
    rintro err h1 h2 e w' ⟨rfl, hB⟩
    refine ⟨by rw [h1], ?_, fun B _ hBw => hB.mono hBw⟩
    rw [h2]; exact h.below hB (World.block_lt_of_cell? _ _ h.head) (lt_of_block h.row)
  by_cases h0 : 0 ≤ k
  · obtain ⟨j, rfl⟩ := Int.eq_ofNat_of_zero_le h0
    by_cases hj : j < n
    · have hc : 0 ≤ (j : Int) ∧ (j : Int) < n := ⟨h0, by omega⟩
      refine (lset_ok j p b n x0 x1 x2 x3 x4 x5 x6 x7 w h.head hj (h.there hj)).mono ?_
      rintro e w' ⟨rfl, rfl⟩
      refine ⟨by rw [errL, if_pos hc], ?_, fun B hB hBw => below_cells hB _ _ _ ((Below.refl _ _).alloc hBw _)⟩
      rw [setLineS, if_pos hc, Int.toNat_natCast]
      exact (h.alloc _).setLine j x0 x1 x2 x3 x4 x5 x6 x7
    · have hc : ¬ (0 ≤ (j : Int) ∧ (j : Int) < n) := by omega
      exact (lset_big j p b n x0 x1 x2 x3 x4 x5 x6 x7 w h.head (by omega) (by omega)).mono (keep 2 (by rw [errL, if_neg hc]) (by rw [setLineS, if_neg hc]))
  · have hc : ¬ (0 ≤ k ∧ k < n) := by omega
    exact (lset_neg k p x0 x1 x2 x3 x4 x5 x6 x7 w (by omega)).mono (keep 2 (by rw [errL, if_neg hc]) (by rw [setLineS, if_neg hc]))

set_option maxHeartbeats 2000000 in
theorem lines_no (x0 x1 x2 x3 x4 x5 x6 x7 N : Int) (w : World) (hN : ¬ (0 ≤ N ∧ N < 64)) : Calls Try.prog 6 #[.agg #[.int .u64 x0, .int .u64 x1, .int .u64 x2, .int .u64 x3, .int .u64 x4, .int .u64 x5, .int .u64 x6, .int .u64 x7], .int .i64 N] w (Agrees w (.bool true)) := by
  go_enter Try.func6, Try.ntmps6
  go_wp2_with fail
  refine (alive_any _).mono ?_
  rintro e w1 ⟨rfl, hB1⟩
  have hbox : w1.heap[w.heap.size]? = some (.cells #[.int .u64 x0, .int .u64 x1, .int .u64 x2, .int .u64 x3, .int .u64 x4, .int .u64 x5, .int .u64 x6, .int .u64 x7] 34 (0, 0)) := by rw [hB1.block _ (by simp)]; exact World.alloc_heap_new w _
  have c0 : w1.cell? ⟨w.heap.size, 0, none⟩ = some (.int .u64 x0) := by simp [World.cell?, hbox]
  have c1 : w1.cell? ⟨w.heap.size, 1, none⟩ = some (.int .u64 x1) := by simp [World.cell?, hbox]
  have c2 : w1.cell? ⟨w.heap.size, 2, none⟩ = some (.int .u64 x2) := by simp [World.cell?, hbox]
  have c3 : w1.cell? ⟨w.heap.size, 3, none⟩ = some (.int .u64 x3) := by simp [World.cell?, hbox]
  have c4 : w1.cell? ⟨w.heap.size, 4, none⟩ = some (.int .u64 x4) := by simp [World.cell?, hbox]
  have c5 : w1.cell? ⟨w.heap.size, 5, none⟩ = some (.int .u64 x5) := by simp [World.cell?, hbox]
  have c6 : w1.cell? ⟨w.heap.size, 6, none⟩ = some (.int .u64 x6) := by simp [World.cell?, hbox]
  have c7 : w1.cell? ⟨w.heap.size, 7, none⟩ = some (.int .u64 x7) := by simp [World.cell?, hbox]
  have hB0 : Below w.heap.size w w1 := ((Below.refl _ w).alloc (Nat.le_refl _) _).trans (hB1.mono (by simp))
  clear hB1 hbox
  go_wp2_with fail
  refine (new_int 64 _ (by omega) (by omega)).mono ?_
  rintro e w2 ⟨p, b, rfl, hm, hp, hb, hB2⟩
  have c0 := (hB2.cell (p := ⟨w.heap.size, 0, none⟩) (World.block_lt_of_cell? _ _ c0)).trans c0
  have c1 := (hB2.cell (p := ⟨w.heap.size, 1, none⟩) (World.block_lt_of_cell? _ _ c1)).trans c1
  have c2 := (hB2.cell (p := ⟨w.heap.size, 2, none⟩) (World.block_lt_of_cell? _ _ c2)).trans c2
  have c3 := (hB2.cell (p := ⟨w.heap.size, 3, none⟩) (World.block_lt_of_cell? _ _ c3)).trans c3
  have c4 := (hB2.cell (p := ⟨w.heap.size, 4, none⟩) (World.block_lt_of_cell? _ _ c4)).trans c4
  have c5 := (hB2.cell (p := ⟨w.heap.size, 5, none⟩) (World.block_lt_of_cell? _ _ c5)).trans c5
  have c6 := (hB2.cell (p := ⟨w.heap.size, 6, none⟩) (World.block_lt_of_cell? _ _ c6)).trans c6
  have c7 := (hB2.cell (p := ⟨w.heap.size, 7, none⟩) (World.block_lt_of_cell? _ _ c7)).trans c7
  go_wp2_with fail
  refine (lset_any N p b 64 _ x0 x1 x2 x3 x4 x5 x6 x7 w2 hm).mono ?_
  rintro e w3 ⟨rfl, hm3, hB3⟩
  have hB := (hB0.trans (hB2.mono hB0.size)).trans (hB3 w.heap.size (Nat.le_trans hB0.size hb) (Nat.le_trans hB0.size hB2.size))
  clear hB0 hB2 hB3 hm hm3 c0 c1 c2 c3 c4 c5 c6 c7
  rw [show errL 64 N = 2 from by rw [errL, if_neg (by omega)]]
  go_wp2
  all_goals
    go_ret
    exact ⟨rfl, hB⟩

set_option maxHeartbeats 4000000 in
theorem lines_yes (x0 x1 x2 x3 x4 x5 x6 x7 : Int) (k : Nat) (w : World) (hk : k < 64) : Calls Try.prog 6 #[.agg #[.int .u64 x0, .int .u64 x1, .int .u64 x2, .int .u64 x3, .int .u64 x4, .int .u64 x5, .int .u64 x6, .int .u64 x7], .int .i64 k] w (Agrees w (.bool true)) := by
  go_enter Try.func6, Try.ntmps6
  go_wp2_with fail
  refine (alive_any _).mono ?_
  rintro e w1 ⟨rfl, hB1⟩
  have hbox : w1.heap[w.heap.size]? = some (.cells #[.int .u64 x0, .int .u64 x1, .int .u64 x2, .int .u64 x3, .int .u64 x4, .int .u64 x5, .int .u64 x6, .int .u64 x7] 34 (0, 0)) := by rw [hB1.block _ (by simp)]; exact World.alloc_heap_new w _
  have c0 : w1.cell? ⟨w.heap.size, 0, none⟩ = some (.int .u64 x0) := by simp [World.cell?, hbox]
  have c1 : w1.cell? ⟨w.heap.size, 1, none⟩ = some (.int .u64 x1) := by simp [World.cell?, hbox]
  have c2 : w1.cell? ⟨w.heap.size, 2, none⟩ = some (.int .u64 x2) := by simp [World.cell?, hbox]
  have c3 : w1.cell? ⟨w.heap.size, 3, none⟩ = some (.int .u64 x3) := by simp [World.cell?, hbox]
  have c4 : w1.cell? ⟨w.heap.size, 4, none⟩ = some (.int .u64 x4) := by simp [World.cell?, hbox]
  have c5 : w1.cell? ⟨w.heap.size, 5, none⟩ = some (.int .u64 x5) := by simp [World.cell?, hbox]
  have c6 : w1.cell? ⟨w.heap.size, 6, none⟩ = some (.int .u64 x6) := by simp [World.cell?, hbox]
  have c7 : w1.cell? ⟨w.heap.size, 7, none⟩ = some (.int .u64 x7) := by simp [World.cell?, hbox]
  have hsw : w.heap.size < w1.heap.size := lt_of_block hbox
  have hB0 : Below w.heap.size w w1 := ((Below.refl _ w).alloc (Nat.le_refl _) _).trans (hB1.mono (by simp))
  clear hB1
  go_wp2_with fail
  refine (new_int 64 _ (by omega) (by omega)).mono ?_
  rintro e w2 ⟨p, b, rfl, hm, hp, hb, hB2⟩
  have c0 := (hB2.cell (p := ⟨w.heap.size, 0, none⟩) hsw).trans c0
  have c1 := (hB2.cell (p := ⟨w.heap.size, 1, none⟩) hsw).trans c1
  have c2 := (hB2.cell (p := ⟨w.heap.size, 2, none⟩) hsw).trans c2
  have c3 := (hB2.cell (p := ⟨w.heap.size, 3, none⟩) hsw).trans c3
  have c4 := (hB2.cell (p := ⟨w.heap.size, 4, none⟩) hsw).trans c4
  have c5 := (hB2.cell (p := ⟨w.heap.size, 5, none⟩) hsw).trans c5
  have c6 := (hB2.cell (p := ⟨w.heap.size, 6, none⟩) hsw).trans c6
  have c7 := (hB2.cell (p := ⟨w.heap.size, 7, none⟩) hsw).trans c7
  go_wp2_with fail
  refine (lset_any k p b 64 _ x0 x1 x2 x3 x4 x5 x6 x7 w2 hm).mono ?_
  rintro e w3 ⟨rfl, hm3, hB3⟩
  have hb3 : w2.heap[w.heap.size]? = some (.cells #[.int .u64 x0, .int .u64 x1, .int .u64 x2, .int .u64 x3, .int .u64 x4, .int .u64 x5, .int .u64 x6, .int .u64 x7] 34 (0, 0)) := by rw [hB2.block _ hsw]; exact hbox
  have hbx3 : w3.heap[w.heap.size]? = some (.cells #[.int .u64 x0, .int .u64 x1, .int .u64 x2, .int .u64 x3, .int .u64 x4, .int .u64 x5, .int .u64 x6, .int .u64 x7] 34 (0, 0)) := by rw [(hB3 (w.heap.size + 1) (by omega) (by have := hB2.size; omega)).block _ (by omega)]; exact hb3
  have hB := (hB0.trans (hB2.mono hB0.size)).trans (hB3 w.heap.size (Nat.le_trans hB0.size hb) (Nat.le_trans hB0.size hB2.size))
  have hs3 : w1.heap.size ≤ w3.heap.size := Nat.le_trans hB2.size (hB3 0 (by omega) (by omega)).size
  clear hB0 hB2 hB3 hm hb3 hbox c0 c1 c2 c3 c4 c5 c6 c7
  rw [show errL 64 (k : Int) = 0 from by rw [errL, if_pos (by omega)]]
  have hx : setLineS 64 (List.replicate (8 * Int.toNat 64) 0) k x0 x1 x2 x3 x4 x5 x6 x7 = setLine (List.replicate (8 * Int.toNat 64) 0) k x0 x1 x2 x3 x4 x5 x6 x7 := by rw [setLineS, if_pos (by omega), Int.toNat_natCast]
  rw [hx] at hm3
  clear hx
  have hin := setLine_in (List.replicate (8 * Int.toNat 64) 0) k x0 x1 x2 x3 x4 x5 x6 x7 (by rw [List.length_replicate, show 8 * Int.toNat 64 = 512 from rfl]; omega)
  have hlen := setLine_len (List.replicate (8 * Int.toNat 64) 0) k x0 x1 x2 x3 x4 x5 x6 x7
  generalize setLine (List.replicate (8 * Int.toNat 64) 0) k x0 x1 x2 x3 x4 x5 x6 x7 = ys at *
  have Hin := Lib.hid hin
  clear hlen
  go_wp2_with fail
  refine (all_any p b 64 ys w3 hm3 (by omega)).mono ?_
  rintro e w4 ⟨g, rfl, hg, hrow, hB4⟩
  have hm4 : MemAt w4 p b 64 ys := hm3.below hB4 (World.block_lt_of_cell? _ _ hm3.head) (lt_of_block hm3.row)
  have hbx4 : w4.heap[w.heap.size]? = some (.cells #[.int .u64 x0, .int .u64 x1, .int .u64 x2, .int .u64 x3, .int .u64 x4, .int .u64 x5, .int .u64 x6, .int .u64 x7] 34 (0, 0)) := by rw [hB4.block _ (by omega)]; exact hbx3
  have hBB := hB.trans (hB4.mono hB.size)
  have hl4 := hm4.len
  clear hm3 hbx3 hB hB4
  have hlc : ∀ i, i < 8 → w4.cell? ⟨w.heap.size, i, none⟩ = some (.int .u64 ([x0, x1, x2, x3, x4, x5, x6, x7].getD i 0)) := by
    intro i hi
    match i, hi with
    | 0, _ => simp [World.cell?, hbx4]
    | 1, _ => simp [World.cell?, hbx4]
    | 2, _ => simp [World.cell?, hbx4]
    | 3, _ => simp [World.cell?, hbx4]
    | 4, _ => simp [World.cell?, hbx4]
    | 5, _ => simp [World.cell?, hbx4]
    | 6, _ => simp [World.cell?, hbx4]
    | 7, _ => simp [World.cell?, hbx4]
  have hgc : ∀ i, i < 8 → w4.cell? ⟨g, k * 8 + i, none⟩ = some (.int .u64 (ys.getD (k * 8 + i) 0)) := by
    intro i hi
    simp [World.cell?, hrow, List.getElem?_eq_getElem (show k * 8 + i < ys.length by omega)]
  have Hlc := Lib.hid hlc
  have Hgc := Lib.hid hgc
  have Hm4 := Lib.hid hm4
  clear hrow hbx4 hlc hgc hm4 hin
  generalize [x0, x1, x2, x3, x4, x5, x6, x7] = ls at *
  have d1 : decide ((k : Int) < 0) = false := by simp
  have d2 : decide (64 ≤ (k : Int)) = false := by simp; omega
  go_wp2_with fail
  go_loop [10] (fun i => ∃ j : Nat, j ≤ 8 ∧ i = .int .i64 j) (fun i => 8 - (intOf i).toNat)
  case atStart => exact ⟨0, by omega, rfl⟩
  case round =>
    obtain ⟨j, hj, rfl⟩ := hrel
    by_cases hlt : j < 8
    · have h1 := Hlc.out j hlt
      have h2 := Hgc.out j hlt
      have h3 := Hin.out j hlt
      go_wp2_with fail
      refine (get_any (8 * k + j) p b 64 ys _ Hm4.out (by omega) (by omega)).mono ?_
      rintro e w' ⟨rfl, rfl⟩
      rw [show errS 64 (8 * k + j : Int) = 0 from errS_ok (by omega) (by omega), show getS 64 ys (8 * k + j : Int) = ls.getD j 0 from by rw [getS, if_pos (by omega), ← h3]; congr 1; omega]
      rw [h3] at h2
      clear h3
      generalize ls.getD j 0 = z at *
      go_wp2
      go_round
      case rel => exact ⟨j + 1, by omega, by go_num⟩
      case measure => simp [intOf]; omega
    · have : j = 8 := by omega
      subst this
      go_wp2
      all_goals
        go_ret
        exact ⟨rfl, hBB⟩

end Go.Proofs.Ytjebkbpljbohcaa
