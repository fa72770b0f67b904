/- The reference's Line and Same, and the contracts that MemPlays takes. Conditions: those stated in each theorem. -/
import Derived.Test.YtjebkbpljbohcaaWm
import Derived.Deep.QuietTactic
import Derived.BigQuiet
namespace Go.Proofs.Ytjebkbpljbohcaa
open Go.RowKit

/-- Word j of line N, or 0 where there is no such line. -/
def lineW (n : Nat) (xs : List Int) (N : Int) (j : Nat) : Int := if 0 ≤ N ∧ N < n then xs.getD (N.toNat * 8 + j) 0 else 0

theorem lineS_eq (n : Nat) (xs : List Int) (N : Int) : lineS n xs N = .agg #[.int .u64 (lineW n xs N 0), .int .u64 (lineW n xs N 1), .int .u64 (lineW n xs N 2), .int .u64 (lineW n xs N 3), .int .u64 (lineW n xs N 4), .int .u64 (lineW n xs N 5), .int .u64 (lineW n xs N 6), .int .u64 (lineW n xs N 7)] := by
  unfold lineS lineW lineAt zeroLine
  split <;> rfl

theorem lget_words (N : Int) (p b n : Nat) (xs : List Int) (w : World) (h : MemAt w p b n xs) :
    Calls Try.prog 13 #[.pointer (some ⟨p, 0, none⟩), .int .i64 N] w (Agrees w (.tuple #[.agg #[.int .u64 (lineW n xs N 0), .int .u64 (lineW n xs N 1), .int .u64 (lineW n xs N 2), .int .u64 (lineW n xs N 3), .int .u64 (lineW n xs N 4), .int .u64 (lineW n xs N 5), .int .u64 (lineW n xs N 6), .int .u64 (lineW n xs N 7)], .int .i64 (errL n N)])) := by
  rw [← lineS_eq]; exact lget_any N p b n xs w h

set_option maxHeartbeats 400000 in
theorem rline_neg (N : Int) (q : Nat) (w : World) (hk : N < 0) :
    Calls Try.prog 14 #[.pointer (some ⟨q, 0, none⟩), .int .i64 N] w (Agrees w (.tuple #[.agg #[.int .u64 0, .int .u64 0, .int .u64 0, .int .u64 0, .int .u64 0, .int .u64 0, .int .u64 0, .int .u64 0], .int .i64 2])) := by
  go_enter Try.func14, Try.ntmps14
  go_wp2
  exact bodyPost_ret (v := .tuple #[.agg #[.int .u64 0, .int .u64 0, .int .u64 0, .int .u64 0, .int .u64 0, .int .u64 0, .int .u64 0, .int .u64 0], .int .i64 2]) (by simp [results, Try.results14, go_sem]) rfl ⟨rfl, by
    repeat (first | exact Below.refl _ _ | refine Below.setCell ?_ (by simp) _ | refine Below.alloc ?_ (by simp) _)⟩

set_option maxHeartbeats 400000 in
theorem rline_big (N : Int) (q c n : Nat) (w : World) (hc : w.cell? ⟨q, 0, none⟩ = some (.slice (some ⟨c, 0, none⟩) (8 * n) (8 * n))) (h0 : ¬ N < 0) (hk : ¬ N < n) (hn : n ≤ 64) :
    Calls Try.prog 14 #[.pointer (some ⟨q, 0, none⟩), .int .i64 N] w (Agrees w (.tuple #[.agg #[.int .u64 0, .int .u64 0, .int .u64 0, .int .u64 0, .int .u64 0, .int .u64 0, .int .u64 0, .int .u64 0], .int .i64 2])) := by
  have hlt := World.block_lt_of_cell? _ _ hc
  have hc1 : ((w.alloc (.cells #[.int .u64 0, .int .u64 0, .int .u64 0, .int .u64 0, .int .u64 0, .int .u64 0, .int .u64 0, .int .u64 0] 34)).alloc (.cells #[.int .u64 0, .int .u64 0, .int .u64 0, .int .u64 0, .int .u64 0, .int .u64 0, .int .u64 0, .int .u64 0] 34)).cell? ⟨q, 0, none⟩ = some (.slice (some ⟨c, 0, none⟩) (8 * n) (8 * n)) := by
    rw [World.cell?_alloc_lt _ _ ⟨q, 0, none⟩ (by simp only [World.size_alloc]; simp only at hlt; omega), World.cell?_alloc_lt _ _ _ hlt]; exact hc
  have h1 : (n : Int) ≤ N := by omega
  have h2 : (8 * (n : Int)) / 8 = n := by omega
  have H2 := Lib.hid h2; clear h2
  clear hc hk
  go_enter Try.func14, Try.ntmps14
  go_wp2
  all_goals
    exact bodyPost_ret (v := .tuple #[.agg #[.int .u64 0, .int .u64 0, .int .u64 0, .int .u64 0, .int .u64 0, .int .u64 0, .int .u64 0, .int .u64 0], .int .i64 2]) (by simp [results, Try.results14, go_sem]) rfl ⟨rfl, by
      repeat (first | exact Below.refl _ _ | refine Below.setCell ?_ (by simp) _ | refine Below.alloc ?_ (by simp) _)⟩

/-- The first k words of line N, zeros behind. -/
def outK (xs : List Int) (N k : Nat) : List Int := (List.range 8).map fun j => if j < k then xs.getD (8 * N + j) 0 else 0

theorem outK_len (xs : List Int) (N k : Nat) : (outK xs N k).length = 8 := by simp [outK]

theorem outK_set (xs : List Int) (N k : Nat) : (outK xs N k).set k (xs.getD (8 * N + k) 0) = outK xs N (k + 1) := by
  apply List.ext_getElem
  · simp [outK]
  · intro i h1 h2
    simp only [outK, List.getElem_set, List.getElem_map, List.getElem_range]
    by_cases e : k = i
    · subst e; simp
    · rw [if_neg e]
      by_cases h : i < k
      · rw [if_pos h, if_pos (by omega)]
      · rw [if_neg h, if_neg (by omega)]

set_option maxHeartbeats 1000000 in
theorem rline_ok (N q c n : Nat) (xs : List Int) (w : World) (h : RefAt w q c n xs) (hN : N < n) (hn : n ≤ 64) :
    Calls Try.prog 14 #[.pointer (some ⟨q, 0, none⟩), .int .i64 N] w (Agrees w (.tuple #[.agg #[.int .u64 (xs.getD (8 * N + 0) 0), .int .u64 (xs.getD (8 * N + 1) 0), .int .u64 (xs.getD (8 * N + 2) 0), .int .u64 (xs.getD (8 * N + 3) 0), .int .u64 (xs.getD (8 * N + 4) 0), .int .u64 (xs.getD (8 * N + 5) 0), .int .u64 (xs.getD (8 * N + 6) 0), .int .u64 (xs.getD (8 * N + 7) 0)], .int .i64 0])) := by
  have hB1 : Below w.heap.size w ((w.alloc (.cells #[.int .u64 0, .int .u64 0, .int .u64 0, .int .u64 0, .int .u64 0, .int .u64 0, .int .u64 0, .int .u64 0] 34)).alloc (.cells #[.int .u64 0, .int .u64 0, .int .u64 0, .int .u64 0, .int .u64 0, .int .u64 0, .int .u64 0, .int .u64 0] 34)) := (((Below.refl _ _).alloc (Nat.le_refl _) _).alloc (by simp) _)
  have h1 := h.below hB1
  have hc1 := h1.head
  have hr1 : ((w.alloc (.cells #[.int .u64 0, .int .u64 0, .int .u64 0, .int .u64 0, .int .u64 0, .int .u64 0, .int .u64 0, .int .u64 0] 34)).alloc (.cells #[.int .u64 0, .int .u64 0, .int .u64 0, .int .u64 0, .int .u64 0, .int .u64 0, .int .u64 0, .int .u64 0] 34)).heap[w.heap.size]? = some (.cells #[.int .u64 0, .int .u64 0, .int .u64 0, .int .u64 0, .int .u64 0, .int .u64 0, .int .u64 0, .int .u64 0] 34 (0, 0)) := (Below.heap_alloc _ _ _ (by simp)).trans (World.alloc_heap_new w _)
  have ho1 : ((w.alloc (.cells #[.int .u64 0, .int .u64 0, .int .u64 0, .int .u64 0, .int .u64 0, .int .u64 0, .int .u64 0, .int .u64 0] 34)).alloc (.cells #[.int .u64 0, .int .u64 0, .int .u64 0, .int .u64 0, .int .u64 0, .int .u64 0, .int .u64 0, .int .u64 0] 34)).heap[w.heap.size + 1]? = some (.cells ((outK xs N 0).map (Value.int .u64)).toArray 34 (0, 0)) := by
    have := World.alloc_heap_new (w.alloc (.cells #[.int .u64 0, .int .u64 0, .int .u64 0, .int .u64 0, .int .u64 0, .int .u64 0, .int .u64 0, .int .u64 0] 34)) (.cells #[.int .u64 0, .int .u64 0, .int .u64 0, .int .u64 0, .int .u64 0, .int .u64 0, .int .u64 0, .int .u64 0] 34)
    rw [World.size_alloc] at this; exact this
  have HB1 := Lib.hid hB1; clear hB1
  have H1 := Lib.hid h1; clear h1
  have HR1 := Lib.hid hr1; clear hr1
  have HO1 := Lib.hid ho1; clear ho1
  have d1 : decide ((N : Int) < 0) = false := by simp
  go_enter Try.func14, Try.ntmps14
  go_wp2
  clear hc1
  go_loopw [7] (fun i wr => ∃ k : Nat, k ≤ 8 ∧ i = .int .i64 k ∧ Below w.heap.size w wr ∧ wr.heap[w.heap.size]? = some (.cells #[.int .u64 0, .int .u64 0, .int .u64 0, .int .u64 0, .int .u64 0, .int .u64 0, .int .u64 0, .int .u64 0] 34 (0, 0)) ∧ wr.heap[w.heap.size + 1]? = some (.cells ((outK xs N k).map (Value.int .u64)).toArray 34 (0, 0))) (fun i _ => 8 - (intOf i).toNat)
  case atStart => exact ⟨0, by omega, rfl, HB1.out, HR1.out, HO1.out⟩
  case round =>
    obtain ⟨k, hk, rfl, hB, hr, ho⟩ := hrel
    by_cases hlt8 : k < 8
    · have hx := h.below hB
      have r1 := hx.head
      have r3 := hx.cell (i := 8 * N + k) (by omega)
      have r4 : wr.cell? ⟨w.heap.size + 1, k, none⟩ = some (.int .u64 ((outK xs N k).getD k 0)) := by
        simp [World.cell?, ho, List.getElem?_eq_getElem (show k < (outK xs N k).length from by rw [outK_len]; exact hlt8)]
      have r5 : wr.frozen? ⟨w.heap.size + 1, k, none⟩ = false := by simp [World.frozen?, ho]
      have hn1 : (wr.setCell ⟨w.heap.size + 1, k, none⟩ (.int .u64 (xs.getD (8 * N + k) 0))).heap[w.heap.size]? = some (.cells #[.int .u64 0, .int .u64 0, .int .u64 0, .int .u64 0, .int .u64 0, .int .u64 0, .int .u64 0, .int .u64 0] 34 (0, 0)) := by rw [Below.heap_setCell _ _ _ _ (by simp)]; exact hr
      have hn2 : (wr.setCell ⟨w.heap.size + 1, k, none⟩ (.int .u64 (xs.getD (8 * N + k) 0))).heap[w.heap.size + 1]? = some (.cells ((outK xs N (k + 1)).map (Value.int .u64)).toArray 34 (0, 0)) := by
        rw [← outK_set xs N k]
        simp only [World.setCell, Array.getElem?_modify, if_true, ho, Option.map_some]
        simp [List.map_set]
      have hn3 := hB.setCell (p := ⟨w.heap.size + 1, k, none⟩) (by simp) (.int .u64 (xs.getD (8 * N + k) 0))
      have Hn1 := Lib.hid hn1; clear hn1
      have Hn2 := Lib.hid hn2; clear hn2
      have Hn3 := Lib.hid hn3; clear hn3
      have H := Lib.hid h; clear h
      clear hx hB hr ho
      generalize xs.getD (8 * N + k) 0 = z at *
      generalize (outK xs N k).getD k 0 = zz at *
      go_wp2
      go_roundw
      case rel => exact ⟨k + 1, by omega, by go_num, Hn3.out, Hn1.out, Hn2.out⟩
      case measure => simp [intOf]; omega
    · have : k = 8 := by omega
      subst this
      have ht : wr.there w.heap.size 0 8 := fun j hj => by
        match j, hj with
        | 0, _ => exact ⟨by simp [World.cell?, hr], by simp [World.frozen?, hr]⟩
        | 1, _ => exact ⟨by simp [World.cell?, hr], by simp [World.frozen?, hr]⟩
        | 2, _ => exact ⟨by simp [World.cell?, hr], by simp [World.frozen?, hr]⟩
        | 3, _ => exact ⟨by simp [World.cell?, hr], by simp [World.frozen?, hr]⟩
        | 4, _ => exact ⟨by simp [World.cell?, hr], by simp [World.frozen?, hr]⟩
        | 5, _ => exact ⟨by simp [World.cell?, hr], by simp [World.frozen?, hr]⟩
        | 6, _ => exact ⟨by simp [World.cell?, hr], by simp [World.frozen?, hr]⟩
        | 7, _ => exact ⟨by simp [World.cell?, hr], by simp [World.frozen?, hr]⟩
      have r0 : wr.cell? ⟨w.heap.size + 1, 0, none⟩ = some (.int .u64 (xs.getD (8 * N + 0) 0)) := by simp [World.cell?, ho, outK]
      have r1 : wr.cell? ⟨w.heap.size + 1, 1, none⟩ = some (.int .u64 (xs.getD (8 * N + 1) 0)) := by simp [World.cell?, ho, outK]
      have r2 : wr.cell? ⟨w.heap.size + 1, 2, none⟩ = some (.int .u64 (xs.getD (8 * N + 2) 0)) := by simp [World.cell?, ho, outK]
      have r3 : wr.cell? ⟨w.heap.size + 1, 3, none⟩ = some (.int .u64 (xs.getD (8 * N + 3) 0)) := by simp [World.cell?, ho, outK]
      have r4 : wr.cell? ⟨w.heap.size + 1, 4, none⟩ = some (.int .u64 (xs.getD (8 * N + 4) 0)) := by simp [World.cell?, ho, outK]
      have r5 : wr.cell? ⟨w.heap.size + 1, 5, none⟩ = some (.int .u64 (xs.getD (8 * N + 5) 0)) := by simp [World.cell?, ho, outK]
      have r6 : wr.cell? ⟨w.heap.size + 1, 6, none⟩ = some (.int .u64 (xs.getD (8 * N + 6) 0)) := by simp [World.cell?, ho, outK]
      have r7 : wr.cell? ⟨w.heap.size + 1, 7, none⟩ = some (.int .u64 (xs.getD (8 * N + 7) 0)) := by simp [World.cell?, ho, outK]
      have s0 : (wr.setCells w.heap.size 0 [.int .u64 (xs.getD (8 * N + 0) 0), .int .u64 (xs.getD (8 * N + 1) 0), .int .u64 (xs.getD (8 * N + 2) 0), .int .u64 (xs.getD (8 * N + 3) 0), .int .u64 (xs.getD (8 * N + 4) 0), .int .u64 (xs.getD (8 * N + 5) 0), .int .u64 (xs.getD (8 * N + 6) 0), .int .u64 (xs.getD (8 * N + 7) 0)]).cell? ⟨w.heap.size, 0, none⟩ = some (.int .u64 (xs.getD (8 * N + 0) 0)) := by
        have := World.rangeAt_setCells_same wr w.heap.size 0 [.int .u64 (xs.getD (8 * N + 0) 0), .int .u64 (xs.getD (8 * N + 1) 0), .int .u64 (xs.getD (8 * N + 2) 0), .int .u64 (xs.getD (8 * N + 3) 0), .int .u64 (xs.getD (8 * N + 4) 0), .int .u64 (xs.getD (8 * N + 5) 0), .int .u64 (xs.getD (8 * N + 6) 0), .int .u64 (xs.getD (8 * N + 7) 0)] ht 0 _ rfl
        simpa using this
      have s1 : (wr.setCells w.heap.size 0 [.int .u64 (xs.getD (8 * N + 0) 0), .int .u64 (xs.getD (8 * N + 1) 0), .int .u64 (xs.getD (8 * N + 2) 0), .int .u64 (xs.getD (8 * N + 3) 0), .int .u64 (xs.getD (8 * N + 4) 0), .int .u64 (xs.getD (8 * N + 5) 0), .int .u64 (xs.getD (8 * N + 6) 0), .int .u64 (xs.getD (8 * N + 7) 0)]).cell? ⟨w.heap.size, 1, none⟩ = some (.int .u64 (xs.getD (8 * N + 1) 0)) := by
        have := World.rangeAt_setCells_same wr w.heap.size 0 [.int .u64 (xs.getD (8 * N + 0) 0), .int .u64 (xs.getD (8 * N + 1) 0), .int .u64 (xs.getD (8 * N + 2) 0), .int .u64 (xs.getD (8 * N + 3) 0), .int .u64 (xs.getD (8 * N + 4) 0), .int .u64 (xs.getD (8 * N + 5) 0), .int .u64 (xs.getD (8 * N + 6) 0), .int .u64 (xs.getD (8 * N + 7) 0)] ht 1 _ rfl
        simpa using this
      have s2 : (wr.setCells w.heap.size 0 [.int .u64 (xs.getD (8 * N + 0) 0), .int .u64 (xs.getD (8 * N + 1) 0), .int .u64 (xs.getD (8 * N + 2) 0), .int .u64 (xs.getD (8 * N + 3) 0), .int .u64 (xs.getD (8 * N + 4) 0), .int .u64 (xs.getD (8 * N + 5) 0), .int .u64 (xs.getD (8 * N + 6) 0), .int .u64 (xs.getD (8 * N + 7) 0)]).cell? ⟨w.heap.size, 2, none⟩ = some (.int .u64 (xs.getD (8 * N + 2) 0)) := by
        have := World.rangeAt_setCells_same wr w.heap.size 0 [.int .u64 (xs.getD (8 * N + 0) 0), .int .u64 (xs.getD (8 * N + 1) 0), .int .u64 (xs.getD (8 * N + 2) 0), .int .u64 (xs.getD (8 * N + 3) 0), .int .u64 (xs.getD (8 * N + 4) 0), .int .u64 (xs.getD (8 * N + 5) 0), .int .u64 (xs.getD (8 * N + 6) 0), .int .u64 (xs.getD (8 * N + 7) 0)] ht 2 _ rfl
        simpa using this
      have s3 : (wr.setCells w.heap.size 0 [.int .u64 (xs.getD (8 * N + 0) 0), .int .u64 (xs.getD (8 * N + 1) 0), .int .u64 (xs.getD (8 * N + 2) 0), .int .u64 (xs.getD (8 * N + 3) 0), .int .u64 (xs.getD (8 * N + 4) 0), .int .u64 (xs.getD (8 * N + 5) 0), .int .u64 (xs.getD (8 * N + 6) 0), .int .u64 (xs.getD (8 * N + 7) 0)]).cell? ⟨w.heap.size, 3, none⟩ = some (.int .u64 (xs.getD (8 * N + 3) 0)) := by
        have := World.rangeAt_setCells_same wr w.heap.size 0 [.int .u64 (xs.getD (8 * N + 0) 0), .int .u64 (xs.getD (8 * N + 1) 0), .int .u64 (xs.getD (8 * N + 2) 0), .int .u64 (xs.getD (8 * N + 3) 0), .int .u64 (xs.getD (8 * N + 4) 0), .int .u64 (xs.getD (8 * N + 5) 0), .int .u64 (xs.getD (8 * N + 6) 0), .int .u64 (xs.getD (8 * N + 7) 0)] ht 3 _ rfl
        simpa using this
      have s4 : (wr.setCells w.heap.size 0 [.int .u64 (xs.getD (8 * N + 0) 0), .int .u64 (xs.getD (8 * N + 1) 0), .int .u64 (xs.getD (8 * N + 2) 0), .int .u64 (xs.getD (8 * N + 3) 0), .int .u64 (xs.getD (8 * N + 4) 0), .int .u64 (xs.getD (8 * N + 5) 0), .int .u64 (xs.getD (8 * N + 6) 0), .int .u64 (xs.getD (8 * N + 7) 0)]).cell? ⟨w.heap.size, 4, none⟩ = some (.int .u64 (xs.getD (8 * N + 4) 0)) := by
        have := World.rangeAt_setCells_same wr w.heap.size 0 [.int .u64 (xs.getD (8 * N + 0) 0), .int .u64 (xs.getD (8 * N + 1) 0), .int .u64 (xs.getD (8 * N + 2) 0), .int .u64 (xs.getD (8 * N + 3) 0), .int .u64 (xs.getD (8 * N + 4) 0), .int .u64 (xs.getD (8 * N + 5) 0), .int .u64 (xs.getD (8 * N + 6) 0), .int .u64 (xs.getD (8 * N + 7) 0)] ht 4 _ rfl
        simpa using this
      have s5 : (wr.setCells w.heap.size 0 [.int .u64 (xs.getD (8 * N + 0) 0), .int .u64 (xs.getD (8 * N + 1) 0), .int .u64 (xs.getD (8 * N + 2) 0), .int .u64 (xs.getD (8 * N + 3) 0), .int .u64 (xs.getD (8 * N + 4) 0), .int .u64 (xs.getD (8 * N + 5) 0), .int .u64 (xs.getD (8 * N + 6) 0), .int .u64 (xs.getD (8 * N + 7) 0)]).cell? ⟨w.heap.size, 5, none⟩ = some (.int .u64 (xs.getD (8 * N + 5) 0)) := by
        have := World.rangeAt_setCells_same wr w.heap.size 0 [.int .u64 (xs.getD (8 * N + 0) 0), .int .u64 (xs.getD (8 * N + 1) 0), .int .u64 (xs.getD (8 * N + 2) 0), .int .u64 (xs.getD (8 * N + 3) 0), .int .u64 (xs.getD (8 * N + 4) 0), .int .u64 (xs.getD (8 * N + 5) 0), .int .u64 (xs.getD (8 * N + 6) 0), .int .u64 (xs.getD (8 * N + 7) 0)] ht 5 _ rfl
        simpa using this
      have s6 : (wr.setCells w.heap.size 0 [.int .u64 (xs.getD (8 * N + 0) 0), .int .u64 (xs.getD (8 * N + 1) 0), .int .u64 (xs.getD (8 * N + 2) 0), .int .u64 (xs.getD (8 * N + 3) 0), .int .u64 (xs.getD (8 * N + 4) 0), .int .u64 (xs.getD (8 * N + 5) 0), .int .u64 (xs.getD (8 * N + 6) 0), .int .u64 (xs.getD (8 * N + 7) 0)]).cell? ⟨w.heap.size, 6, none⟩ = some (.int .u64 (xs.getD (8 * N + 6) 0)) := by
        have := World.rangeAt_setCells_same wr w.heap.size 0 [.int .u64 (xs.getD (8 * N + 0) 0), .int .u64 (xs.getD (8 * N + 1) 0), .int .u64 (xs.getD (8 * N + 2) 0), .int .u64 (xs.getD (8 * N + 3) 0), .int .u64 (xs.getD (8 * N + 4) 0), .int .u64 (xs.getD (8 * N + 5) 0), .int .u64 (xs.getD (8 * N + 6) 0), .int .u64 (xs.getD (8 * N + 7) 0)] ht 6 _ rfl
        simpa using this
      have s7 : (wr.setCells w.heap.size 0 [.int .u64 (xs.getD (8 * N + 0) 0), .int .u64 (xs.getD (8 * N + 1) 0), .int .u64 (xs.getD (8 * N + 2) 0), .int .u64 (xs.getD (8 * N + 3) 0), .int .u64 (xs.getD (8 * N + 4) 0), .int .u64 (xs.getD (8 * N + 5) 0), .int .u64 (xs.getD (8 * N + 6) 0), .int .u64 (xs.getD (8 * N + 7) 0)]).cell? ⟨w.heap.size, 7, none⟩ = some (.int .u64 (xs.getD (8 * N + 7) 0)) := by
        have := World.rangeAt_setCells_same wr w.heap.size 0 [.int .u64 (xs.getD (8 * N + 0) 0), .int .u64 (xs.getD (8 * N + 1) 0), .int .u64 (xs.getD (8 * N + 2) 0), .int .u64 (xs.getD (8 * N + 3) 0), .int .u64 (xs.getD (8 * N + 4) 0), .int .u64 (xs.getD (8 * N + 5) 0), .int .u64 (xs.getD (8 * N + 6) 0), .int .u64 (xs.getD (8 * N + 7) 0)] ht 7 _ rfl
        simpa using this
      have hfin := below_cells (Nat.le_refl _) [Value.int .u64 (xs.getD (8 * N + 0) 0), Value.int .u64 (xs.getD (8 * N + 1) 0), Value.int .u64 (xs.getD (8 * N + 2) 0), Value.int .u64 (xs.getD (8 * N + 3) 0), Value.int .u64 (xs.getD (8 * N + 4) 0), Value.int .u64 (xs.getD (8 * N + 5) 0), Value.int .u64 (xs.getD (8 * N + 6) 0), Value.int .u64 (xs.getD (8 * N + 7) 0)] 0 wr hB
      have Hfin := Lib.hid hfin; clear hfin
      have Ht := Lib.hid ht; clear ht
      clear hr ho hB h
      generalize xs.getD (8 * N + 0) 0 = y0 at *
      generalize xs.getD (8 * N + 1) 0 = y1 at *
      generalize xs.getD (8 * N + 2) 0 = y2 at *
      generalize xs.getD (8 * N + 3) 0 = y3 at *
      generalize xs.getD (8 * N + 4) 0 = y4 at *
      generalize xs.getD (8 * N + 5) 0 = y5 at *
      generalize xs.getD (8 * N + 6) 0 = y6 at *
      generalize xs.getD (8 * N + 7) 0 = y7 at *
      go_wp2_with (refine wpList_store_mid rfl 34 _ _ rfl w.heap.size 0 #[.int .u64 y0, .int .u64 y1, .int .u64 y2, .int .u64 y3, .int .u64 y4, .int .u64 y5, .int .u64 y6, .int .u64 y7] rfl rfl Ht.out Try.size34 (by simp [Value.oneCell']) ?_)
      exact bodyPost_ret (v := .tuple #[.agg #[.int .u64 y0, .int .u64 y1, .int .u64 y2, .int .u64 y3, .int .u64 y4, .int .u64 y5, .int .u64 y6, .int .u64 y7], .int .i64 0]) (by simp [results, Try.results14, go_sem, s0, s1, s2, s3, s4, s5, s6, s7]) rfl ⟨rfl, Hfin.out⟩

theorem rline_words (N : Int) (q c n : Nat) (xs : List Int) (w : World) (h : RefAt w q c n xs) (hn : n ≤ 64) :
    Calls Try.prog 14 #[.pointer (some ⟨q, 0, none⟩), .int .i64 N] w (Agrees w (.tuple #[.agg #[.int .u64 (lineW n xs N 0), .int .u64 (lineW n xs N 1), .int .u64 (lineW n xs N 2), .int .u64 (lineW n xs N 3), .int .u64 (lineW n xs N 4), .int .u64 (lineW n xs N 5), .int .u64 (lineW n xs N 6), .int .u64 (lineW n xs N 7)], .int .i64 (errL n N)])) := by
  by_cases h0 : 0 ≤ N
  · obtain ⟨j, rfl⟩ := Int.eq_ofNat_of_zero_le h0
    by_cases hj : j < n
    · have hc : 0 ≤ (j : Int) ∧ (j : Int) < n := ⟨h0, by omega⟩
      simp only [lineW, if_pos hc, errL, Int.toNat_natCast, Nat.mul_comm j 8]
      exact rline_ok j q c n xs w h hj hn
    · have hc : ¬ (0 ≤ (j : Int) ∧ (j : Int) < n) := by omega
      simp only [lineW, if_neg hc, errL]
      exact rline_big j q c n w h.head (by omega) (by omega) hn
  · have hc : ¬ (0 ≤ N ∧ N < n) := by omega
    simp only [lineW, if_neg hc, errL]
    exact rline_neg N q w (by omega)

end Go.Proofs.Ytjebkbpljbohcaa
