/- The memory as a list of words: what New, Put, Word, Set and Line do to it. Conditions: those stated in each theorem. -/
import Derived.Test.YtjebkbpljbohcaaWb
namespace Go.Proofs.Ytjebkbpljbohcaa
open Go.RowKit

/-- A memory of n lines: its struct at p, its words xs in block b. -/
structure MemAt (w : World) (p b n : Nat) (xs : List Int) : Prop where
  head : w.cell? ⟨p, 0, none⟩ = some (.slice (some ⟨b, 0, none⟩) n n)
  apart : p ≠ b
  len : xs.length = 8 * n
  row : w.heap[b]? = some (.cells (xs.map (Value.int .u64)).toArray 34 (0, 0))

theorem MemAt.cell {w : World} {p b n : Nat} {xs : List Int} (h : MemAt w p b n xs) {i : Nat} (hi : i < 8 * n) :
    w.cell? ⟨b, i, none⟩ = some (.int .u64 (xs.getD i 0)) := by
  have hl := h.len
  simp [World.cell?, h.row, List.getElem?_eq_getElem (show i < xs.length by omega)]

theorem MemAt.free {w : World} {p b n : Nat} {xs : List Int} (h : MemAt w p b n xs) (i : Nat) : w.frozen? ⟨b, i, none⟩ = false := by
  simp [World.frozen?, h.row]

theorem MemAt.set {w : World} {p b n : Nat} {xs : List Int} (h : MemAt w p b n xs) (i : Nat) (v : Int) :
    MemAt (w.setCell ⟨b, i, none⟩ (.int .u64 v)) p b n (xs.set i v) := by
  have hb : b < w.heap.size := lt_of_block h.row
  refine ⟨?_, h.apart, by simpa using h.len, ?_⟩
  · rw [World.cell?_of_block (a := ⟨p, 0, none⟩) (Below.heap_setCell w ⟨b, i, none⟩ (.int .u64 v) p h.apart)]; exact h.head
  · have hr := h.row
    simp only [World.setCell, Array.getElem?_modify, if_true, hr, Option.map_some]
    simp [List.map_set]

theorem MemAt.below {w w' : World} {p b n B : Nat} {xs : List Int} (h : MemAt w p b n xs) (hb : Below B w w') (hp : p < B) (hq : b < B) : MemAt w' p b n xs :=
  ⟨by rw [hb.cell (p := ⟨p, 0, none⟩) hp]; exact h.head, h.apart, h.len, by rw [hb.block _ hq]; exact h.row⟩

theorem MemAt.alloc {w : World} {p b n : Nat} {xs : List Int} (h : MemAt w p b n xs) (o : Obj) : MemAt (w.alloc o) p b n xs :=
  h.below ((Below.refl w.heap.size w).alloc (Nat.le_refl _) o) (World.block_lt_of_cell? _ _ h.head) (lt_of_block h.row)

/-- What New leaves. -/
def NewMem (n : Nat) (w : World) (e : Ending) (w' : World) : Prop :=
  ∃ p b, e = .returned (.tuple #[.pointer (some ⟨p, 0, none⟩), .int .i64 0]) ∧ MemAt w' p b n (List.replicate (8 * n) 0) ∧ w.heap.size ≤ p ∧ w.heap.size ≤ b ∧ Below w.heap.size w w'

theorem Try.info34 : (Try.prog.info? 34).map (fun i => (i.zero, i.size, i.bytes)) = some (some (.agg #[.int .u64 0, .int .u64 0, .int .u64 0, .int .u64 0, .int .u64 0, .int .u64 0, .int .u64 0, .int .u64 0]), 8, 64) := by kernel_rfl

theorem made_zeros (m : Nat) : (madeCells #[Value.int .u64 0, .int .u64 0, .int .u64 0, .int .u64 0, .int .u64 0, .int .u64 0, .int .u64 0, .int .u64 0] m).toList = (List.replicate m (0 : Int)).map (Value.int .u64) := by
  apply List.ext_getElem
  · simp [madeCells]
  · intro i h1 h2
    simp [madeCells]
    have h8 : i % 8 < 8 := Nat.mod_lt _ (by omega)
    generalize i % 8 = r at h8
    match r, h8 with
    | 0, _ | 1, _ | 2, _ | 3, _ | 4, _ | 5, _ | 6, _ | 7, _ => rfl

theorem new_end {w w' : World} {n : Nat} (hown : w'.ownsRow w.heap.size 34 8 (.slice (some ⟨w.heap.size, 0, none⟩) n n) n (madeCells #[Value.int .u64 0, .int .u64 0, .int .u64 0, .int .u64 0, .int .u64 0, .int .u64 0, .int .u64 0, .int .u64 0] (n * 8)).toList)
    (hg : w.grownBy w' none) : NewMem n w (.returned (.tuple #[.pointer (some ⟨w'.heap.size, 0, none⟩), .int .i64 0])) (w'.alloc (.cells #[.slice (some ⟨w.heap.size, 0, none⟩) n n] 62)) := by
  obtain ⟨hl, h | ⟨g, cap, cur, hv, hb, hrow, h1, h2, hs, ht⟩⟩ := hown
  · cases h.1
  · simp only [Value.slice.injEq, Option.some.injEq, Addr.mk.injEq, and_true] at hv
    obtain ⟨rfl, -, rfl⟩ := hv
    have hc : cur.toList = (List.replicate (8 * n) (0 : Int)).map (Value.int .u64) := by
      rw [← List.take_of_length_le (l := cur.toList) (i := n * 8) (by simp [hs]), ht, made_zeros, Nat.mul_comm]
    have hlt := lt_of_block hrow
    have hbel : Below w.heap.size w w' := (Below.refl _ _).grown hg (Nat.le_refl _) (by simp)
    refine ⟨_, w.heap.size, rfl, ⟨by simp, by omega, by simp, ?_⟩, hbel.size, Nat.le_refl _, hbel.alloc hbel.size _⟩
    rw [Below.heap_alloc _ _ _ hlt, hrow, ← hc]

set_option maxHeartbeats 400000 in
theorem new_ok (n : Nat) (w : World) (h2 : 2 ≤ n) (hn : n ≤ 64) : Calls Try.prog 7 #[.int .i64 n] w (NewMem n w) := by
  obtain ⟨i0, hi, hz0, hz1, hz2⟩ := info_parts Try.info34
  have hb : i0.bytes * n ≤ 281474976710656 := by rw [hz2]; omega
  have hm : n ≤ maxLen := by unfold maxLen; omega
  have HI := Lib.hid hi; clear hi
  have HZ0 := Lib.hid hz0; clear hz0
  have HZ1 := Lib.hid hz1; clear hz1
  have HZ2 := Lib.hid hz2; clear hz2
  go_enter Try.func7, Try.ntmps7
  go_wp2_with (at_make; refine wpList_make_full _ rfl _ _ 50 rfl w.heap.size 34 i0 _ 8 Try.underlying50 HI.out HZ0.out HZ1.out .i64 .i64 n n n rfl rfl rfl rfl hb hm (Nat.le_refl _) ?_; intro w1 hown hg)
  refine bodyPost_ret (results_tmp2 rfl _ _ _) rfl ?_
  exact new_end hown hg

/-- The words behind Put, and its error. -/
def putS (n : Nat) (xs : List Int) (k v : Int) : List Int := if 0 ≤ k ∧ k < 8 * n then xs.set k.toNat v else xs
def errS (n : Nat) (k : Int) : Int := if 0 ≤ k ∧ k < 8 * n then 0 else 2
def getS (n : Nat) (xs : List Int) (k : Int) : Int := if 0 ≤ k ∧ k < 8 * n then xs.getD k.toNat 0 else 0

def PutMem (p b n : Nat) (xs : List Int) (k v : Int) (w : World) (e : Ending) (w' : World) : Prop :=
  e = .returned (.int .i64 (errS n k)) ∧ MemAt w' p b n (putS n xs k v) ∧ w'.heap.size = w.heap.size ∧ ∀ B, B ≤ b → Below B w w'

theorem put_any (k v : Int) (p b n : Nat) (xs : List Int) (w : World) (h : MemAt w p b n xs) (hn : n ≤ 64) (hk : k ≤ 9223372036854775807) :
    Calls Try.prog 11 #[.pointer (some ⟨p, 0, none⟩), .int .i64 k, .int .u64 v] w (PutMem p b n xs k v w) := by
  by_cases h0 : 0 ≤ k
  · obtain ⟨j, rfl⟩ := Int.eq_ofNat_of_zero_le h0
    by_cases hj : j < 8 * n
    · refine (put_ok j p b n v _ w h.head hj hn (h.cell hj) (h.free j)).mono ?_
      rintro e w' ⟨rfl, rfl⟩
      have hc : 0 ≤ (j : Int) ∧ (j : Int) < 8 * n := ⟨h0, by omega⟩
      refine ⟨by rw [errS, if_pos hc], ?_, by simp, fun B hB => (Below.refl _ _).setCell hB _⟩
      rw [putS, if_pos hc]; exact h.set j v
    · refine (put_big j p b n v w h.head hj (by omega)).mono ?_
      rintro e w' ⟨rfl, rfl⟩
      have hc : ¬ (0 ≤ (j : Int) ∧ (j : Int) < 8 * n) := by omega
      exact ⟨by rw [errS, if_neg hc], by rw [putS, if_neg hc]; exact h, rfl, fun B _ => Below.refl _ _⟩
  · refine (put_neg k v p w (by omega)).mono ?_
    rintro e w' ⟨rfl, rfl⟩
    have hc : ¬ (0 ≤ k ∧ k < 8 * n) := by omega
    exact ⟨by rw [errS, if_neg hc], by rw [putS, if_neg hc]; exact h, rfl, fun B _ => Below.refl _ _⟩

theorem get_any (k : Int) (p b n : Nat) (xs : List Int) (w : World) (h : MemAt w p b n xs) (hn : n ≤ 64) (hk : k ≤ 9223372036854775807) :
    Calls Try.prog 15 #[.pointer (some ⟨p, 0, none⟩), .int .i64 k] w fun e w' => e = .returned (.tuple #[.int .u64 (getS n xs k), .int .i64 (errS n k)]) ∧ w = w' := by
  by_cases h0 : 0 ≤ k
  · obtain ⟨j, rfl⟩ := Int.eq_ofNat_of_zero_le h0
    by_cases hj : j < 8 * n
    · refine (get_ok j p b n _ w h.head hj hn (h.cell hj)).mono ?_
      rintro e w' ⟨rfl, rfl⟩
      have hc : 0 ≤ (j : Int) ∧ (j : Int) < 8 * n := ⟨h0, by omega⟩
      exact ⟨by rw [errS, if_pos hc, getS, if_pos hc, Int.toNat_natCast], rfl⟩
    · refine (get_big j p b n w h.head hj (by omega)).mono ?_
      rintro e w' ⟨rfl, rfl⟩
      have hc : ¬ (0 ≤ (j : Int) ∧ (j : Int) < 8 * n) := by omega
      exact ⟨by rw [errS, if_neg hc, getS, if_neg hc], rfl⟩
  · refine (get_neg k p w (by omega)).mono ?_
    rintro e w' ⟨rfl, rfl⟩
    have hc : ¬ (0 ≤ k ∧ k < 8 * n) := by omega
    exact ⟨by rw [errS, if_neg hc, getS, if_neg hc], rfl⟩

end Go.Proofs.Ytjebkbpljbohcaa
