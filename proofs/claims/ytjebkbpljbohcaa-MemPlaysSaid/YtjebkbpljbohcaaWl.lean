/- The reference's memory: a list of words at q. New, Put, Word: what they answer and do. Conditions: those stated in each theorem. -/
import Derived.Test.YtjebkbpljbohcaaWk
namespace Go.Proofs.Ytjebkbpljbohcaa
open Go.RowKit

/-- The reference's memory: its struct at q, its words in block c. -/
structure RefAt (w : World) (q c n : Nat) (xs : List Int) : Prop where
  head : w.cell? ⟨q, 0, none⟩ = some (.slice (some ⟨c, 0, none⟩) (8 * n) (8 * n))
  apart : q ≠ c
  len : xs.length = 8 * n
  row : w.heap[c]? = some (.cells (xs.map (Value.int .u64)).toArray 32 (0, 0))

theorem RefAt.cell {w : World} {q c n : Nat} {xs : List Int} (h : RefAt w q c n xs) {i : Nat} (hi : i < 8 * n) :
    w.cell? ⟨c, i, none⟩ = some (.int .u64 (xs.getD i 0)) := by
  have hl := h.len
  simp [World.cell?, h.row, List.getElem?_eq_getElem (show i < xs.length by omega)]

theorem RefAt.free {w : World} {q c n : Nat} {xs : List Int} (h : RefAt w q c n xs) (i : Nat) : w.frozen? ⟨c, i, none⟩ = false := by
  simp [World.frozen?, h.row]

theorem RefAt.set {w : World} {q c n : Nat} {xs : List Int} (h : RefAt w q c n xs) (i : Nat) (v : Int) :
    RefAt (w.setCell ⟨c, i, none⟩ (.int .u64 v)) q c n (xs.set i v) := by
  have hb : c < w.heap.size := lt_of_block h.row
  refine ⟨?_, h.apart, by simpa using h.len, ?_⟩
  · rw [World.cell?_of_block (a := ⟨q, 0, none⟩) (Below.heap_setCell w ⟨c, i, none⟩ (.int .u64 v) q h.apart)]; exact h.head
  · have hr := h.row
    simp only [World.setCell, Array.getElem?_modify, if_true, hr, Option.map_some]
    simp [List.map_set]

theorem grown_setCell (w : World) (a : Addr) (u : Value) : w.grownBy (w.setCell a u) (some a.block) :=
  ⟨rfl, rfl, rfl, by simp, fun k _ hk => Below.heap_setCell _ _ _ _ (fun e => hk (by rw [e]))⟩

theorem grown_refl (w : World) (r : Option Nat) : w.grownBy w r := ⟨rfl, rfl, rfl, Nat.le_refl _, fun _ _ _ => rfl⟩

theorem grown_below {w w' : World} (h : Below w.heap.size w w') (r : Option Nat) : w.grownBy w' r := ⟨h.os, h.tape, h.output, h.size, fun k hk _ => h.block k hk⟩

theorem grown_trans {a b c : World} {r : Option Nat} (h : a.grownBy b r) (k : b.grownBy c r) : a.grownBy c r :=
  ⟨k.os.trans h.os, k.tape.trans h.tape, k.output.trans h.output, Nat.le_trans h.size k.size, fun i hi hr => (k.block i (Nat.lt_of_lt_of_le hi h.size) hr).trans (h.block i hi hr)⟩

theorem MemAt.kept {w w' : World} {p b n : Nat} {xs : List Int} {r : Nat} (h : MemAt w p b n xs) (hg : w.grownBy w' (some r)) (hp : p ≠ r) (hb : b ≠ r) : MemAt w' p b n xs :=
  ⟨by rw [World.cell?_of_block (a := ⟨p, 0, none⟩) (hg.block p (World.block_lt_of_cell? _ _ h.head) (by simpa using hp))]; exact h.head, h.apart, h.len, by rw [hg.block b (lt_of_block h.row) (by simpa using hb)]; exact h.row⟩

theorem RefAt.kept {w w' : World} {q c n : Nat} {xs : List Int} {r : Nat} (h : RefAt w q c n xs) (hg : w.grownBy w' (some r)) (hp : q ≠ r) (hb : c ≠ r) : RefAt w' q c n xs :=
  ⟨by rw [World.cell?_of_block (a := ⟨q, 0, none⟩) (hg.block q (World.block_lt_of_cell? _ _ h.head) (by simpa using hp))]; exact h.head, h.apart, h.len, by rw [hg.block c (lt_of_block h.row) (by simpa using hb)]; exact h.row⟩

theorem RefAt.below {w w' : World} {q c n : Nat} {xs : List Int} (h : RefAt w q c n xs) (hb : Below w.heap.size w w') : RefAt w' q c n xs :=
  ⟨by rw [hb.cell (p := ⟨q, 0, none⟩) (World.block_lt_of_cell? _ _ h.head)]; exact h.head, h.apart, h.len, by rw [hb.block _ (lt_of_block h.row)]; exact h.row⟩

theorem MemAt.stays {w w' : World} {p b n : Nat} {xs : List Int} (h : MemAt w p b n xs) (hb : Below w.heap.size w w') : MemAt w' p b n xs :=
  h.below hb (World.block_lt_of_cell? _ _ h.head) (lt_of_block h.row)

set_option maxHeartbeats 400000 in
theorem rput_neg (k v : Int) (q : Nat) (w : World) (hk : k < 0) :
    Calls Try.prog 12 #[.pointer (some ⟨q, 0, none⟩), .int .i64 k, .int .u64 v] w fun e w' => e = .returned (.int .i64 2) ∧ w = w' := by
  go_enter Try.func12, Try.ntmps12
  go_wp2
  go_ret
  exact ⟨rfl, rfl⟩

set_option maxHeartbeats 400000 in
theorem rput_big (k v : Int) (q c m : Nat) (w : World) (hc : w.cell? ⟨q, 0, none⟩ = some (.slice (some ⟨c, 0, none⟩) m m)) (h0 : ¬ k < 0) (hk : ¬ k < m) :
    Calls Try.prog 12 #[.pointer (some ⟨q, 0, none⟩), .int .i64 k, .int .u64 v] w fun e w' => e = .returned (.int .i64 2) ∧ w = w' := by
  go_enter Try.func12, Try.ntmps12
  go_wp2
  go_ret
  exact ⟨rfl, rfl⟩

set_option maxHeartbeats 400000 in
theorem rput_ok (k q c m : Nat) (v : Int) (x : Value) (w : World) (hc : w.cell? ⟨q, 0, none⟩ = some (.slice (some ⟨c, 0, none⟩) m m)) (hk : k < m) (hx : w.cell? ⟨c, k, none⟩ = some x) (hf : w.frozen? ⟨c, k, none⟩ = false) :
    Calls Try.prog 12 #[.pointer (some ⟨q, 0, none⟩), .int .i64 k, .int .u64 v] w fun e w' => e = .returned (.int .i64 0) ∧ w.setCell ⟨c, k, none⟩ (.int .u64 v) = w' := by
  go_enter Try.func12, Try.ntmps12
  go_wp2
  go_ret
  exact ⟨rfl, rfl⟩

set_option maxHeartbeats 400000 in
theorem rget_neg (k : Int) (q : Nat) (w : World) (hk : k < 0) :
    Calls Try.prog 16 #[.pointer (some ⟨q, 0, none⟩), .int .i64 k] w fun e w' => e = .returned (.tuple #[.int .u64 0, .int .i64 2]) ∧ w = w' := by
  go_enter Try.func16, Try.ntmps16
  go_wp2
  go_ret2
  exact ⟨rfl, rfl⟩

set_option maxHeartbeats 400000 in
theorem rget_big (k : Int) (q c m : Nat) (w : World) (hc : w.cell? ⟨q, 0, none⟩ = some (.slice (some ⟨c, 0, none⟩) m m)) (h0 : ¬ k < 0) (hk : ¬ k < m) :
    Calls Try.prog 16 #[.pointer (some ⟨q, 0, none⟩), .int .i64 k] w fun e w' => e = .returned (.tuple #[.int .u64 0, .int .i64 2]) ∧ w = w' := by
  go_enter Try.func16, Try.ntmps16
  go_wp2
  go_ret2
  exact ⟨rfl, rfl⟩

set_option maxHeartbeats 400000 in
theorem rget_ok (k q c m : Nat) (x : Int) (w : World) (hc : w.cell? ⟨q, 0, none⟩ = some (.slice (some ⟨c, 0, none⟩) m m)) (hk : k < m) (hx : w.cell? ⟨c, k, none⟩ = some (.int .u64 x)) :
    Calls Try.prog 16 #[.pointer (some ⟨q, 0, none⟩), .int .i64 k] w fun e w' => e = .returned (.tuple #[.int .u64 x, .int .i64 0]) ∧ w = w' := by
  go_enter Try.func16, Try.ntmps16
  go_wp2
  go_ret2
  exact ⟨rfl, rfl⟩

set_option maxHeartbeats 400000 in
theorem rnew_bad (k : Int) (w : World) (hk : k < 2 ∨ 64 < k) :
    Calls Try.prog 8 #[.int .i64 k] w (Agrees w (.tuple #[.agg #[.slice none 0 0], .int .i64 2])) := by
  rcases hk with hk | hk
  · go_enter Try.func8, Try.ntmps8
    go_wp2
    exact bodyPost_ret (v := .tuple #[.agg #[.slice none 0 0], .int .i64 2]) (by simp [results, Try.results8, go_sem]) rfl ⟨rfl, (Below.refl _ _).alloc (Nat.le_refl _) _⟩
  · have hk' : ¬ k < 2 := by omega
    go_enter Try.func8, Try.ntmps8
    go_wp2
    exact bodyPost_ret (v := .tuple #[.agg #[.slice none 0 0], .int .i64 2]) (by simp [results, Try.results8, go_sem]) rfl ⟨rfl, (Below.refl _ _).alloc (Nat.le_refl _) _⟩

theorem Try.info32 : (Try.prog.info? 32).map (fun i => (i.zero, i.size, i.bytes)) = some (some (.int .u64 0), 1, 8) := by kernel_rfl

def RNew (n : Nat) (w : World) (e : Ending) (w' : World) : Prop :=
  ∃ c, e = .returned (.tuple #[.agg #[.slice (some ⟨c, 0, none⟩) (8 * n) (8 * n)], .int .i64 0]) ∧ w'.heap[c]? = some (.cells ((List.replicate (8 * n) (0 : Int)).map (Value.int .u64)).toArray 32 (0, 0)) ∧ w.heap.size ≤ c ∧ Below w.heap.size w w'

theorem made_zeros1 (m : Nat) : (madeCells #[Value.int .u64 0] m).toList = (List.replicate m (0 : Int)).map (Value.int .u64) := by
  apply List.ext_getElem
  · simp [madeCells]
  · intro i h1 h2
    simp [madeCells]
    have h8 : i % 1 = 0 := Nat.mod_one i
    rw [h8]; rfl

set_option maxHeartbeats 400000 in
theorem rnew_ok (n : Nat) (w : World) (h2 : 2 ≤ n) (hn : n ≤ 64) : Calls Try.prog 8 #[.int .i64 n] w (RNew n w) := by
  obtain ⟨i0, hi, hz0, hz1, hz2⟩ := info_parts Try.info32
  have hb : i0.bytes * (8 * n) ≤ 281474976710656 := by rw [hz2]; omega
  have hm : 8 * n ≤ maxLen := by unfold maxLen; omega
  have HI := Lib.hid hi; clear hi
  have HZ0 := Lib.hid hz0; clear hz0
  have HZ1 := Lib.hid hz1; clear hz1
  have HZ2 := Lib.hid hz2; clear hz2
  go_enter Try.func8, Try.ntmps8
  go_wp2_with (at_make; refine wpList_make_full _ rfl _ _ 27 rfl w.heap.size 32 i0 _ 1 Try.underlying27 HI.out HZ0.out HZ1.out .i64 .i64 _ _ (8 * n) rfl rfl (by omega) (by omega) hb hm (by simp) ?_; intro w1 hown hg; have hb1 : w1.heap[w.heap.size]? = some (.cells #[.slice none 0 0] 29 (0, 0)) := (hg.block _ (by simp) (by simp)).trans (World.alloc_heap_new w _); have hc1 := cell_of_one hb1; have hf1 := free_of_one hb1; have hb1 := Lib.hid hb1)
  have hown := Lib.hid hown
  have hb2 := one_setCell (u := .slice (some ⟨w.heap.size + 1, 0, none⟩) (8 * n) (8 * n)) hb1.out
  have hc2 := cell_of_one hb2
  clear hb2
  refine bodyPost_ret (v := .tuple #[.agg #[.slice (some ⟨w.heap.size + 1, 0, none⟩) (8 * n) (8 * n)], .int .i64 0]) (by simp [results, Try.results8, go_sem, hc2]) rfl ?_
  have hbel : Below w.heap.size w w1 := (((Below.refl _ w).alloc (Nat.le_refl _) _).grown hg (by simp) (by simp))
  obtain ⟨hl, h | ⟨g, cap, cur, hv, hb, hrow, h1, h2, hs, ht⟩⟩ := hown.out
  · cases h.1
  · simp only [Value.slice.injEq, Option.some.injEq, Addr.mk.injEq, and_true, World.size_alloc] at hv
    obtain ⟨rfl, -, rfl⟩ := hv
    have hc : cur.toList = (List.replicate (8 * n) (0 : Int)).map (Value.int .u64) := by
      rw [← List.take_of_length_le (l := cur.toList) (i := 8 * n * 1) (by simp [hs]), ht, Value.cells, made_zeros1, Nat.mul_one]
      simp
    refine ⟨w.heap.size + 1, rfl, ?_, by omega, hbel.setCell (Nat.le_refl _) _⟩
    rw [Below.heap_setCell _ _ _ _ (by simp), hrow, ← hc]

end Go.Proofs.Ytjebkbpljbohcaa
