/- Backing memory (package mem): New, Line and Set over a memory at p. Conditions: those stated in each theorem. -/
import Derived.Test.YtnhainjdaafmiaaDoorRows
import Derived.WalkKit
import Derived.Lib.Hide
import Derived.WalkSpells
import Derived.WalkLawsBesides
import Derived.Deep.MidRow
namespace Go.Proofs.YtnhainjdaafmiaaDoor
open Go.RowKit


set_option maxHeartbeats 400000 in
theorem mline_nil (k : Int) (w : World) :
    Calls Tryd.prog 45 #[.pointer none, .int .i64 k] w fun e w' => e = .returned (.tuple #[.pointer none, .int .i64 1]) ∧ w = w' := by
  go_enter Tryd.func45, Tryd.ntmps45
  go_wp2
  go_ret2
  exact ⟨rfl, rfl⟩

set_option maxHeartbeats 400000 in
theorem mline_neg (k : Int) (p : Nat) (w : World) (hk : k < 0) :
    Calls Tryd.prog 45 #[.pointer (some ⟨p, 0, none⟩), .int .i64 k] w fun e w' => e = .returned (.tuple #[.pointer none, .int .i64 2]) ∧ w = w' := by
  go_enter Tryd.func45, Tryd.ntmps45
  go_wp2
  go_ret2
  exact ⟨rfl, rfl⟩

set_option maxHeartbeats 400000 in
theorem mline_big (k : Int) (p b n : Nat) (w : World) (hc : w.cell? ⟨p, 0, none⟩ = some (.slice (some ⟨b, 0, none⟩) n n)) (h0 : ¬ k < 0) (hk : ¬ k < n) :
    Calls Tryd.prog 45 #[.pointer (some ⟨p, 0, none⟩), .int .i64 k] w fun e w' => e = .returned (.tuple #[.pointer none, .int .i64 2]) ∧ w = w' := by
  go_enter Tryd.func45, Tryd.ntmps45
  go_wp2
  go_ret2
  exact ⟨rfl, rfl⟩

set_option maxHeartbeats 400000 in
theorem mline_ok (k : Nat) (p b n : Nat) (w : World) (hc : w.cell? ⟨p, 0, none⟩ = some (.slice (some ⟨b, 0, none⟩) n n)) (hk : k < n) :
    Calls Tryd.prog 45 #[.pointer (some ⟨p, 0, none⟩), .int .i64 k] w fun e w' => e = .returned (.tuple #[.pointer (some ⟨b, k * 8, none⟩), .int .i64 0]) ∧ w = w' := by
  go_enter Tryd.func45, Tryd.ntmps45
  go_wp2
  go_ret2
  exact ⟨rfl, rfl⟩

set_option maxHeartbeats 400000 in
theorem mnew_bad (k : Int) (w : World) (hk : k < 2 ∨ 64 < k) :
    Calls Tryd.prog 24 #[.int .i64 k] w fun e w' => e = .returned (.tuple #[.pointer none, .int .i64 2]) ∧ w = w' := by
  rcases hk with hk | hk
  · go_enter Tryd.func24, Tryd.ntmps24
    go_wp2
    go_ret2
    exact ⟨rfl, rfl⟩
  · have hk' : ¬ k < 2 := by omega
    go_enter Tryd.func24, Tryd.ntmps24
    go_wp2
    go_ret2
    exact ⟨rfl, rfl⟩

/-- A memory of n lines: its struct at p, its words xs in block b. -/
structure MemAt (w : World) (p b n : Nat) (xs : List Int) : Prop where
  head : w.cell? ⟨p, 0, none⟩ = some (.slice (some ⟨b, 0, none⟩) n n)
  apart : p ≠ b
  len : xs.length = 8 * n
  row : w.heap[b]? = some (.cells (xs.map (Value.int .u64)).toArray 40 (0, 0))

theorem MemAt.cell {w : World} {p b n : Nat} {xs : List Int} (h : MemAt w p b n xs) {i : Nat} (hi : i < 8 * n) :
    w.cell? ⟨b, i, none⟩ = some (.int .u64 (xs.getD i 0)) := by
  have hl := h.len
  simp [World.cell?, h.row, List.getElem?_eq_getElem (show i < xs.length by omega)]

theorem MemAt.free {w : World} {p b n : Nat} {xs : List Int} (h : MemAt w p b n xs) (i : Nat) : w.frozen? ⟨b, i, none⟩ = false := by
  simp [World.frozen?, h.row]

theorem MemAt.set {w : World} {p b n : Nat} {xs : List Int} (h : MemAt w p b n xs) (i : Nat) (v : Int) :
    MemAt (w.setCell ⟨b, i, none⟩ (.int .u64 v)) p b n (xs.set i v) := by
  have hb : b < w.heap.size := lt_of_block h.row
  refine ⟨?_, h.apart, by simpa using h.len, ?_⟩
  · rw [World.cell?_of_block (a := ⟨p, 0, none⟩) (Below.heap_setCell w ⟨b, i, none⟩ (.int .u64 v) p h.apart)]; exact h.head
  · have hr := h.row
    simp only [World.setCell, Array.getElem?_modify, if_true, hr, Option.map_some]
    simp [List.map_set]

theorem MemAt.below {w w' : World} {p b n B : Nat} {xs : List Int} (h : MemAt w p b n xs) (hb : Below B w w') (hp : p < B) (hq : b < B) : MemAt w' p b n xs :=
  ⟨by rw [hb.cell (p := ⟨p, 0, none⟩) hp]; exact h.head, h.apart, h.len, by rw [hb.block _ hq]; exact h.row⟩

theorem MemAt.alloc {w : World} {p b n : Nat} {xs : List Int} (h : MemAt w p b n xs) (o : Obj) : MemAt (w.alloc o) p b n xs :=
  h.below ((Below.refl w.heap.size w).alloc (Nat.le_refl _) o) (World.block_lt_of_cell? _ _ h.head) (lt_of_block h.row)

/-- What New leaves. -/
def NewMem (n : Nat) (w : World) (e : Ending) (w' : World) : Prop :=
  ∃ p b, e = .returned (.tuple #[.pointer (some ⟨p, 0, none⟩), .int .i64 0]) ∧ MemAt w' p b n (List.replicate (8 * n) 0) ∧ w.heap.size ≤ p ∧ w.heap.size ≤ b ∧ Below w.heap.size w w'

theorem Tryd.infoL : (Tryd.prog.info? 40).map (fun i => (i.zero, i.size, i.bytes)) = some (some (.agg #[.int .u64 0, .int .u64 0, .int .u64 0, .int .u64 0, .int .u64 0, .int .u64 0, .int .u64 0, .int .u64 0]), 8, 64) := by kernel_rfl

theorem made_zeros (m : Nat) : (madeCells #[Value.int .u64 0, .int .u64 0, .int .u64 0, .int .u64 0, .int .u64 0, .int .u64 0, .int .u64 0, .int .u64 0] m).toList = (List.replicate m (0 : Int)).map (Value.int .u64) := by
  apply List.ext_getElem
  · simp [madeCells]
  · intro i h1 h2
    simp [madeCells]
    have h8 : i % 8 < 8 := Nat.mod_lt _ (by omega)
    generalize i % 8 = r at h8
    match r, h8 with
    | 0, _ | 1, _ | 2, _ | 3, _ | 4, _ | 5, _ | 6, _ | 7, _ => rfl

theorem mnew_end {w w' : World} {n : Nat} (hown : w'.ownsRow w.heap.size 40 8 (.slice (some ⟨w.heap.size, 0, none⟩) n n) n (madeCells #[Value.int .u64 0, .int .u64 0, .int .u64 0, .int .u64 0, .int .u64 0, .int .u64 0, .int .u64 0, .int .u64 0] (n * 8)).toList)
    (hg : w.grownBy w' none) : NewMem n w (.returned (.tuple #[.pointer (some ⟨w'.heap.size, 0, none⟩), .int .i64 0])) (w'.alloc (.cells #[.slice (some ⟨w.heap.size, 0, none⟩) n n] 111)) := by
  obtain ⟨hl, h | ⟨g, cap, cur, hv, hb, hrow, h1, h2, hs, ht⟩⟩ := hown
  · cases h.1
  · simp only [Value.slice.injEq, Option.some.injEq, Addr.mk.injEq, and_true] at hv
    obtain ⟨rfl, -, rfl⟩ := hv
    have hc : cur.toList = (List.replicate (8 * n) (0 : Int)).map (Value.int .u64) := by
      rw [← List.take_of_length_le (l := cur.toList) (i := n * 8) (by simp [hs]), ht, made_zeros, Nat.mul_comm]
    have hlt := lt_of_block hrow
    have hbel : Below w.heap.size w w' := (Below.refl _ _).grown hg (Nat.le_refl _) (by simp)
    refine ⟨_, w.heap.size, rfl, ⟨by simp, by omega, by simp, ?_⟩, hbel.size, Nat.le_refl _, hbel.alloc hbel.size _⟩
    rw [Below.heap_alloc _ _ _ hlt, hrow, ← hc]

set_option maxRecDepth 100000 in
set_option maxHeartbeats 400000 in
theorem mnew_ok (n : Nat) (w : World) (h2 : 2 ≤ n) (hn : n ≤ 64) : Calls Tryd.prog 24 #[.int .i64 n] w (NewMem n w) := by
  obtain ⟨i0, hi, hz0, hz1, hz2⟩ := info_parts Tryd.infoL
  have hb : i0.bytes * n ≤ 281474976710656 := by rw [hz2]; omega
  have hm : n ≤ maxLen := by unfold maxLen; omega
  have HI := Lib.hid hi; clear hi
  have HZ0 := Lib.hid hz0; clear hz0
  have HZ1 := Lib.hid hz1; clear hz1
  have HZ2 := Lib.hid hz2; clear hz2
  go_enter Tryd.func24, Tryd.ntmps24
  go_wp2_with (at_make; refine wpList_make_full _ rfl _ _ 23 rfl w.heap.size 40 i0 _ 8 Tryd.underlying23 HI.out HZ0.out HZ1.out .i64 .i64 n n n rfl rfl rfl rfl hb hm (Nat.le_refl _) ?_; intro w1 hown hg)
  refine bodyPost_ret (results_tmp2 rfl _ _ _) rfl ?_
  exact mnew_end hown hg



def Agrees (w : World) (e0 : Value) (e : Ending) (w' : World) : Prop := e = .returned e0 ∧ Below w.heap.size w w'

set_option maxHeartbeats 400000 in
theorem lget_nil (k : Int) (w : World) :
    Calls Tryd.prog 40 #[.pointer none, .int .i64 k] w (Agrees w (.tuple #[.agg #[.int .u64 0, .int .u64 0, .int .u64 0, .int .u64 0, .int .u64 0, .int .u64 0, .int .u64 0, .int .u64 0], .int .i64 1])) := by
  go_enter Tryd.func40, Tryd.ntmps40
  go_wp2_with (go_at_call 45; refine (mline_nil _ _).mono ?_; rintro e w' ⟨rfl, rfl⟩)
  exact bodyPost_ret (v := .tuple #[.agg #[.int .u64 0, .int .u64 0, .int .u64 0, .int .u64 0, .int .u64 0, .int .u64 0, .int .u64 0, .int .u64 0], .int .i64 1]) (by simp [results, Tryd.results40, go_sem]) rfl ⟨rfl, by
    repeat (first | exact Below.refl _ _ | refine Below.setCell ?_ (by simp) _ | refine Below.alloc ?_ (by simp) _)⟩

set_option maxHeartbeats 400000 in
theorem lget_neg (k : Int) (p : Nat) (w : World) (hk : k < 0) :
    Calls Tryd.prog 40 #[.pointer (some ⟨p, 0, none⟩), .int .i64 k] w (Agrees w (.tuple #[.agg #[.int .u64 0, .int .u64 0, .int .u64 0, .int .u64 0, .int .u64 0, .int .u64 0, .int .u64 0, .int .u64 0], .int .i64 2])) := by
  go_enter Tryd.func40, Tryd.ntmps40
  go_wp2_with (go_at_call 45; refine (mline_neg _ _ _ hk).mono ?_; rintro e w' ⟨rfl, rfl⟩)
  exact bodyPost_ret (v := .tuple #[.agg #[.int .u64 0, .int .u64 0, .int .u64 0, .int .u64 0, .int .u64 0, .int .u64 0, .int .u64 0, .int .u64 0], .int .i64 2]) (by simp [results, Tryd.results40, go_sem]) rfl ⟨rfl, by
    repeat (first | exact Below.refl _ _ | refine Below.setCell ?_ (by simp) _ | refine Below.alloc ?_ (by simp) _)⟩

set_option maxHeartbeats 400000 in
theorem lget_big (k : Int) (p b n : Nat) (w : World) (hc : w.cell? ⟨p, 0, none⟩ = some (.slice (some ⟨b, 0, none⟩) n n)) (h0 : ¬ k < 0) (hk : ¬ k < n) :
    Calls Tryd.prog 40 #[.pointer (some ⟨p, 0, none⟩), .int .i64 k] w (Agrees w (.tuple #[.agg #[.int .u64 0, .int .u64 0, .int .u64 0, .int .u64 0, .int .u64 0, .int .u64 0, .int .u64 0, .int .u64 0], .int .i64 2])) := by
  have hc1 : (w.alloc (.cells #[.int .u64 0, .int .u64 0, .int .u64 0, .int .u64 0, .int .u64 0, .int .u64 0, .int .u64 0, .int .u64 0] 40)).cell? ⟨p, 0, none⟩ = some (.slice (some ⟨b, 0, none⟩) n n) := by
    rw [World.cell?_alloc_lt _ _ _ (World.block_lt_of_cell? _ _ hc)]; exact hc
  go_enter Tryd.func40, Tryd.ntmps40
  go_wp2_with (go_at_call 45; refine (mline_big _ _ _ _ _ hc1 h0 hk).mono ?_; rintro e w' ⟨rfl, rfl⟩)
  exact bodyPost_ret (v := .tuple #[.agg #[.int .u64 0, .int .u64 0, .int .u64 0, .int .u64 0, .int .u64 0, .int .u64 0, .int .u64 0, .int .u64 0], .int .i64 2]) (by simp [results, Tryd.results40, go_sem]) rfl ⟨rfl, by
    repeat (first | exact Below.refl _ _ | refine Below.setCell ?_ (by simp) _ | refine Below.alloc ?_ (by simp) _)⟩

set_option maxHeartbeats 1000000 in
theorem lget_ok (k p b n : Nat) (x0 x1 x2 x3 x4 x5 x6 x7 : Int) (w : World) (hc : w.cell? ⟨p, 0, none⟩ = some (.slice (some ⟨b, 0, none⟩) n n)) (hk : k < n) (g0 : w.cell? ⟨b, k * 8, none⟩ = some (.int .u64 x0)) (g1 : w.cell? ⟨b, k * 8 + 1, none⟩ = some (.int .u64 x1)) (g2 : w.cell? ⟨b, k * 8 + 2, none⟩ = some (.int .u64 x2)) (g3 : w.cell? ⟨b, k * 8 + 3, none⟩ = some (.int .u64 x3)) (g4 : w.cell? ⟨b, k * 8 + 4, none⟩ = some (.int .u64 x4)) (g5 : w.cell? ⟨b, k * 8 + 5, none⟩ = some (.int .u64 x5)) (g6 : w.cell? ⟨b, k * 8 + 6, none⟩ = some (.int .u64 x6)) (g7 : w.cell? ⟨b, k * 8 + 7, none⟩ = some (.int .u64 x7)) :
    Calls Tryd.prog 40 #[.pointer (some ⟨p, 0, none⟩), .int .i64 k] w (Agrees w (.tuple #[.agg #[.int .u64 x0, .int .u64 x1, .int .u64 x2, .int .u64 x3, .int .u64 x4, .int .u64 x5, .int .u64 x6, .int .u64 x7], .int .i64 0])) := by
  have hlt := World.block_lt_of_cell? _ _ hc
  have hltb := World.block_lt_of_cell? _ _ g0
  have hc1 : (w.alloc (.cells #[.int .u64 0, .int .u64 0, .int .u64 0, .int .u64 0, .int .u64 0, .int .u64 0, .int .u64 0, .int .u64 0] 40)).cell? ⟨p, 0, none⟩ = some (.slice (some ⟨b, 0, none⟩) n n) := by
    rw [World.cell?_alloc_lt _ _ _ hlt]; exact hc
  have r0 : (w.alloc (.cells #[.int .u64 0, .int .u64 0, .int .u64 0, .int .u64 0, .int .u64 0, .int .u64 0, .int .u64 0, .int .u64 0] 40)).cell? ⟨b, k * 8, none⟩ = some (.int .u64 x0) := by
    rw [World.cell?_alloc_lt w _ ⟨b, k * 8, none⟩ hltb]; exact g0
  have r1 : (w.alloc (.cells #[.int .u64 0, .int .u64 0, .int .u64 0, .int .u64 0, .int .u64 0, .int .u64 0, .int .u64 0, .int .u64 0] 40)).cell? ⟨b, k * 8 + 1, none⟩ = some (.int .u64 x1) := by
    rw [World.cell?_alloc_lt w _ ⟨b, k * 8 + 1, none⟩ hltb]; exact g1
  have r2 : (w.alloc (.cells #[.int .u64 0, .int .u64 0, .int .u64 0, .int .u64 0, .int .u64 0, .int .u64 0, .int .u64 0, .int .u64 0] 40)).cell? ⟨b, k * 8 + 2, none⟩ = some (.int .u64 x2) := by
    rw [World.cell?_alloc_lt w _ ⟨b, k * 8 + 2, none⟩ hltb]; exact g2
  have r3 : (w.alloc (.cells #[.int .u64 0, .int .u64 0, .int .u64 0, .int .u64 0, .int .u64 0, .int .u64 0, .int .u64 0, .int .u64 0] 40)).cell? ⟨b, k * 8 + 3, none⟩ = some (.int .u64 x3) := by
    rw [World.cell?_alloc_lt w _ ⟨b, k * 8 + 3, none⟩ hltb]; exact g3
  have r4 : (w.alloc (.cells #[.int .u64 0, .int .u64 0, .int .u64 0, .int .u64 0, .int .u64 0, .int .u64 0, .int .u64 0, .int .u64 0] 40)).cell? ⟨b, k * 8 + 4, none⟩ = some (.int .u64 x4) := by
    rw [World.cell?_alloc_lt w _ ⟨b, k * 8 + 4, none⟩ hltb]; exact g4
  have r5 : (w.alloc (.cells #[.int .u64 0, .int .u64 0, .int .u64 0, .int .u64 0, .int .u64 0, .int .u64 0, .int .u64 0, .int .u64 0] 40)).cell? ⟨b, k * 8 + 5, none⟩ = some (.int .u64 x5) := by
    rw [World.cell?_alloc_lt w _ ⟨b, k * 8 + 5, none⟩ hltb]; exact g5
  have r6 : (w.alloc (.cells #[.int .u64 0, .int .u64 0, .int .u64 0, .int .u64 0, .int .u64 0, .int .u64 0, .int .u64 0, .int .u64 0] 40)).cell? ⟨b, k * 8 + 6, none⟩ = some (.int .u64 x6) := by
    rw [World.cell?_alloc_lt w _ ⟨b, k * 8 + 6, none⟩ hltb]; exact g6
  have r7 : (w.alloc (.cells #[.int .u64 0, .int .u64 0, .int .u64 0, .int .u64 0, .int .u64 0, .int .u64 0, .int .u64 0, .int .u64 0] 40)).cell? ⟨b, k * 8 + 7, none⟩ = some (.int .u64 x7) := by
    rw [World.cell?_alloc_lt w _ ⟨b, k * 8 + 7, none⟩ hltb]; exact g7
  clear g0 g1 g2 g3 g4 g5 g6 g7 hc
  go_enter Tryd.func40, Tryd.ntmps40
  go_wp2_with (go_at_call 45; refine (mline_ok _ _ _ _ _ hc1 hk).mono ?_; rintro e w' ⟨rfl, rfl⟩)
  exact bodyPost_ret (v := .tuple #[.agg #[.int .u64 x0, .int .u64 x1, .int .u64 x2, .int .u64 x3, .int .u64 x4, .int .u64 x5, .int .u64 x6, .int .u64 x7], .int .i64 0]) (by simp [results, Tryd.results40, go_sem]) rfl ⟨rfl, by
    repeat (first | exact Below.refl _ _ | refine Below.setCell ?_ (by simp) _ | refine Below.alloc ?_ (by simp) _)⟩

set_option maxHeartbeats 400000 in
theorem lset_nil (k : Int) (x0 x1 x2 x3 x4 x5 x6 x7 : Int) (w : World) :
    Calls Tryd.prog 26 #[.pointer none, .int .i64 k, .agg #[.int .u64 x0, .int .u64 x1, .int .u64 x2, .int .u64 x3, .int .u64 x4, .int .u64 x5, .int .u64 x6, .int .u64 x7]] w (Agrees w (.int .i64 1)) := by
  go_enter Tryd.func26, Tryd.ntmps26
  go_wp2_with (go_at_call 45; refine (mline_nil _ _).mono ?_; rintro e w' ⟨rfl, rfl⟩)
  go_ret
  exact ⟨rfl, by
    repeat (first | exact Below.refl _ _ | refine Below.setCell ?_ (by simp) _ | refine Below.alloc ?_ (by simp) _)⟩

set_option maxHeartbeats 400000 in
theorem lset_neg (k : Int) (p : Nat) (x0 x1 x2 x3 x4 x5 x6 x7 : Int) (w : World) (hk : k < 0) :
    Calls Tryd.prog 26 #[.pointer (some ⟨p, 0, none⟩), .int .i64 k, .agg #[.int .u64 x0, .int .u64 x1, .int .u64 x2, .int .u64 x3, .int .u64 x4, .int .u64 x5, .int .u64 x6, .int .u64 x7]] w (Agrees w (.int .i64 2)) := by
  go_enter Tryd.func26, Tryd.ntmps26
  go_wp2_with (go_at_call 45; refine (mline_neg _ _ _ hk).mono ?_; rintro e w' ⟨rfl, rfl⟩)
  go_ret
  exact ⟨rfl, by
    repeat (first | exact Below.refl _ _ | refine Below.setCell ?_ (by simp) _ | refine Below.alloc ?_ (by simp) _)⟩

set_option maxHeartbeats 400000 in
theorem lset_big (k : Int) (p b n : Nat) (x0 x1 x2 x3 x4 x5 x6 x7 : Int) (w : World) (hc : w.cell? ⟨p, 0, none⟩ = some (.slice (some ⟨b, 0, none⟩) n n)) (h0 : ¬ k < 0) (hk : ¬ k < n) :
    Calls Tryd.prog 26 #[.pointer (some ⟨p, 0, none⟩), .int .i64 k, .agg #[.int .u64 x0, .int .u64 x1, .int .u64 x2, .int .u64 x3, .int .u64 x4, .int .u64 x5, .int .u64 x6, .int .u64 x7]] w (Agrees w (.int .i64 2)) := by
  have hlt := World.block_lt_of_cell? _ _ hc
  have hc1 : (w.alloc (.cells #[.int .u64 x0, .int .u64 x1, .int .u64 x2, .int .u64 x3, .int .u64 x4, .int .u64 x5, .int .u64 x6, .int .u64 x7] 40)).cell? ⟨p, 0, none⟩ = some (.slice (some ⟨b, 0, none⟩) n n) := by
    rw [World.cell?_alloc_lt _ _ _ hlt]; exact hc
  go_enter Tryd.func26, Tryd.ntmps26
  go_wp2_with (go_at_call 45; refine (mline_big _ _ _ _ _ hc1 h0 hk).mono ?_; rintro e w' ⟨rfl, rfl⟩)
  go_ret
  exact ⟨rfl, by
    repeat (first | exact Below.refl _ _ | refine Below.setCell ?_ (by simp) _ | refine Below.alloc ?_ (by simp) _)⟩

theorem Tryd.sizeL : (Tryd.prog.info? 40).map (·.size) = some 8 := by kernel_rfl

set_option maxHeartbeats 1000000 in
theorem lset_ok (k p b n : Nat) (x0 x1 x2 x3 x4 x5 x6 x7 : Int) (w : World) (hc : w.cell? ⟨p, 0, none⟩ = some (.slice (some ⟨b, 0, none⟩) n n)) (hk : k < n) (ht : w.there b (k * 8) 8) :
    Calls Tryd.prog 26 #[.pointer (some ⟨p, 0, none⟩), .int .i64 k, .agg #[.int .u64 x0, .int .u64 x1, .int .u64 x2, .int .u64 x3, .int .u64 x4, .int .u64 x5, .int .u64 x6, .int .u64 x7]] w fun e w' => e = .returned (.int .i64 0) ∧ (w.alloc (.cells #[.int .u64 x0, .int .u64 x1, .int .u64 x2, .int .u64 x3, .int .u64 x4, .int .u64 x5, .int .u64 x6, .int .u64 x7] 40)).setCells b (k * 8) [.int .u64 x0, .int .u64 x1, .int .u64 x2, .int .u64 x3, .int .u64 x4, .int .u64 x5, .int .u64 x6, .int .u64 x7] = w' := by
  have hltb := World.block_lt_of_cell? _ _ (Option.isSome_iff_exists.1 (ht 0 (by omega)).1).choose_spec
  have hlt := World.block_lt_of_cell? _ _ hc
  have hc1 : (w.alloc (.cells #[.int .u64 x0, .int .u64 x1, .int .u64 x2, .int .u64 x3, .int .u64 x4, .int .u64 x5, .int .u64 x6, .int .u64 x7] 40)).cell? ⟨p, 0, none⟩ = some (.slice (some ⟨b, 0, none⟩) n n) := by
    rw [World.cell?_alloc_lt _ _ _ hlt]; exact hc
  have ht1 : (w.alloc (.cells #[.int .u64 x0, .int .u64 x1, .int .u64 x2, .int .u64 x3, .int .u64 x4, .int .u64 x5, .int .u64 x6, .int .u64 x7] 40)).there b (k * 8) 8 := fun j hj => by
    rw [World.cell?_alloc_lt w _ ⟨b, k * 8 + j, none⟩ hltb, World.frozen?_alloc_old w _ ⟨b, k * 8 + j, none⟩ (Nat.ne_of_lt hltb)]; exact ht j hj
  have H1 := Lib.hid ht1; clear ht1 ht
  clear hc
  go_enter Tryd.func26, Tryd.ntmps26
  go_wp2_with (first | (go_at_call 45; refine (mline_ok _ _ _ _ _ hc1 hk).mono ?_; rintro e w' ⟨rfl, rfl⟩) | (refine wpList_store_mid rfl 40 _ _ rfl b (k * 8) #[.int .u64 x0, .int .u64 x1, .int .u64 x2, .int .u64 x3, .int .u64 x4, .int .u64 x5, .int .u64 x6, .int .u64 x7] rfl rfl H1.out Tryd.sizeL (by simp [Value.oneCell']) ?_))
  go_ret
  exact ⟨rfl, rfl⟩

/-- The words of line k. -/
def lineAt (xs : List Int) (k : Nat) : Value := .agg #[.int .u64 (xs.getD (k * 8) 0), .int .u64 (xs.getD (k * 8 + 1) 0), .int .u64 (xs.getD (k * 8 + 2) 0), .int .u64 (xs.getD (k * 8 + 3) 0), .int .u64 (xs.getD (k * 8 + 4) 0), .int .u64 (xs.getD (k * 8 + 5) 0), .int .u64 (xs.getD (k * 8 + 6) 0), .int .u64 (xs.getD (k * 8 + 7) 0)]
def zeroLine : Value := .agg #[.int .u64 0, .int .u64 0, .int .u64 0, .int .u64 0, .int .u64 0, .int .u64 0, .int .u64 0, .int .u64 0]

def lineS (n : Nat) (xs : List Int) (k : Int) : Value := if 0 ≤ k ∧ k < n then lineAt xs k.toNat else zeroLine
def errL (n : Nat) (k : Int) : Int := if 0 ≤ k ∧ k < n then 0 else 2

theorem lget_any (k : Int) (p b n : Nat) (xs : List Int) (w : World) (h : MemAt w p b n xs) :
    Calls Tryd.prog 40 #[.pointer (some ⟨p, 0, none⟩), .int .i64 k] w (Agrees w (.tuple #[lineS n xs k, .int .i64 (errL n k)])) := by
  by_cases h0 : 0 ≤ k
  · obtain ⟨j, rfl⟩ := Int.eq_ofNat_of_zero_le h0
    by_cases hj : j < n
    · have hc : 0 ≤ (j : Int) ∧ (j : Int) < n := ⟨h0, by omega⟩
      rw [lineS, if_pos hc, errL, if_pos hc, Int.toNat_natCast]
      exact lget_ok j p b n _ _ _ _ _ _ _ _ w h.head hj (h.cell (by omega)) (h.cell (by omega)) (h.cell (by omega)) (h.cell (by omega)) (h.cell (by omega)) (h.cell (by omega)) (h.cell (by omega)) (h.cell (by omega))
    · have hc : ¬ (0 ≤ (j : Int) ∧ (j : Int) < n) := by omega
      rw [lineS, if_neg hc, errL, if_neg hc]
      exact lget_big j p b n w h.head (by omega) (by omega)
  · have hc : ¬ (0 ≤ k ∧ k < n) := by omega
    rw [lineS, if_neg hc, errL, if_neg hc]
    exact lget_neg k p w (by omega)

/-- The words behind Set. -/
def setLine (xs : List Int) (k : Nat) (x0 x1 x2 x3 x4 x5 x6 x7 : Int) : List Int := ((((((((xs.set (k * 8) x0).set (k * 8 + 1) x1).set (k * 8 + 2) x2).set (k * 8 + 3) x3).set (k * 8 + 4) x4).set (k * 8 + 5) x5).set (k * 8 + 6) x6).set (k * 8 + 7) x7)

theorem setLine_in (xs : List Int) (k : Nat) (x0 x1 x2 x3 x4 x5 x6 x7 : Int) (h : k * 8 + 8 ≤ xs.length) : ∀ i, i < 8 → (setLine xs k x0 x1 x2 x3 x4 x5 x6 x7).getD (k * 8 + i) 0 = [x0, x1, x2, x3, x4, x5, x6, x7].getD i 0 := by
  intro i hi
  match i, hi with
  | 0, _ => simp [setLine, List.getD_eq_getElem?_getD, show k * 8 < xs.length from by omega]
  | 1, _ => simp [setLine, List.getD_eq_getElem?_getD, show k * 8 + 1 < xs.length from by omega]
  | 2, _ => simp [setLine, List.getD_eq_getElem?_getD, show k * 8 + 2 < xs.length from by omega]
  | 3, _ => simp [setLine, List.getD_eq_getElem?_getD, show k * 8 + 3 < xs.length from by omega]
  | 4, _ => simp [setLine, List.getD_eq_getElem?_getD, show k * 8 + 4 < xs.length from by omega]
  | 5, _ => simp [setLine, List.getD_eq_getElem?_getD, show k * 8 + 5 < xs.length from by omega]
  | 6, _ => simp [setLine, List.getD_eq_getElem?_getD, show k * 8 + 6 < xs.length from by omega]
  | 7, _ => simp [setLine, List.getD_eq_getElem?_getD, show k * 8 + 7 < xs.length from by omega]

theorem setLine_len (xs : List Int) (k : Nat) (x0 x1 x2 x3 x4 x5 x6 x7 : Int) : (setLine xs k x0 x1 x2 x3 x4 x5 x6 x7).length = xs.length := by simp [setLine]

theorem MemAt.there {w : World} {p b n : Nat} {xs : List Int} (h : MemAt w p b n xs) {k : Nat} (hk : k < n) : w.there b (k * 8) 8 :=
  fun j hj => ⟨by rw [h.cell (by omega)]; rfl, h.free _⟩

theorem MemAt.setLine {w : World} {p b n : Nat} {xs : List Int} (h : MemAt w p b n xs) (k : Nat) (x0 x1 x2 x3 x4 x5 x6 x7 : Int) :
    MemAt (w.setCells b (k * 8) [.int .u64 x0, .int .u64 x1, .int .u64 x2, .int .u64 x3, .int .u64 x4, .int .u64 x5, .int .u64 x6, .int .u64 x7]) p b n (setLine xs k x0 x1 x2 x3 x4 x5 x6 x7) := by
  simp only [World.setCells, Go.Proofs.YtnhainjdaafmiaaDoor.setLine]
  exact ((((((((h.set _ _).set _ _).set _ _).set _ _).set _ _).set _ _).set _ _).set _ _)

theorem below_cells {B b : Nat} {a : World} (hb : B ≤ b) : ∀ (vs : List Value) (o : Nat) (w : World), Below B a w → Below B a (w.setCells b o vs)
  | [], _, _, h => h
  | v :: r, o, _, h => below_cells hb r (o + 1) _ (h.setCell hb v)

def setLineS (n : Nat) (xs : List Int) (k : Int) (x0 x1 x2 x3 x4 x5 x6 x7 : Int) : List Int := if 0 ≤ k ∧ k < n then setLine xs k.toNat x0 x1 x2 x3 x4 x5 x6 x7 else xs

def SetPost (p b n : Nat) (xs : List Int) (k : Int) (x0 x1 x2 x3 x4 x5 x6 x7 : Int) (w : World) (e : Ending) (w' : World) : Prop :=
  e = .returned (.int .i64 (errL n k)) ∧ MemAt w' p b n (setLineS n xs k x0 x1 x2 x3 x4 x5 x6 x7) ∧ ∀ B, B ≤ b → B ≤ w.heap.size → Below B w w'

theorem lset_any (k : Int) (p b n : Nat) (xs : List Int) (x0 x1 x2 x3 x4 x5 x6 x7 : Int) (w : World) (h : MemAt w p b n xs) :
    Calls Tryd.prog 26 #[.pointer (some ⟨p, 0, none⟩), .int .i64 k, .agg #[.int .u64 x0, .int .u64 x1, .int .u64 x2, .int .u64 x3, .int .u64 x4, .int .u64 x5, .int .u64 x6, .int .u64 x7]] w (SetPost p b n xs k x0 x1 x2 x3 x4 x5 x6 x7 w) := by
  have keep : ∀ (err : Int), errL n k = err → setLineS n xs k x0 x1 x2 x3 x4 x5 x6 x7 = xs → ∀ e w', Agrees w (.int .i64 err) e w' → SetPost p b n xs k x0 x1 x2 x3 x4 x5 x6 x7 w e w' := by
    rintro err h1 h2 e w' ⟨rfl, hB⟩
    refine ⟨by rw [h1], ?_, fun B _ hBw => hB.mono hBw⟩
    rw [h2]; exact h.below hB (World.block_lt_of_cell? _ _ h.head) (lt_of_block h.row)
  by_cases h0 : 0 ≤ k
  · obtain ⟨j, rfl⟩ := Int.eq_ofNat_of_zero_le h0
    by_cases hj : j < n
    · have hc : 0 ≤ (j : Int) ∧ (j : Int) < n := ⟨h0, by omega⟩
      refine (lset_ok j p b n x0 x1 x2 x3 x4 x5 x6 x7 w h.head hj (h.there hj)).mono ?_
      rintro e w' ⟨rfl, rfl⟩
      refine ⟨by rw [errL, if_pos hc], ?_, fun B hB hBw => below_cells hB _ _ _ ((Below.refl _ _).alloc hBw _)⟩
      rw [setLineS, if_pos hc, Int.toNat_natCast]
      exact (h.alloc _).setLine j x0 x1 x2 x3 x4 x5 x6 x7
    · have hc : ¬ (0 ≤ (j : Int) ∧ (j : Int) < n) := by omega
      exact (lset_big j p b n x0 x1 x2 x3 x4 x5 x6 x7 w h.head (by omega) (by omega)).mono (keep 2 (by rw [errL, if_neg hc]) (by rw [setLineS, if_neg hc]))
  · have hc : ¬ (0 ≤ k ∧ k < n) := by omega
    exact (lset_neg k p x0 x1 x2 x3 x4 x5 x6 x7 w (by omega)).mono (keep 2 (by rw [errL, if_neg hc]) (by rw [setLineS, if_neg hc]))


end Go.Proofs.YtnhainjdaafmiaaDoor
