/- MemPlays: the walk. For any number of lines and any steps it answers true and turns nothing that was there. -/
import Derived.Test.YtjebkbpljbohcaaWp
namespace Go.Proofs.Ytjebkbpljbohcaa
open Go.RowKit

set_option maxRecDepth 100000 in
set_option maxHeartbeats 1000000 in
theorem plays_long (k : Int) (a : Option Addr) (len cap : Nat) (w : World) (hl : 1000 < len) : Calls Try.prog 3 #[.int .i64 k, .slice a len cap] w (Agrees w (.bool true)) := by
  go_enter Try.func3, Try.ntmps3
  go_wp2
  go_ret
  exact ⟨rfl, Below.refl _ _⟩

set_option maxRecDepth 100000 in
set_option maxHeartbeats 1000000 in
theorem plays_bad (k : Int) (a : Option Addr) (len cap : Nat) (w : World) (hl : ¬ 1000 < len) (hk : k < 2 ∨ 64 < k) : Calls Try.prog 3 #[.int .i64 k, .slice a len cap] w (Agrees w (.bool true)) := by
  have HK := Lib.hid hk; clear hk
  go_enter Try.func3, Try.ntmps3
  go_wp2_with (first | (go_at_call 7; refine (new_bad k _ HK.out).mono ?_; rintro e w' ⟨rfl, rfl⟩) | (go_at_call 8; refine (rnew_bad k _ HK.out).mono ?_; rintro e w1 ⟨rfl, hB1⟩))
  all_goals
    go_ret
    exact ⟨rfl, hB1.alloc hB1.size _⟩

set_option maxRecDepth 100000 in
set_option maxHeartbeats 8000000 in
theorem plays_ok (n : Nat) (a : Option Addr) (bx off len cap : Nat) (zs : Nat → Nat → Int) (w : World) (h2 : 2 ≤ n) (hn : n ≤ 64) (hl : ¬ 1000 < len) (ha : 0 < len → a = some ⟨bx, off, none⟩)
    (hcell : ∀ i, i < len → (w.cell? ⟨bx, off + i * 11, none⟩ = some (.int .i64 (zs i 0)) ∧ w.cell? ⟨bx, off + i * 11 + 1, none⟩ = some (.int .i64 (zs i 1)) ∧ w.cell? ⟨bx, off + i * 11 + 2, none⟩ = some (.int .u64 (zs i 2)) ∧ w.cell? ⟨bx, off + i * 11 + 3, none⟩ = some (.int .u64 (zs i 3)) ∧ w.cell? ⟨bx, off + i * 11 + 4, none⟩ = some (.int .u64 (zs i 4)) ∧ w.cell? ⟨bx, off + i * 11 + 5, none⟩ = some (.int .u64 (zs i 5)) ∧ w.cell? ⟨bx, off + i * 11 + 6, none⟩ = some (.int .u64 (zs i 6)) ∧ w.cell? ⟨bx, off + i * 11 + 7, none⟩ = some (.int .u64 (zs i 7)) ∧ w.cell? ⟨bx, off + i * 11 + 8, none⟩ = some (.int .u64 (zs i 8)) ∧ w.cell? ⟨bx, off + i * 11 + 9, none⟩ = some (.int .u64 (zs i 9)) ∧ w.cell? ⟨bx, off + i * 11 + 10, none⟩ = some (.int .u64 (zs i 10))) ∧ zs i 1 ≤ 9223372036854775807) : Calls Try.prog 3 #[.int .i64 n, .slice a len cap] w (Agrees w (.bool true)) := by
  have HA := Lib.hid ha; clear ha
  have HC := Lib.hid hcell; clear hcell
  go_enter Try.func3, Try.ntmps3
  go_wp2_with fail
  refine (new_ok n _ h2 hn).mono ?_
  rintro e w1 ⟨p, b, rfl, hm1, hp1, hb1, hB1⟩
  go_wp2_with fail
  refine (rnew_ok n _ h2 hn).mono ?_
  rintro e w2 ⟨c, rfl, hr2, hc2, hB2⟩
  have hlc := lt_of_block hr2
  have hm2 := hm1.stays hB2
  have lp := World.block_lt_of_cell? _ _ hm2.head
  have lb := lt_of_block hm2.row
  have lp1 := World.block_lt_of_cell? _ _ hm1.head
  have lb1 := lt_of_block hm1.row
  simp only at lp lp1
  have hb3 : Both w (w2.alloc (.cells #[.slice (some ⟨c, 0, none⟩) (8 * n) (8 * n)] 29)) n p b w2.heap.size c (List.replicate (8 * n) 0) :=
    ⟨hm2.alloc _, ⟨by simp, by omega, by simp, by rw [Below.heap_alloc _ _ _ hlc]; exact hr2⟩, by omega, by omega, by omega, by omega, hb1, Nat.le_trans hB1.size hc2, (hB1.trans (hB2.mono hB1.size)).alloc (Nat.le_trans hB1.size hB2.size) _⟩
  have Hb3 := Lib.hid hb3; clear hb3
  clear hm1 hm2 hr2 hp1 hb1 hB1 hB2 hc2 hlc lp lb lp1 lb1
  go_wp2
  generalize w2.alloc (.cells #[.slice (some ⟨c, 0, none⟩) (8 * n) (8 * n)] 29) = w3 at *
  generalize w2.heap.size = q at *
  go_loopw [5, 9] (fun v5 i wr => ∃ (k p b : Nat) (xs : List Int), k ≤ len ∧ i = .int .i64 k ∧ v5 = .pointer (some ⟨p, 0, none⟩) ∧ Both w wr n p b q c xs) (fun _ i _ => len - (intOf i).toNat)
  case atStart => exact ⟨0, p, b, _, Nat.zero_le _, rfl, rfl, Hb3.out⟩
  case round =>
    clear Hb3
    obtain ⟨k, p, b, xs, hk, rfl, rfl, hb⟩ := hrel
    by_cases hlt : k < len
    · obtain rfl := HA.out (by omega)
      clear HA
      obtain ⟨⟨c0, c1, c2, c3, c4, c5, c6, c7, c8, c9, c10⟩, hN⟩ := HC.out k hlt
      have hlx := World.block_lt_of_cell? _ _ c0
      have c0 := (hb.bel.cell (p := ⟨bx, off + k * 11, none⟩) hlx).trans c0
      have c1 := (hb.bel.cell (p := ⟨bx, off + k * 11 + 1, none⟩) hlx).trans c1
      have c2 := (hb.bel.cell (p := ⟨bx, off + k * 11 + 2, none⟩) hlx).trans c2
      have c3 := (hb.bel.cell (p := ⟨bx, off + k * 11 + 3, none⟩) hlx).trans c3
      have c4 := (hb.bel.cell (p := ⟨bx, off + k * 11 + 4, none⟩) hlx).trans c4
      have c5 := (hb.bel.cell (p := ⟨bx, off + k * 11 + 5, none⟩) hlx).trans c5
      have c6 := (hb.bel.cell (p := ⟨bx, off + k * 11 + 6, none⟩) hlx).trans c6
      have c7 := (hb.bel.cell (p := ⟨bx, off + k * 11 + 7, none⟩) hlx).trans c7
      have c8 := (hb.bel.cell (p := ⟨bx, off + k * 11 + 8, none⟩) hlx).trans c8
      have c9 := (hb.bel.cell (p := ⟨bx, off + k * 11 + 9, none⟩) hlx).trans c9
      have c10 := (hb.bel.cell (p := ⟨bx, off + k * 11 + 10, none⟩) hlx).trans c10
      clear hlx HC
      generalize zs k 1 = N at *
      generalize zs k 2 = V at *
      generalize zs k 3 = x0 at *
      generalize zs k 4 = x1 at *
      generalize zs k 5 = x2 at *
      generalize zs k 6 = x3 at *
      generalize zs k 7 = x4 at *
      generalize zs k 8 = x5 at *
      generalize zs k 9 = x6 at *
      generalize zs k 10 = x7 at *
      generalize zs k 0 = K at *
      by_cases hK0 : K = 0
      · subst hK0
        have hX := World.block_lt_of_cell? _ _ hb.mem.head
        have hbX : wr.heap.size ≠ b := Nat.ne_of_gt (lt_of_block hb.mem.row)
        have hs : StepAt (wr.alloc (.cells #[.int .i64 0, .int .i64 N, .int .u64 V, .int .u64 x0, .int .u64 x1, .int .u64 x2, .int .u64 x3, .int .u64 x4, .int .u64 x5, .int .u64 x6, .int .u64 x7] 36)) wr.heap.size 0 N V x0 x1 x2 x3 x4 x5 x6 x7 := World.alloc_heap_new wr _
        have hb := hb.alloc (.cells #[.int .i64 0, .int .i64 N, .int .u64 V, .int .u64 x0, .int .u64 x1, .int .u64 x2, .int .u64 x3, .int .u64 x4, .int .u64 x5, .int .u64 x6, .int .u64 x7] 36)
        have hXb := hbX
        go_wp2_with fail
        refine (lset_grown N p b n xs x0 x1 x2 x3 x4 x5 x6 x7 _ hb.mem).mono ?_
        rintro e w4 ⟨rfl, hm4, hg4⟩
        obtain ⟨hm4, hr4, hB4⟩ := hb.mems hm4 hg4
        have hs4 := hs.kept hg4 hXb
        have ⟨_, q1, _, q3, q4, q5, q6, q7, q8, q9, q10⟩ := hs4.cells
        go_wp2_with fail
        refine (rset_grown N q c n xs x0 x1 x2 x3 x4 x5 x6 x7 _ hr4 hn).mono ?_
        rintro e w5 ⟨rfl, hr5, hg5⟩
        have hb5 := Lib.hid (hb.both hm4 hB4 hr5 hg5)
        clear hb hm4 hr4 hB4 hs4 hs hg4 hg5 hr5 q1 q3 q4 q5 q6 q7 q8 q9 q10
        generalize errL n N = er at *
        go_wp2
        go_roundw
        case rel => exact ⟨k + 1, p, b, _, by omega, by go_num, rfl, hb5.out⟩
        case measure => simp [intOf]; omega
      by_cases hK1 : K = 1
      · subst hK1
        have hX := World.block_lt_of_cell? _ _ hb.mem.head
        have hbX : wr.heap.size ≠ b := Nat.ne_of_gt (lt_of_block hb.mem.row)
        have hs : StepAt (wr.alloc (.cells #[.int .i64 1, .int .i64 N, .int .u64 V, .int .u64 x0, .int .u64 x1, .int .u64 x2, .int .u64 x3, .int .u64 x4, .int .u64 x5, .int .u64 x6, .int .u64 x7] 36)) wr.heap.size 1 N V x0 x1 x2 x3 x4 x5 x6 x7 := World.alloc_heap_new wr _
        have hb := hb.alloc (.cells #[.int .i64 1, .int .i64 N, .int .u64 V, .int .u64 x0, .int .u64 x1, .int .u64 x2, .int .u64 x3, .int .u64 x4, .int .u64 x5, .int .u64 x6, .int .u64 x7] 36)
        have hXb := hbX
        go_wp2_with fail
        refine (put_grown N V p b n xs _ hb.mem hn hN).mono ?_
        rintro e w4 ⟨rfl, hm4, hg4⟩
        obtain ⟨hm4, hr4, hB4⟩ := hb.mems hm4 hg4
        have hs4 := hs.kept hg4 hXb
        have ⟨_, q1, q2, _, _, _, _, _, _, _, _⟩ := hs4.cells
        go_wp2_with fail
        refine (rput_any N V q c n xs _ hr4).mono ?_
        rintro e w5 ⟨rfl, hr5, hg5⟩
        have hb5 := Lib.hid (hb.both hm4 hB4 hr5 hg5)
        clear hb hm4 hr4 hB4 hs4 hs hg4 hg5 hr5 q1 q2
        generalize errS n N = er at *
        go_wp2
        go_roundw
        case rel => exact ⟨k + 1, p, b, _, by omega, by go_num, rfl, hb5.out⟩
        case measure => simp [intOf]; omega
      by_cases hK2 : K = 2
      · subst hK2
        have hX := World.block_lt_of_cell? _ _ hb.mem.head
        have hbX : wr.heap.size ≠ b := Nat.ne_of_gt (lt_of_block hb.mem.row)
        have hs : StepAt (wr.alloc (.cells #[.int .i64 2, .int .i64 N, .int .u64 V, .int .u64 x0, .int .u64 x1, .int .u64 x2, .int .u64 x3, .int .u64 x4, .int .u64 x5, .int .u64 x6, .int .u64 x7] 36)) wr.heap.size 2 N V x0 x1 x2 x3 x4 x5 x6 x7 := World.alloc_heap_new wr _
        have hb := hb.alloc (.cells #[.int .i64 2, .int .i64 N, .int .u64 V, .int .u64 x0, .int .u64 x1, .int .u64 x2, .int .u64 x3, .int .u64 x4, .int .u64 x5, .int .u64 x6, .int .u64 x7] 36)
        have hXb := hbX
        go_wp2_with fail
        refine (lget_words N p b n xs _ hb.mem).mono ?_
        rintro e w4 ⟨rfl, hB4⟩
        have hb4 := (hb.stays hB4).alloc (.cells #[.int .u64 (lineW n xs N 0), .int .u64 (lineW n xs N 1), .int .u64 (lineW n xs N 2), .int .u64 (lineW n xs N 3), .int .u64 (lineW n xs N 4), .int .u64 (lineW n xs N 5), .int .u64 (lineW n xs N 6), .int .u64 (lineW n xs N 7)] 34)
        have hs4 := (hs.stays hB4).stays ((Below.refl _ _).alloc (Nat.le_refl _) (.cells #[.int .u64 (lineW n xs N 0), .int .u64 (lineW n xs N 1), .int .u64 (lineW n xs N 2), .int .u64 (lineW n xs N 3), .int .u64 (lineW n xs N 4), .int .u64 (lineW n xs N 5), .int .u64 (lineW n xs N 6), .int .u64 (lineW n xs N 7)] 34))
        have ⟨_, q1, _, _, _, _, _, _, _, _, _⟩ := hs4.cells
        clear hb hs hB4
        go_wp2_with fail
        refine (rline_words N q c n xs _ hb4.ref hn).mono ?_
        rintro e w5 ⟨rfl, hB5⟩
        have hx4 := World.alloc_heap_new w4 (.cells #[.int .u64 (lineW n xs N 0), .int .u64 (lineW n xs N 1), .int .u64 (lineW n xs N 2), .int .u64 (lineW n xs N 3), .int .u64 (lineW n xs N 4), .int .u64 (lineW n xs N 5), .int .u64 (lineW n xs N 6), .int .u64 (lineW n xs N 7)] 34)
        have hx5 := (hB5.block _ (by simp)).trans hx4
        have y0 : w5.cell? ⟨w4.heap.size, 0, none⟩ = some (.int .u64 (lineW n xs N 0)) := by simp [World.cell?, hx5]
        have y1 : w5.cell? ⟨w4.heap.size, 1, none⟩ = some (.int .u64 (lineW n xs N 1)) := by simp [World.cell?, hx5]
        have y2 : w5.cell? ⟨w4.heap.size, 2, none⟩ = some (.int .u64 (lineW n xs N 2)) := by simp [World.cell?, hx5]
        have y3 : w5.cell? ⟨w4.heap.size, 3, none⟩ = some (.int .u64 (lineW n xs N 3)) := by simp [World.cell?, hx5]
        have y4 : w5.cell? ⟨w4.heap.size, 4, none⟩ = some (.int .u64 (lineW n xs N 4)) := by simp [World.cell?, hx5]
        have y5 : w5.cell? ⟨w4.heap.size, 5, none⟩ = some (.int .u64 (lineW n xs N 5)) := by simp [World.cell?, hx5]
        have y6 : w5.cell? ⟨w4.heap.size, 6, none⟩ = some (.int .u64 (lineW n xs N 6)) := by simp [World.cell?, hx5]
        have y7 : w5.cell? ⟨w4.heap.size, 7, none⟩ = some (.int .u64 (lineW n xs N 7)) := by simp [World.cell?, hx5]
        have hb5 := Lib.hid ((hb4.stays hB5).alloc (.cells #[.int .u64 (lineW n xs N 0), .int .u64 (lineW n xs N 1), .int .u64 (lineW n xs N 2), .int .u64 (lineW n xs N 3), .int .u64 (lineW n xs N 4), .int .u64 (lineW n xs N 5), .int .u64 (lineW n xs N 6), .int .u64 (lineW n xs N 7)] 34))
        have z0 : (w5.alloc (.cells #[.int .u64 (lineW n xs N 0), .int .u64 (lineW n xs N 1), .int .u64 (lineW n xs N 2), .int .u64 (lineW n xs N 3), .int .u64 (lineW n xs N 4), .int .u64 (lineW n xs N 5), .int .u64 (lineW n xs N 6), .int .u64 (lineW n xs N 7)] 34)).cell? ⟨w4.heap.size, 0, none⟩ = some (.int .u64 (lineW n xs N 0)) := by rw [World.cell?_alloc_lt w5 _ ⟨w4.heap.size, 0, none⟩ (lt_of_block hx5)]; exact y0
        have z1 : (w5.alloc (.cells #[.int .u64 (lineW n xs N 0), .int .u64 (lineW n xs N 1), .int .u64 (lineW n xs N 2), .int .u64 (lineW n xs N 3), .int .u64 (lineW n xs N 4), .int .u64 (lineW n xs N 5), .int .u64 (lineW n xs N 6), .int .u64 (lineW n xs N 7)] 34)).cell? ⟨w4.heap.size, 1, none⟩ = some (.int .u64 (lineW n xs N 1)) := by rw [World.cell?_alloc_lt w5 _ ⟨w4.heap.size, 1, none⟩ (lt_of_block hx5)]; exact y1
        have z2 : (w5.alloc (.cells #[.int .u64 (lineW n xs N 0), .int .u64 (lineW n xs N 1), .int .u64 (lineW n xs N 2), .int .u64 (lineW n xs N 3), .int .u64 (lineW n xs N 4), .int .u64 (lineW n xs N 5), .int .u64 (lineW n xs N 6), .int .u64 (lineW n xs N 7)] 34)).cell? ⟨w4.heap.size, 2, none⟩ = some (.int .u64 (lineW n xs N 2)) := by rw [World.cell?_alloc_lt w5 _ ⟨w4.heap.size, 2, none⟩ (lt_of_block hx5)]; exact y2
        have z3 : (w5.alloc (.cells #[.int .u64 (lineW n xs N 0), .int .u64 (lineW n xs N 1), .int .u64 (lineW n xs N 2), .int .u64 (lineW n xs N 3), .int .u64 (lineW n xs N 4), .int .u64 (lineW n xs N 5), .int .u64 (lineW n xs N 6), .int .u64 (lineW n xs N 7)] 34)).cell? ⟨w4.heap.size, 3, none⟩ = some (.int .u64 (lineW n xs N 3)) := by rw [World.cell?_alloc_lt w5 _ ⟨w4.heap.size, 3, none⟩ (lt_of_block hx5)]; exact y3
        have z4 : (w5.alloc (.cells #[.int .u64 (lineW n xs N 0), .int .u64 (lineW n xs N 1), .int .u64 (lineW n xs N 2), .int .u64 (lineW n xs N 3), .int .u64 (lineW n xs N 4), .int .u64 (lineW n xs N 5), .int .u64 (lineW n xs N 6), .int .u64 (lineW n xs N 7)] 34)).cell? ⟨w4.heap.size, 4, none⟩ = some (.int .u64 (lineW n xs N 4)) := by rw [World.cell?_alloc_lt w5 _ ⟨w4.heap.size, 4, none⟩ (lt_of_block hx5)]; exact y4
        have z5 : (w5.alloc (.cells #[.int .u64 (lineW n xs N 0), .int .u64 (lineW n xs N 1), .int .u64 (lineW n xs N 2), .int .u64 (lineW n xs N 3), .int .u64 (lineW n xs N 4), .int .u64 (lineW n xs N 5), .int .u64 (lineW n xs N 6), .int .u64 (lineW n xs N 7)] 34)).cell? ⟨w4.heap.size, 5, none⟩ = some (.int .u64 (lineW n xs N 5)) := by rw [World.cell?_alloc_lt w5 _ ⟨w4.heap.size, 5, none⟩ (lt_of_block hx5)]; exact y5
        have z6 : (w5.alloc (.cells #[.int .u64 (lineW n xs N 0), .int .u64 (lineW n xs N 1), .int .u64 (lineW n xs N 2), .int .u64 (lineW n xs N 3), .int .u64 (lineW n xs N 4), .int .u64 (lineW n xs N 5), .int .u64 (lineW n xs N 6), .int .u64 (lineW n xs N 7)] 34)).cell? ⟨w4.heap.size, 6, none⟩ = some (.int .u64 (lineW n xs N 6)) := by rw [World.cell?_alloc_lt w5 _ ⟨w4.heap.size, 6, none⟩ (lt_of_block hx5)]; exact y6
        have z7 : (w5.alloc (.cells #[.int .u64 (lineW n xs N 0), .int .u64 (lineW n xs N 1), .int .u64 (lineW n xs N 2), .int .u64 (lineW n xs N 3), .int .u64 (lineW n xs N 4), .int .u64 (lineW n xs N 5), .int .u64 (lineW n xs N 6), .int .u64 (lineW n xs N 7)] 34)).cell? ⟨w4.heap.size, 7, none⟩ = some (.int .u64 (lineW n xs N 7)) := by rw [World.cell?_alloc_lt w5 _ ⟨w4.heap.size, 7, none⟩ (lt_of_block hx5)]; exact y7
        clear hb4 hs4 hB5 hx4 hx5 q1 y0 y1 y2 y3 y4 y5 y6 y7
        generalize errL n N = er at *
        generalize lineW n xs N 0 = l0 at *
        generalize lineW n xs N 1 = l1 at *
        generalize lineW n xs N 2 = l2 at *
        generalize lineW n xs N 3 = l3 at *
        generalize lineW n xs N 4 = l4 at *
        generalize lineW n xs N 5 = l5 at *
        generalize lineW n xs N 6 = l6 at *
        generalize lineW n xs N 7 = l7 at *
        go_wp2
        go_roundw
        case rel => exact ⟨k + 1, p, b, _, by omega, by go_num, rfl, hb5.out⟩
        case measure => simp [intOf]; omega
      by_cases hK3 : K = 3
      · subst hK3
        have hX := World.block_lt_of_cell? _ _ hb.mem.head
        have hbX : wr.heap.size ≠ b := Nat.ne_of_gt (lt_of_block hb.mem.row)
        have hs : StepAt (wr.alloc (.cells #[.int .i64 3, .int .i64 N, .int .u64 V, .int .u64 x0, .int .u64 x1, .int .u64 x2, .int .u64 x3, .int .u64 x4, .int .u64 x5, .int .u64 x6, .int .u64 x7] 36)) wr.heap.size 3 N V x0 x1 x2 x3 x4 x5 x6 x7 := World.alloc_heap_new wr _
        have hb := hb.alloc (.cells #[.int .i64 3, .int .i64 N, .int .u64 V, .int .u64 x0, .int .u64 x1, .int .u64 x2, .int .u64 x3, .int .u64 x4, .int .u64 x5, .int .u64 x6, .int .u64 x7] 36)
        have hXb := hbX
        go_wp2_with fail
        refine (get_any N p b n xs _ hb.mem hn hN).mono ?_
        rintro e w' ⟨rfl, rfl⟩
        have ⟨_, q1, _, _, _, _, _, _, _, _, _⟩ := hs.cells
        go_wp2_with fail
        refine (rget_any N q c n xs _ hb.ref).mono ?_
        rintro e w' ⟨rfl, rfl⟩
        have hb5 := Lib.hid hb
        clear hb hs q1
        generalize errS n N = er at *
        generalize getS n xs N = gv at *
        go_wp2
        go_roundw
        case rel => exact ⟨k + 1, p, b, _, by omega, by go_num, rfl, hb5.out⟩
        case measure => simp [intOf]; omega
      by_cases hK4 : K = 4
      · subst hK4
        have hX := World.block_lt_of_cell? _ _ hb.mem.head
        have hbX : wr.heap.size ≠ b := Nat.ne_of_gt (lt_of_block hb.mem.row)
        have hs : StepAt (wr.alloc (.cells #[.int .i64 4, .int .i64 N, .int .u64 V, .int .u64 x0, .int .u64 x1, .int .u64 x2, .int .u64 x3, .int .u64 x4, .int .u64 x5, .int .u64 x6, .int .u64 x7] 36)) wr.heap.size 4 N V x0 x1 x2 x3 x4 x5 x6 x7 := World.alloc_heap_new wr _
        have hb := hb.alloc (.cells #[.int .i64 4, .int .i64 N, .int .u64 V, .int .u64 x0, .int .u64 x1, .int .u64 x2, .int .u64 x3, .int .u64 x4, .int .u64 x5, .int .u64 x6, .int .u64 x7] 36)
        have hXb := hbX
        go_wp2_with fail
        refine (copy_any p b n xs _ hb.mem hn).mono ?_
        rintro e w4 ⟨p', b', rfl, hm4, hp4, hb4, hB4⟩
        have hbs := hb.stays hB4
        have hs4 := hs.stays hB4
        have ⟨_, q1, q2, _, _, _, _, _, _, _, _⟩ := hs4.cells
        have lp := World.block_lt_of_cell? _ _ hb.mem.head
        have lb := lt_of_block hb.mem.row
        have lq := World.block_lt_of_cell? _ _ hb.ref.head
        have lc := lt_of_block hb.ref.row
        have lw := hb.bel.size
        simp only at lp lq
        go_wp2_with fail
        refine (put_grown N _ p b n xs _ hbs.mem hn hN).mono ?_
        rintro e w5 ⟨rfl, hm5, hg5⟩
        obtain ⟨hm5, hr5, hB5⟩ := hbs.mems hm5 hg5
        have hn5 := hm4.kept hg5 (by omega) (by omega)
        have hs5 := hs4.kept hg5 hXb
        clear q1 q2
        have ⟨_, _, _, q3, q4, q5, q6, q7, q8, q9, q10⟩ := hs5.cells
        go_wp2_with fail
        refine (lset_grown 0 p b n _ x0 x1 x2 x3 x4 x5 x6 x7 _ hm5).mono ?_
        rintro e w6 ⟨rfl, hm6, hg6⟩
        have hn6 := hn5.kept hg6 (by omega) (by omega)
        have hr6 := hr5.kept hg6 (Ne.symm hb.bq) (Ne.symm hb.bc)
        have hB6 : Below w.heap.size w w6 := hB5.grown hg6 hB5.size (fun k e => by cases e; exact hb.hb)
        have hb7 : Hid (Both w w6 n p' b' q c xs) := ⟨hn6, hr6, by omega, by omega, by omega, by omega, by omega, hb.hc, hB6⟩
        clear hb hbs hs4 hs5 hs hm4 hm5 hm6 hr5 hr6 hn5 hn6 hB4 hB5 hB6 hg5 hg6 lp lb lq lc lw hp4 hb4 q3 q4 q5 q6 q7 q8 q9 q10
        generalize errS n N = er at *
        generalize errL n 0 = el at *
        go_wp2
        go_roundw
        case rel => exact ⟨k + 1, p', b', _, by omega, by go_num, rfl, hb7.out⟩
        case measure => simp [intOf]; omega
      · have e0 : (K == 0) = false := by simpa using hK0
        have e1 : (K == 1) = false := by simpa using hK1
        have e2 : (K == 2) = false := by simpa using hK2
        have e3 : (K == 3) = false := by simpa using hK3
        have e4 : (K == 4) = false := by simpa using hK4
        clear hK0 hK1 hK2 hK3 hK4
        have hX := World.block_lt_of_cell? _ _ hb.mem.head
        have hbX : wr.heap.size ≠ b := Nat.ne_of_gt (lt_of_block hb.mem.row)
        have hs : StepAt (wr.alloc (.cells #[.int .i64 K, .int .i64 N, .int .u64 V, .int .u64 x0, .int .u64 x1, .int .u64 x2, .int .u64 x3, .int .u64 x4, .int .u64 x5, .int .u64 x6, .int .u64 x7] 36)) wr.heap.size K N V x0 x1 x2 x3 x4 x5 x6 x7 := World.alloc_heap_new wr _
        have hb := hb.alloc (.cells #[.int .i64 K, .int .i64 N, .int .u64 V, .int .u64 x0, .int .u64 x1, .int .u64 x2, .int .u64 x3, .int .u64 x4, .int .u64 x5, .int .u64 x6, .int .u64 x7] 36)
        have hXb := hbX
        have hb5 := Lib.hid hb
        clear hb hs
        go_wp2
        go_roundw
        case rel => exact ⟨k + 1, p, b, _, by omega, by go_num, rfl, hb5.out⟩
        case measure => simp [intOf]; omega
    · have : k = len := by omega
      subst this
      clear HA HC hlt hk
      have lp := World.block_lt_of_cell? _ _ hb.mem.head
      have lb := lt_of_block hb.mem.row
      have lq := World.block_lt_of_cell? _ _ hb.ref.head
      have lc := lt_of_block hb.ref.row
      have lw := hb.bel.size
      simp only at lp lq
      go_wp2_with fail
      refine (all_any p b n xs _ hb.mem hn).mono ?_
      rintro e w4 ⟨g, rfl, hg, hrow, hB4⟩
      have hb4 := hb.stays hB4
      clear hb hB4
      go_wp2_with fail
      refine (same_ok q c g n xs _ hb4.ref hn hrow).mono ?_
      rintro e w5 ⟨rfl, hB5⟩
      have hb5 := hb4.stays hB5
      have hrow5 : w5.heap[g]? = some (.cells (xs.map (Value.int .u64)).toArray 34 (0, 0)) := by rw [hB5.block _ (lt_of_block hrow)]; exact hrow
      have hh5 := hb5.mem.head
      have hl5 := hb5.mem.len
      clear hb4 hB5 hrow
      have hb5 := Lib.hid hb5
      have hrow5 := Lib.hid hrow5
      have hl5 := Lib.hid hl5
      go_wp2_with fail
      refine (lines_ok p b n _ hh5).mono ?_
      rintro e w' ⟨rfl, rfl⟩
      clear hh5
      have d1 : ((n : Int) != n) = false := by simp
      go_wp2
      go_loopw [25] (fun i ws => ∃ (k : Nat) (ys : List Int), k ≤ n ∧ i = .int .i64 k ∧ ys.length = 8 * n ∧ ws.heap[g]? = some (.cells (ys.map (Value.int .u64)).toArray 34 (0, 0)) ∧ Both w ws n p b q c xs) (fun i _ => n - (intOf i).toNat)
      case atStart => exact ⟨0, xs, Nat.zero_le _, rfl, hl5.out, hrow5.out, hb5.out⟩
      case round =>
        clear hb5 hrow5 hl5
        obtain ⟨j, ys, hj, rfl, hy, hgr, hbb⟩ := hrel
        by_cases hlt : j < n
        · have r1 : wr.cell? ⟨g, j * 8, none⟩ = some (.int .u64 (ys.getD (j * 8) 0)) := by
            simp [World.cell?, hgr, List.getElem?_eq_getElem (show j * 8 < ys.length by omega)]
          have r2 : wr.frozen? ⟨g, j * 8, none⟩ = false := by simp [World.frozen?, hgr]
          generalize ys.getD (j * 8) 0 = z at *
          have hnew : ∀ v : Int, (wr.drew.setCell ⟨g, j * 8, none⟩ (.int .u64 v)).heap[g]? = some (.cells ((ys.set (j * 8) v).map (Value.int .u64)).toArray 34 (0, 0)) := fun v => by
            have : wr.drew.heap[g]? = some (.cells (ys.map (Value.int .u64)).toArray 34 (0, 0)) := hgr
            simp only [World.setCell, Array.getElem?_modify, if_true, this, Option.map_some]
            simp [List.map_set]
          have hbd : ∀ v : Int, Both w (wr.drew.setCell ⟨g, j * 8, none⟩ (.int .u64 v)) n p b q c xs := fun v => by
            have hbe : Both w wr.drew n p b q c xs := hbb.stays ((Below.refl _ _).drew)
            have hgs : wr.drew.grownBy (wr.drew.setCell ⟨g, j * 8, none⟩ (.int .u64 v)) (some g) := grown_setCell wr.drew ⟨g, j * 8, none⟩ (.int .u64 v)
            exact ⟨hbe.mem.kept hgs (by omega) (by omega), hbe.ref.kept hgs (by omega) (by omega), hbb.pq, hbb.pc, hbb.bq, hbb.bc, hbb.hb, hbb.hc, hbe.bel.setCell (show w.heap.size ≤ g by omega) _⟩
          have Hnew := Lib.hid hnew; clear hnew
          have Hbd := Lib.hid hbd; clear hbd
          clear hgr hbb
          go_wp2
          go_still_tail 10, (by kernel_rfl)
          change wpList _ _ _ _ _ wr.drew
          go_wp2
          go_roundw
          case rel => exact ⟨j + 1, ys.set (j * 8) _, by omega, by go_num, by simpa using hy, Hnew.out _, Hbd.out _⟩
          case measure => simp [intOf]; omega
        · have : j = n := by omega
          subst this
          clear hgr hy hlt hj
          go_wp2_with fail
          refine (all_any p b j xs _ hbb.mem hn).mono ?_
          rintro e w6 ⟨g6, rfl, hg6, hrow6, hB6⟩
          have hb6 := hbb.stays hB6
          clear hbb hB6
          go_wp2_with fail
          refine (same_ok q c g6 j xs _ hb6.ref hn hrow6).mono ?_
          rintro e w7 ⟨rfl, hB7⟩
          have hfin := (hb6.stays hB7).bel
          clear hb6 hB7 hrow6
          go_wp2
          go_ret
          exact ⟨rfl, hfin⟩

end Go.Proofs.Ytjebkbpljbohcaa
