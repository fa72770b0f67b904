/- alive: it answers true, and turns nothing that was there. -/
import Derived.Test.YtjebkbpljbohcaaWd
namespace Go.Proofs.Ytjebkbpljbohcaa
open Go.RowKit

theorem new_int (k : Int) (w : World) (h2 : 2 ≤ k) (hn : k ≤ 64) : Calls Try.prog 7 #[.int .i64 k] w (NewMem k.toNat w) := by
  obtain ⟨n, rfl⟩ := Int.eq_ofNat_of_zero_le (show 0 ≤ k by omega)
  exact new_ok n w (by omega) (by omega)

theorem errS_ok {n : Nat} {k : Int} (h0 : 0 ≤ k) (h1 : k < 8 * n) : errS n k = 0 := by rw [errS, if_pos ⟨h0, h1⟩]
theorem errS_no {n : Nat} {k : Int} (h : ¬ (0 ≤ k ∧ k < 8 * n)) : errS n k = 2 := by rw [errS, if_neg h]

theorem run_eqItems_step (d i : Nat) (is : List Nat) (xs ys : Array Value) (a b : Int) (w : World) (h1 : (part 32 xs (i * 1)).run Try.prog w = .ok (.int .u64 a) w) (h2 : (part 32 ys (i * 1)).run Try.prog w = .ok (.int .u64 b) w) :
    (Op.eqItems (d + 1) 32 1 xs ys (i :: is)).run Try.prog w = if a == b then (Op.eqItems (d + 1) 32 1 xs ys is).run Try.prog w else .ok false w := by
  simp only [Op.eqItems, Sem.run_bind, h1, h2, Result.andThen_ok, run_equalIn_int w d 32 .u64 .u64 a b Try.underlying32]
  cases a == b <;> simp

@[go_sem] theorem eq_lines (x0 x1 x2 x3 x4 x5 x6 x7 y0 y1 y2 y3 y4 y5 y6 y7 : Int) (w : World) :
    (Op.equalIn 10000 34 (.agg #[.int .u64 x0, .int .u64 x1, .int .u64 x2, .int .u64 x3, .int .u64 x4, .int .u64 x5, .int .u64 x6, .int .u64 x7])
      (.agg #[.int .u64 y0, .int .u64 y1, .int .u64 y2, .int .u64 y3, .int .u64 y4, .int .u64 y5, .int .u64 y6, .int .u64 y7])).run Try.prog w =
      .ok (x0 == y0 && x1 == y1 && x2 == y2 && x3 == y3 && x4 == y4 && x5 == y5 && x6 == y6 && x7 == y7) w := by
  rw [run_equalIn_array w 9999 _ _ Try.underlying34 (show Try.prog.info? 32 = some (Try.prog.info? 32).get! from by kernel_rfl), show Try.prog.cellsOf 32 = 1 from by kernel_rfl, show List.range 8 = [0, 1, 2, 3, 4, 5, 6, 7] from rfl]
  rw [run_eqItems_step 9998 0 _ _ _ x0 y0 w (by kernel_rfl) (by kernel_rfl), run_eqItems_step 9998 1 _ _ _ x1 y1 w (by kernel_rfl) (by kernel_rfl), run_eqItems_step 9998 2 _ _ _ x2 y2 w (by kernel_rfl) (by kernel_rfl),
    run_eqItems_step 9998 3 _ _ _ x3 y3 w (by kernel_rfl) (by kernel_rfl), run_eqItems_step 9998 4 _ _ _ x4 y4 w (by kernel_rfl) (by kernel_rfl), run_eqItems_step 9998 5 _ _ _ x5 y5 w (by kernel_rfl) (by kernel_rfl),
    run_eqItems_step 9998 6 _ _ _ x6 y6 w (by kernel_rfl) (by kernel_rfl), run_eqItems_step 9998 7 _ _ _ x7 y7 w (by kernel_rfl) (by kernel_rfl)]
  cases x0 == y0 <;> cases x1 == y1 <;> cases x2 == y2 <;> cases x3 == y3 <;> cases x4 == y4 <;> cases x5 == y5 <;> cases x6 == y6 <;> cases x7 == y7 <;> simp [Op.eqItems]

set_option maxHeartbeats 1000000 in
theorem alive_any (w : World) : Calls Try.prog 21 #[] w (Agrees w (.bool true)) := by
  go_enter Try.func21, Try.ntmps21
  go_wp2_with fail
  refine (new_int 2 _ (by omega) (by omega)).mono ?_
  rintro e w1 ⟨p, b, rfl, hm1, hp1, hb1, hB1⟩
  go_wp2_with fail
  refine (put_any 9 5 p b 2 _ w1 hm1 (by omega) (by omega)).mono ?_
  rintro e w2 ⟨rfl, hm2, hs2, hB2⟩
  have hB2 := hB1.trans (hB2 w.heap.size hb1)
  rw [errS_ok (by omega) (by omega)]
  clear hm1 hB1
  go_wp2_with fail
  refine (get_any 9 p b 2 _ w2 hm2 (by omega) (by omega)).mono ?_
  rintro e w' ⟨rfl, rfl⟩
  rw [errS_ok (by omega) (by omega), show getS 2 (putS 2 (List.replicate (8 * Int.toNat 2) 0) 9 5) 9 = 5 from rfl]
  go_wp2_with fail
  refine (lget_any 1 p b 2 _ w2 hm2).mono ?_
  rintro e w3 ⟨rfl, hB3⟩
  rw [show lineS 2 (putS 2 (List.replicate (8 * Int.toNat 2) 0) 9 5) 1 = .agg #[.int .u64 0, .int .u64 5, .int .u64 0, .int .u64 0, .int .u64 0, .int .u64 0, .int .u64 0, .int .u64 0] from rfl, show errL 2 1 = 0 from rfl]
  have hB4 : Below w.heap.size w w3 := hB2.trans (hB3.mono hB2.size)
  clear hB2 hB3
  go_wp2
  all_goals
    go_ret
    exact ⟨rfl, hB4.alloc hB4.size _⟩
end Go.Proofs.Ytjebkbpljbohcaa
