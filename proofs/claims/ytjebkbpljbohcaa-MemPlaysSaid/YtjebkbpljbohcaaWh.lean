/- The iterator of package mem: it tells all lines in order, to whatever takes them and keeps what lay below n0. Conditions: those stated in each theorem. -/
import Derived.Test.YtjebkbpljbohcaaWd
import Derived.RangeFuncNested
import Derived.RangeFuncBound
import Derived.RangeFuncCalls
import Derived.RangeFuncLeaves
import Derived.RangeFuncBox
import Derived.OwnWalkIn
import Derived.TacticsInMore
import Derived.LoopNIn
import Derived.LoopIn
namespace Go.Proofs.Ytjebkbpljbohcaa
open Go.RowKit
attribute [local go_sem] Oper.semAt_some

set_option maxHeartbeats 400000 in
theorem each_any (p : Nat) (w : World) : Calls Try.prog 24 #[.pointer (some ⟨p, 0, none⟩)] w fun e w' => e = .returned (.func (.func 25) #[] #[.pointer (some ⟨w.heap.size, 0, none⟩)]) ∧ w' = w.alloc (.cells #[.pointer (some ⟨p, 0, none⟩)] 23) := by
  go_enter Try.func24, Try.ntmps24
  go_wp2
  go_ret
  exact ⟨rfl, rfl⟩

theorem range_snoc (k : Nat) : List.range (k + 1) = List.range k ++ [k] := List.range_succ

set_option maxRecDepth 100000 in
set_option maxHeartbeats 2000000 in
theorem each1_in (m l Bs n₀ p b n : Nat) (xs : List Int) (hm1 : 1 ≤ m) (hn : n ≤ 64) (hp : p < n₀) (hb : b < n₀) (J Jx : List Nat → World → Prop) (W : World) (hW : n₀ ≤ W.heap.size) (hJ : AbidesFrom W.heap.size J)
    (hY : ∀ pre x W, J pre W → pre.length < n → YieldAt Fence.wide (m - 1) Try.prog l #[lineAt xs x] W fun e W' =>
      (e = .returned (.bool true) ∧ J (pre ++ [x]) W' ∧ Below n₀ W W') ∨ (e = .returned (.bool false) ∧ Jx (pre ++ [x]) W'))
    (hBs : W.cell? ⟨Bs, 0, none⟩ = some (.pointer (some ⟨p, 0, none⟩))) (hmem : MemAt W p b n xs) (h0 : J [] W) :
    CallsIn Fence.wide m Try.prog 25 #[.func (.yield l) #[] #[], .pointer (some ⟨Bs, 0, none⟩)] W fun e W' => (∃ v, e = .returned v) ∧
      ((∃ ys, ys = List.range n ∧ J ys W') ∨ (∃ pre, True ∧ Jx pre W')) := by
  have hc := hmem.head
  have HM := Lib.hid hmem; clear hmem
  refine callsIn_of_wp Try.func25 rfl trivial ?_ rfl
  simp only [Try.ntmps25, List.size_toArray, List.length_cons, List.length_nil, Nat.reduceAdd, Nat.reduceSub, Array.replicate_succ, Array.replicate_zero, List.push_toArray, List.append_toArray, List.nil_append, List.cons_append]
  gi_wp2
  clear hc
  gi_loopw [10] (fun i wr => ∃ k : Nat, k ≤ n ∧ i = .int .i64 k ∧ J (List.range k) wr ∧ Below n₀ W wr)
    (fun i _ => n - (intOf i).toNat)
  case atStart => exact ⟨0, Nat.zero_le _, rfl, h0, Below.refl _ _⟩
  case round =>
    obtain ⟨k, hk, rfl, hJs, hnx⟩ := hrel
    by_cases hlt : k < n
    · have hmr := HM.out.below hnx hp hb
      have r0 := hmr.cell (i := k * 8) (by omega)
      have r1 := hmr.cell (i := k * 8 + 1) (by omega)
      have r2 := hmr.cell (i := k * 8 + 2) (by omega)
      have r3 := hmr.cell (i := k * 8 + 3) (by omega)
      have r4 := hmr.cell (i := k * 8 + 4) (by omega)
      have r5 := hmr.cell (i := k * 8 + 5) (by omega)
      have r6 := hmr.cell (i := k * 8 + 6) (by omega)
      have r7 := hmr.cell (i := k * 8 + 7) (by omega)
      have hJa := Lib.hid (hJ _ _ _ none hJs (World.grownBy_alloc wr (.cells #[.int .u64 (xs.getD (k * 8) 0), .int .u64 (xs.getD (k * 8 + 1) 0), .int .u64 (xs.getD (k * 8 + 2) 0), .int .u64 (xs.getD (k * 8 + 3) 0), .int .u64 (xs.getD (k * 8 + 4) 0), .int .u64 (xs.getD (k * 8 + 5) 0), .int .u64 (xs.getD (k * 8 + 6) 0), .int .u64 (xs.getD (k * 8 + 7) 0)] 34) none) (fun r e => by cases e))
      obtain ⟨fn, tmps, assign, body, hy, hR⟩ := hY _ k _ hJa.out (by simpa using hlt)
      clear hmr hJa HM
      unfold lineAt at hy
      generalize xs.getD (k * 8) 0 = x0 at *
      generalize xs.getD (k * 8 + 1) 0 = x1 at *
      generalize xs.getD (k * 8 + 2) 0 = x2 at *
      generalize xs.getD (k * 8 + 3) 0 = x3 at *
      generalize xs.getD (k * 8 + 4) 0 = x4 at *
      generalize xs.getD (k * 8 + 5) 0 = x5 at *
      generalize xs.getD (k * 8 + 6) 0 = x6 at *
      generalize xs.getD (k * 8 + 7) 0 = x7 at *
      gi_wp2
      refine hR.mono ?_
      have hnw := hnx.alloc (Nat.le_trans hW hnx.size) (.cells #[.int .u64 x0, .int .u64 x1, .int .u64 x2, .int .u64 x3, .int .u64 x4, .int .u64 x5, .int .u64 x6, .int .u64 x7] 34)
      rintro e W3 (⟨rfl, hJ3, hk3⟩ | ⟨rfl, hJx3⟩)
      · have hJ4 := Lib.hid hJ3; clear hJ3 hJs
        have hn4 := hnw.trans hk3
        clear hnw hk3 hnx r0 r1 r2 r3 r4 r5 r6 r7
        gi_wp2
        go_roundw
        case rel => exact ⟨k + 1, by omega, by simp, by rw [range_snoc]; exact hJ4.out, hn4⟩
        case measure => simp [intOf]; omega
      · gi_wp2
        refine bodyPost_ret (results_none rfl _ _ _) rfl ?_
        exact ⟨⟨_, rfl⟩, .inr ⟨_, trivial, hJx3⟩⟩
    · obtain rfl : k = n := by omega
      gi_wp2
      go_end0
      exact ⟨⟨_, rfl⟩, .inl ⟨_, rfl, hJs⟩⟩

end Go.Proofs.Ytjebkbpljbohcaa
