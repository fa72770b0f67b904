/- The iterator over a set of cores: it tells them rising, to whatever takes them and keeps what lay below n0. Conditions: those stated in each theorem. -/
import Derived.Test.YtnhainjdaafmiaaDoorDirT
import Derived.Test.YtnhainjdaafmiaaDoorDirP
import Derived.RangeFuncNested
import Derived.RangeFuncBound
import Derived.RangeFuncCalls
import Derived.RangeFuncLeaves
import Derived.RangeFuncBox
import Derived.OwnWalkIn
import Derived.TacticsInMore
import Derived.LoopNIn
import Derived.LoopIn
namespace Go.Proofs.YtnhainjdaafmiaaDoor
open Go.RowKit
attribute [local go_sem] Oper.semAt_some

set_option maxHeartbeats 400000 in
theorem seach_any (s : Nat) (w : World) : Calls Tryd.prog 39 #[.int .u64 s] w fun e w' => e = .returned (.func (.func 56) #[] #[.pointer (some ⟨w.heap.size, 0, none⟩)]) ∧ w' = w.alloc (.cells #[.int .u64 s] 77) := by
  go_enter Tryd.func39, Tryd.ntmps39
  go_wp2
  go_ret
  exact ⟨rfl, rfl⟩

def nextS (r : Nat) : Nat := r &&& (r - 1)
theorem next_bits : ∀ r : Nat, r < 16 → 1 ≤ r → bits .and .u64 (r : Int) ((r : Int) - 1) = ((nextS r : Nat) : Int) := by decide +kernel
theorem next_lt : ∀ r : Nat, r < 16 → 1 ≤ r → nextS r < r := by decide +kernel
theorem cores_next : ∀ r : Nat, r < 16 → 1 ≤ r → coresL r = lowS r :: coresL (nextS r) := by decide +kernel
theorem cores_len : ∀ r : Nat, r < 16 → (coresL r).length ≤ 4 := by decide +kernel
theorem TabAt.below {w w' : World} (h : TabAt w) {B : Nat} (hb : Below B w w') (hB : 1 < B) : TabAt w' :=
  ⟨(hb.cell (p := ⟨1, 0, none⟩) hB).trans h.t0, (hb.cell (p := ⟨1, 1, none⟩) hB).trans h.t1, (hb.cell (p := ⟨1, 3, none⟩) hB).trans h.t3, (hb.cell (p := ⟨1, 7, none⟩) hB).trans h.t7⟩

set_option maxRecDepth 100000 in
set_option maxHeartbeats 2000000 in
theorem seach1_in (m l Bs n₀ s : Nat) (hm1 : 1 ≤ m) (hs : s < 16) (hg : 1 < n₀) (J Jx : List Nat → World → Prop) (W : World)
    (hY : ∀ pre x W, J pre W → pre.length < 4 → YieldAt Fence.wide (m - 1) Tryd.prog l #[.int .i64 (x : Nat)] W fun e W' =>
      (e = .returned (.bool true) ∧ J (pre ++ [x]) W' ∧ Below n₀ W W') ∨ (e = .returned (.bool false) ∧ Jx (pre ++ [x]) W'))
    (hBs : W.cell? ⟨Bs, 0, none⟩ = some (.int .u64 s)) (hT : TabAt W) (h0 : J [] W) :
    CallsIn Fence.wide m Tryd.prog 56 #[.func (.yield l) #[] #[], .pointer (some ⟨Bs, 0, none⟩)] W fun e W' => (∃ v, e = .returned v) ∧
      ((∃ ys, ys = coresL s ∧ J ys W') ∨ (∃ pre, True ∧ Jx pre W')) := by
  refine callsIn_of_wp Tryd.func56 rfl trivial ?_ rfl
  simp only [Tryd.ntmps56, List.size_toArray, List.length_cons, List.length_nil, Nat.reduceAdd, Nat.reduceSub, Array.replicate_succ, Array.replicate_zero, List.push_toArray, List.append_toArray, List.nil_append, List.cons_append]
  have HT := Lib.hid hT; clear hT
  gi_wp2
  clear hBs
  gi_loopw [3] (fun i wr => ∃ (r : Nat) (pre : List Nat), r < 16 ∧ i = .int .u64 r ∧ coresL s = pre ++ coresL r ∧ J pre wr ∧ Below n₀ W wr)
    (fun i _ => (intOf i).toNat)
  case atStart => exact ⟨s, [], hs, rfl, rfl, h0, Below.refl _ _⟩
  case round =>
    obtain ⟨r, pre, hr, rfl, hcs, hJs, hnx⟩ := hrel
    have Hcs := Lib.hid hcs; clear hcs
    by_cases hlt : 1 ≤ r
    · have Hn := Lib.hid (cores_next r hr hlt)
      have hx0 : ((r : Int) != 0) = true := by simp; omega
      have hb := next_bits r hr hlt
      have hnl := next_lt r hr hlt
      have hlen : pre.length < 4 := by
        have h1 := cores_len s hs
        rw [Hcs.out, Hn.out, List.length_append, List.length_cons] at h1
        omega
      have HTr := Lib.hid (HT.out.below hnx hg)
      obtain ⟨fn, tmps, assign, body, hy, hR⟩ := hY pre (lowS r) wr hJs hlen
      have hlow := lowS_lt r
      gi_wp2_with (refine ⟨trivial, ?_⟩; gi_at_call 57; refine (callsIn_wide.2 (tz_any r wr hlt hr HTr.out)).mono ?_; rintro e w2 ⟨rfl, rfl⟩)
      refine hR.mono ?_
      rintro e W3 (⟨rfl, hJ3, hk3⟩ | ⟨rfl, hJx3⟩)
      · have hJ4 := Lib.hid hJ3; clear hJ3 hJs
        have hn4 := hnx.trans hk3
        clear hk3 hnx
        gi_wp2
        go_roundw
        case rel => exact ⟨nextS r, pre ++ [lowS r], by omega, rfl, by rw [Hcs.out, Hn.out]; simp, hJ4.out, hn4⟩
        case measure => simp [intOf]; omega
      · gi_wp2
        refine bodyPost_ret (results_none rfl _ _ _) rfl ?_
        exact ⟨⟨_, rfl⟩, .inr ⟨_, trivial, hJx3⟩⟩
    · obtain rfl : r = 0 := by omega
      gi_wp2
      go_end0
      exact ⟨⟨_, rfl⟩, .inl ⟨_, rfl, by rw [Hcs.out]; simpa [show coresL 0 = [] from by decide] using hJs⟩⟩

theorem seach1_stops (m Bs n₀ s : Nat) (hm1 : 1 ≤ m) (hs : s < 16) (hg : 1 < n₀) (w : World) (hw : n₀ ≤ w.heap.size)
    (hBs : w.cell? ⟨Bs, 0, none⟩ = some (.int .u64 s)) (hT : TabAt w) :
    SeqStopsK Fence.wide m Tryd.prog 56 #[.pointer (some ⟨Bs, 0, none⟩)] (fun x : Nat => #[.int .i64 x]) (Below n₀) (fun ks => ks = coresL s) (fun _ => True) 4 w :=
  fun l J Jx W hW _ _ hY h0 => seach1_in m l Bs n₀ s hm1 hs hg J Jx W hY ((hW.cell (World.block_lt_of_cell? _ _ hBs)).trans hBs) (hT.below hW (Nat.lt_of_lt_of_le hg hw)) h0

end Go.Proofs.YtnhainjdaafmiaaDoor
