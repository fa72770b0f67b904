/- The iterator of a set's ways. Conditions: those stated in each theorem. -/
import Derived.Test.YtddajnpichchfaaCell
import Derived.Shelf.Abstract
import Derived.Shelf.RegionOpen
import Derived.OwnWalkIn
import Derived.TacticsInMore
import Derived.LoopNIn
import Derived.LoopIn
import Derived.RegionTactic
import Derived.ChangeAlike
import Derived.Deep.QuietTactic
import Derived.BigQuiet
import Derived.Sort.QuietIn
namespace Go.Proofs.Ytddajnpichchfaa
open Go.RowKit Go.Shelf
attribute [local go_sem] Oper.semAt_some

theorem tmod_nat (a b : Nat) : (a : Int).tmod b = ((a % b : Nat) : Int) := by rw [Int.ofNat_tmod]

set_option maxHeartbeats 1000000 in
theorem set_any (p S k n b ways : Nat) (u : Value) (L : List Value) (w : World) (hp : Holds w p 87 [.slice (some ⟨S, 0, none⟩) n n, u]) (hS : Holds w S 27 L) (hb : L[k % n]? = some (.slice (some ⟨b, 0, none⟩) ways ways)) (hn : 0 < n) (hn8 : n ≤ 8) :
    Calls Try.prog 80 #[.pointer (some ⟨p, 0, none⟩), .int .i64 k] w fun e w' => e = .returned (.func (.func 95) #[] #[.pointer (some ⟨w.heap.size, 0, none⟩)]) ∧ ∃ q, w' = (w.alloc (.cells #[.slice (some ⟨b, 0, none⟩) ways ways] 27)).drewN q := by
  have hc : w.cell? ⟨p, 0, none⟩ = some (.slice (some ⟨S, 0, none⟩) n n) := hp.cell (i := 0) rfl
  have hd : w.cell? ⟨S, k % n, none⟩ = some (.slice (some ⟨b, 0, none⟩) ways ways) := hS.cell hb
  have hm : k % n < n := Nat.mod_lt _ hn
  have hpl := hp.lt
  have hSl := hS.lt
  have hn0 : ¬ n = 0 := by omega
  have ht := tmod_nat k n
  have hi : (((k % n : Nat) : Int)).toNat = k % n := Int.toNat_natCast _
  clear hp hS hb
  go_enter Try.func80, Try.ntmps80
  go_wp2
  go_region
  all_goals
    go_wp2
    go_ret
    exact ⟨rfl, 1, rfl⟩

theorem range_split {k n : Nat} (h : k < n) : List.range n = List.range k ++ k :: (List.range' (k + 1) (n - k - 1)) := by
  rw [List.range_eq_range', List.range_eq_range', show n = k + (n - k) from by omega, ← List.range'_append_1 (s := 0) (m := k) (n := n - k)]
  rw [show n - k = (n - k - 1) + 1 from by omega, List.range'_succ]
  simp

theorem range_snoc (k : Nat) : List.range (k + 1) = List.range k ++ [k] := List.range_succ

set_option maxRecDepth 100000 in
set_option maxHeartbeats 2000000 in
/-- The ways of a set, told in order. -/
theorem set1_each (l b ways Bs : Nat) (w : World) (hw : ways ≤ 4) (hB : Holds w Bs 27 [.slice (some ⟨b, 0, none⟩) ways ways]) (Kp : World → World → Prop) (hKp : ∀ W W', Kp W W' → KpHold Bs 27 W W') :
    SeqEach Fence.wide Try.prog 95 #[.pointer (some ⟨Bs, 0, none⟩)] (fun k : Nat => #[.pointer (some ⟨b, k * 21, none⟩)]) Kp (List.range ways) w l := by
  intro m J Jx W hW _ hJ hJx hY h0
  have hBW : Holds W Bs 27 [.slice (some ⟨b, 0, none⟩) ways ways] := hB.same (hW.block _ hB.lt)
  have hc : W.cell? ⟨Bs, 0, none⟩ = some (.slice (some ⟨b, 0, none⟩) ways ways) := hBW.cell (i := 0) rfl
  have HY := Lib.hid hY; clear hY
  have HKp := Lib.hid hKp; clear hKp
  have HBW := Lib.hid hBW; clear hBW hB hW hJ hJx
  refine callsIn_of_wp Try.func95 rfl trivial ?_ rfl
  simp only [Try.ntmps95, List.size_toArray, List.length_cons, List.length_nil, Nat.reduceAdd, Nat.reduceSub, Array.replicate_succ, Array.replicate_zero, List.push_toArray, List.append_toArray, List.nil_append, List.cons_append]
  gi_wp2
  clear hc
  gi_loopw [6] (fun i wr => ∃ k : Nat, k ≤ ways ∧ i = .int .i64 k ∧ J (List.range k) wr ∧ Holds wr Bs 27 [.slice (some ⟨b, 0, none⟩) ways ways])
    (fun i _ => ways - (intOf i).toNat)
  case atStart => exact ⟨0, Nat.zero_le _, rfl, h0, HBW.out⟩
  case round =>
    obtain ⟨k, hk, rfl, hJs, hBr⟩ := hrel
    by_cases hlt : k < ways
    · obtain ⟨fn, tmps, assign, body, hy, hR⟩ := HY.out (m - 1) (List.range k) k _ wr (range_split hlt) hJs
      have hc : wr.cell? ⟨Bs, 0, none⟩ = some (.slice (some ⟨b, 0, none⟩) ways ways) := hBr.cell (i := 0) rfl
      have HBr := Lib.hid hBr; clear hBr
      gi_wp2
      refine ⟨fun h => (by cases h), hR.mono ?_⟩
      rintro e W3 (⟨rfl, hJ3, hk3⟩ | ⟨rfl, hJx3, _⟩)
      · have hB3 := HKp.out _ _ hk3 _ HBr.out
        have hJ4 := Lib.hid hJ3
        have hB4 := Lib.hid hB3
        clear hJ3 hB3 hc hy hR hk3
        gi_wp2
        go_roundw
        case rel => exact ⟨k + 1, by omega, by simp, by rw [range_snoc]; exact hJ4.out, hB4.out⟩
        case measure => simp [intOf]; omega
      · gi_wp2
        refine bodyPost_ret (results_none rfl _ _ _) rfl ?_
        exact ⟨⟨_, rfl⟩, .inr ⟨_, ⟨_, (by rw [range_split hlt, List.append_assoc]; rfl)⟩, hJx3⟩⟩
    · obtain rfl : k = ways := by omega
      gi_wp2
      go_end0
      exact ⟨⟨_, rfl⟩, .inl hJs⟩


theorem range_pre {n x : Nat} {pre rest : List Nat} (h : List.range n = pre ++ x :: rest) : pre = List.range x ∧ x < n := by
  have hl := congrArg List.length h
  simp at hl
  have hx : (List.range n)[pre.length]? = some x := by rw [h]; simp
  rw [List.getElem?_range (by omega)] at hx
  simp only [Option.some.injEq] at hx
  subst hx
  refine ⟨?_, by omega⟩
  have := congrArg (List.take pre.length) h
  rw [List.take_left, List.take_range, Nat.min_eq_left (by omega)] at this
  exact this.symm

end Go.Proofs.Ytddajnpichchfaa
