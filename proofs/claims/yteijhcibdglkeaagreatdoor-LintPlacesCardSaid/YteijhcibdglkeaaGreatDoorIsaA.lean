/- An instruction's numbers; the iterator over the places that are named. Conditions: those stated in each theorem. -/
import Derived.Test.YteijhcibdglkeaaGreatDoorIsaP
import Derived.Test.YteijhcibdglkeaaGreatDoorEachT
import Derived.TacticsInMore
import Derived.LoopNIn
import Derived.LoopIn
namespace Go.Proofs.YteijhcibdglkeaaGreatDoor
open Go.RowKit Go.BigFrame
attribute [local go_sem] Oper.semAt_some
attribute [local simp] wide_fn

/-- A bool in a box. -/
theorem Tryz.loadBool {w : World} {b o : Nat} {v : Bool} (h : w.cell? ⟨b, o, none⟩ = some (.bool v)) : (loadVar 4 ⟨b, o, none⟩).run Tryz.prog w = .ok (.bool v) w := by
  simp [loadVar, Sem.run_bind, Tryz.isAgg4, h]

set_option maxHeartbeats 400000 in
theorem numbersOf_any (i : In) (w : World) : Calls Tryz.prog 24 #[i.val] w fun e w' => e = .returned i.val ∧ Below w.heap.size w w' := by
  go_enter Tryz.func24, Tryz.ntmps24
  unfold In.val
  go_wp2
  refine bodyPost_ret (results_c rfl rfl (v := i.val) ?_) rfl ?_
  · exact run_loadVar_mid _ _ 0 65 i.cells _ (newAt (by simp) 65 i.cells).full Tryz.underlying65 rfl (by kernel_rfl)
  · exact ⟨rfl, ((Below.refl _ w).alloc (Nat.le_refl _) _).alloc (by simp) _⟩

set_option maxHeartbeats 400000 in
theorem instr_any (i : In) (w : World) : Calls Tryz.prog 96 #[i.val] w fun e w' => e = .returned i.val ∧ Below w.heap.size w w' := by
  go_enter Tryz.func96, Tryz.ntmps96
  unfold In.val
  go_wp2
  refine bodyPost_ret (results_c rfl rfl (v := i.val) ?_) rfl ?_
  · exact run_loadVar_mid _ _ 0 43 i.cells _ (newAt (by simp) 43 i.cells).full Tryz.underlying43 rfl (by kernel_rfl)
  · exact ⟨rfl, ((Below.refl _ w).alloc (Nat.le_refl _) _).alloc (by simp) _⟩

set_option maxHeartbeats 400000 in
theorem has_any (m k : Nat) (hm : m < 32) (hk : k < 5) (w : World) : Calls Tryz.prog 34 #[.int .i64 m, .int .i64 k] w fun e w' => e = .returned (.bool (hasP m k)) ∧ w' = w := by
  have h := has_nat hm hk
  go_enter Tryz.func34, Tryz.ntmps34
  go_wp2
  go_ret
  refine ⟨?_, rfl⟩
  rw [← h]; rfl

set_option maxHeartbeats 400000 in
theorem places_any (m : Int) (w : World) : Calls Tryz.prog 25 #[.int .i64 m] w fun e w' => e = .returned (.func (.func 33) #[] #[.pointer (some ⟨w.heap.size, 0, none⟩)]) ∧ w.alloc (.cells #[.int .i64 m] 69) = w' := by
  go_enter Tryz.func25, Tryz.ntmps25
  go_wp2
  go_ret
  exact ⟨rfl, rfl⟩

/-- The places ahead of k. -/
def plTo (m k : Nat) : List Nat := (List.range k).filter (hasP m)
theorem plTo_yes {m k : Nat} (h : hasP m k = true) : plTo m (k + 1) = plTo m k ++ [k] := by simp [plTo, List.range_succ, List.filter_append, h]
theorem plTo_no {m k : Nat} (h : hasP m k = false) : plTo m (k + 1) = plTo m k := by simp [plTo, List.range_succ, List.filter_append, h]
theorem plTo_split {m k : Nat} (hk : k < 5) (h : hasP m k = true) : ∃ rest, placesP m = plTo m k ++ k :: rest := by
  refine ⟨(List.range' (k + 1) (5 - (k + 1))).filter (hasP m), ?_⟩
  unfold placesP plTo
  have : List.range 5 = List.range k ++ k :: List.range' (k + 1) (5 - (k + 1)) := by
    rw [List.range_eq_range' (n := k), List.range_eq_range' (n := 5), ← List.range'_succ]
    have := List.range'_append_1 (s := 0) (m := k) (n := 5 - (k + 1) + 1)
    rw [Nat.zero_add] at this
    rw [this]; congr 1; omega
  rw [this, List.filter_append, List.filter_cons, h]; rfl

set_option maxRecDepth 100000 in
set_option maxHeartbeats 2000000 in
/-- The places that are named, told in order. -/
theorem places_each (l Bc m : Nat) (hm : m < 32) (w : World) (hB : w.cell? ⟨Bc, 0, none⟩ = some (.int .i64 m)) (Kp : World → World → Prop) (hBC : ∀ (W W' : World), Kp W W' → ∀ v, W.cell? ⟨Bc, 0, none⟩ = some v → W'.cell? ⟨Bc, 0, none⟩ = some v) :
    SeqEach Fence.wide Tryz.prog 33 #[.pointer (some ⟨Bc, 0, none⟩)] (fun x : Nat => #[.int .i64 x]) Kp (placesP m) w l := by
  intro n J Jx W hW _ hJ hJx hY h0
  have c0 : W.cell? ⟨Bc, 0, none⟩ = some (.int .i64 m) := (hW.cell (World.block_lt_of_cell? _ _ hB)).trans hB
  have HY := Lib.hid hY; clear hY
  clear hB hJ hJx hW
  refine callsIn_of_wp Tryz.func33 rfl trivial ?_ rfl
  simp only [Tryz.ntmps33, List.size_toArray, List.length_cons, List.length_nil, Nat.reduceAdd, Nat.reduceSub, Array.replicate_succ, Array.replicate_zero, List.push_toArray, List.append_toArray, List.nil_append, List.cons_append]
  have C0 := Lib.hid c0; clear c0
  gi_wp2
  gi_loopw [4] (fun i wr => ∃ k : Nat, k ≤ 5 ∧ i = .int .i64 k ∧ J (plTo m k) wr ∧ wr.cell? ⟨Bc, 0, none⟩ = some (.int .i64 m))
    (fun i _ => 5 - (intOf i).toNat)
  case atStart => exact ⟨0, by omega, by simp, h0, C0.out⟩
  case round =>
    obtain ⟨k, hk, rfl, hJs, c1⟩ := hrel
    clear h0 C0
    by_cases hlt : k < 5
    · have hha := has_any m k hm hlt
      cases hb : hasP m k with
      | false =>
        rw [hb] at hha
        have HHA := Lib.hid hha; clear hha
        have Hn := Lib.hid (plTo_no hb); clear hb
        gi_wp2_with (refine ⟨fun h => (by cases h), ?_⟩; gi_at_call 34; refine (callsIn_wide.2 (HHA.out _)).mono ?_; rintro e w2 ⟨rfl, rfl⟩)
        go_roundw
        case rel => exact ⟨k + 1, by omega, by simp, by rw [Hn.out]; exact hJs, c1⟩
        case measure => simp [intOf]; omega
      | true =>
        obtain ⟨rest, hsp⟩ := plTo_split hlt hb
        obtain ⟨fn, tmps, assign, body, hy, hR⟩ := HY.out (n - 1) _ k _ wr hsp hJs
        have HR := Lib.hid hR; clear hR
        have Hsn := Lib.hid (plTo_yes hb)
        have Hsp := Lib.hid hsp; clear hsp
        rw [hb] at hha
        have HHA := Lib.hid hha; clear hha
        have C1 := Lib.hid c1
        clear hJs hb
        gi_wp2_with (refine ⟨fun h => (by cases h), ?_⟩; gi_at_call 34; refine (callsIn_wide.2 (HHA.out _)).mono ?_; rintro e w2 ⟨rfl, rfl⟩)
        refine ⟨fun h => (by cases h), HR.out.mono ?_⟩
        rintro e W3 (⟨rfl, hJ3, hk3⟩ | ⟨rfl, hJx3, _⟩)
        · have hJ4 := Lib.hid hJ3
          have C3 := Lib.hid (hBC _ _ hk3 _ C1.out)
          clear hJ3 hk3 c1
          gi_wp2
          go_roundw
          case rel => exact ⟨k + 1, by omega, by simp, by rw [Hsn.out]; exact hJ4.out, C3.out⟩
          case measure => simp [intOf]; omega
        · gi_wp2
          refine bodyPost_ret (results_none rfl _ _ _) rfl ?_
          exact ⟨⟨_, rfl⟩, .inr ⟨_, ⟨_, (by rw [Hsp.out, List.append_assoc]; rfl)⟩, hJx3⟩⟩
    · obtain rfl : k = 5 := by omega
      gi_wp2
      go_end0
      exact ⟨⟨_, rfl⟩, .inl hJs⟩

end Go.Proofs.YteijhcibdglkeaaGreatDoor
