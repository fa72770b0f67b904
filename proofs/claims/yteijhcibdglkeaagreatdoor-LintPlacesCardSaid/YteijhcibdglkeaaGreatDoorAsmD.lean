/- The lines of a text, told by an iterator. Conditions: those stated in each theorem. -/
import Derived.Test.YteijhcibdglkeaaGreatDoorAsmC
import Derived.Test.YteijhcibdglkeaaGreatDoorEachT
import Derived.TacticsInMore
import Derived.LoopIn
import Derived.LoopNIn
namespace Go.Proofs.YteijhcibdglkeaaGreatDoor
open Go.RowKit Go.BigFrame Go.Shelf

theorem lineso_any (tx : By) (w : World) : Calls Tryz.prog 39 #[.string ⟨tx.toArray⟩] w fun e w' => e = .returned (.func (.func 52) #[] #[.pointer (some ⟨w.heap.size, 0, none⟩)]) ∧ w.alloc (.cells #[.string ⟨tx.toArray⟩] 9) = w' := by
  go_enter Tryz.func39, Tryz.ntmps39
  go_wp2
  go_ret
  exact ⟨rfl, rfl⟩

def strOf : Value → Nat
  | .string s => s.size
  | _ => 0
theorem strOf_mk (l : By) : strOf (.string ⟨l.toArray⟩) = l.length := rfl
def encL (x : Ln) : Array Value := #[.int .i64 x.n, .string ⟨x.s.toArray⟩]

set_option maxRecDepth 100000 in
set_option maxHeartbeats 4000000 in
/-- The lines of a text, told in order. -/
theorem lines_each (l Bc : Nat) (tx : By) (htx : tx.length ≤ 1000000) (w : World) (hB : w.cell? ⟨Bc, 0, none⟩ = some (.string ⟨tx.toArray⟩)) (Kp : World → World → Prop) :
    SeqEach Fence.wide Tryz.prog 52 #[.pointer (some ⟨Bc, 0, none⟩)] encL Kp (linesP 1 tx) w l := by
  intro n J Jx W hW _ hJ hJx hY h0
  have c0 : W.cell? ⟨Bc, 0, none⟩ = some (.string ⟨tx.toArray⟩) := (hW.cell (World.block_lt_of_cell? _ _ hB)).trans hB
  have hJb : ∀ pre (X Y : World), J pre X → Below X.heap.size X Y → J pre Y := fun pre X Y hj hb => hJ pre X Y none hj (grown_below hb) (fun r e => by cases e)
  have HJb := Lib.hid hJb; clear hJb
  have HY := Lib.hid hY; clear hY
  have Htx := Lib.hid htx; clear htx
  clear hB hJ hJx hW
  refine callsIn_of_wp Tryz.func52 rfl trivial ?_ rfl
  simp only [Tryz.ntmps52, List.size_toArray, List.length_cons, List.length_nil, Nat.reduceAdd, Nat.reduceSub, Array.replicate_succ, Array.replicate_zero, List.push_toArray, List.append_toArray, List.nil_append, List.cons_append]
  gi_wp2
  refine wpIn_wide.2 (wp_scope_straight ((wpIn_wide (n := n)).1 ?_))
  gi_wp2_with fail
  refine wpIn_label ?_
  gi_wp2_with fail
  gi_loopw [3, 4] (fun s i wr => ∃ (k : Nat) (lf : By) (pre : List Ln), s = .string ⟨lf.toArray⟩ ∧ i = .int .i64 k ∧ linesP 1 tx = pre ++ linesP k lf ∧ J pre wr ∧ 1 ≤ k ∧ lf.length + k ≤ tx.length + 1)
    (fun s _ _ => strOf s)
  case atStart => exact ⟨1, tx, [], rfl, rfl, rfl, h0, by omega, by omega⟩
  case round =>
    obtain ⟨k, lf, pre, rfl, rfl, hsp, hJs, hk1, hk2⟩ := hrel
    clear h0 c0
    by_cases hlf : lf = []
    · subst hlf
      rw [lines_nil, List.append_nil] at hsp
      have Hsp := Lib.hid hsp; clear hsp
      have HJs := Lib.hid hJs; clear hJs
      gi_wp2
      rw [Exit.noGoto_normal]
      refine bodyPost_end (results_none rfl _ _ _) rfl ?_
      exact ⟨⟨_, rfl⟩, .inl (by rw [Hsp.out]; exact HJs.out)⟩
    · have e0 : (lf == []) = false := by simpa using hlf
      have hne := lines_ne k hlf
      have hal := aft_len 10 lf
      have h0l : 0 < lf.length := List.length_pos_iff.2 hlf
      have hlim : lf.length ≤ 1000000 := by have := Htx.out; omega
      have hkk : IntKind.i64.wrap ((k : Int) + 1) = (k : Int) + 1 := by rw [IntKind.wrap_i64]; have := Htx.out; omega
      have hc1 := fun V => cut_any lf 10 hlim V
      have hb1 := bef_len 10 lf
      have hc2 := fun V => cut_any (bef 10 lf) 59 (by omega) V
      have hb2 := bef_len 59 (bef 10 lf)
      have ht3 := fun V => trim_any (bef 59 (bef 10 lf)) (by omega) V
      have hsay : sayP k lf = if Lib.trimS (bef 59 (bef 10 lf)) [32, 9] = [] then [] else [⟨k, Lib.trimS (bef 59 (bef 10 lf)) [32, 9]⟩] := rfl
      generalize Lib.trimS (bef 59 (bef 10 lf)) [32, 9] = sd at *
      generalize bef 59 (bef 10 lf) = l2 at *
      generalize aft 59 (bef 10 lf) = l3 at *
      generalize bef 10 lf = l1 at *
      generalize aft 10 lf = l4 at *
      rw [hne, hsay] at hsp
      have HC1 := Lib.hid hc1; clear hc1
      have HC2 := Lib.hid hc2; clear hc2
      have HT3 := Lib.hid ht3; clear ht3
      have HJs := Lib.hid hJs; clear hJs
      have Hk := Lib.hid (And.intro hk1 hk2); clear hk1 hk2
      have Hal := Lib.hid (And.intro hal h0l); clear hal h0l
      clear hne hsay hlim hb1 hb2
      by_cases hsd : sd = []
      · have e1 : (sd == []) = true := by simpa using hsd
        rw [if_pos hsd, List.nil_append] at hsp
        have Hsp := Lib.hid hsp; clear hsp
        gi_wp2_with fail
        first | refine ⟨fun h => (by cases h), ?_⟩ | refine ⟨trivial, fun h => (by cases h), ?_⟩ | skip
        refine (callsIn_wide.2 (HC1.out _)).mono ?_
        rintro e w1 ⟨rfl, hb1⟩
        have HJ1 := Lib.hid (HJb.out _ _ _ HJs.out hb1); clear hb1
        gi_wp2_with fail
        first | refine ⟨fun h => (by cases h), ?_⟩ | refine ⟨trivial, fun h => (by cases h), ?_⟩ | skip
        refine (callsIn_wide.2 (HC2.out _)).mono ?_
        rintro e w2 ⟨rfl, hb2⟩
        have HJ2 := Lib.hid (HJb.out _ _ _ HJ1.out hb2); clear hb2
        gi_wp2_with fail
        first | refine ⟨fun h => (by cases h), ?_⟩ | refine ⟨trivial, fun h => (by cases h), ?_⟩ | skip
        refine (callsIn_wide.2 (HT3.out _)).mono ?_
        rintro e w3 ⟨rfl, hb3⟩
        have HJ3 := Lib.hid (HJb.out _ _ _ HJ2.out hb3); clear hb3
        gi_wp2_with fail
        go_roundw
        case rel => exact ⟨k + 1, l4, pre, rfl, by simp, Hsp.out, HJ3.out, by omega, by have := Hk.out; have := Hal.out; omega⟩
        case measure => rw [strOf_mk, strOf_mk]; have := Hal.out; omega
      · have e1 : (sd == []) = false := by simpa using hsd
        rw [if_neg hsd] at hsp
        have Hsp := Lib.hid hsp; clear hsp
        gi_wp2_with fail
        first | refine ⟨fun h => (by cases h), ?_⟩ | refine ⟨trivial, fun h => (by cases h), ?_⟩ | skip
        refine (callsIn_wide.2 (HC1.out _)).mono ?_
        rintro e w1 ⟨rfl, hb1⟩
        have HJ1 := Lib.hid (HJb.out _ _ _ HJs.out hb1); clear hb1
        gi_wp2_with fail
        first | refine ⟨fun h => (by cases h), ?_⟩ | refine ⟨trivial, fun h => (by cases h), ?_⟩ | skip
        refine (callsIn_wide.2 (HC2.out _)).mono ?_
        rintro e w2 ⟨rfl, hb2⟩
        have HJ2 := Lib.hid (HJb.out _ _ _ HJ1.out hb2); clear hb2
        gi_wp2_with fail
        first | refine ⟨fun h => (by cases h), ?_⟩ | refine ⟨trivial, fun h => (by cases h), ?_⟩ | skip
        refine (callsIn_wide.2 (HT3.out _)).mono ?_
        rintro e w3 ⟨rfl, hb3⟩
        obtain ⟨fn, tmps, assign, body, hy, hR⟩ := HY.out (n - 1) pre ⟨k, sd⟩ (linesP (k + 1) l4) w3 Hsp.out (HJb.out _ _ _ HJ2.out hb3)
        have HR := Lib.hid hR; clear hR hb3
        simp only [encL] at hy
        gi_wp2_with fail
        refine ⟨fun h => (by cases h), HR.out.mono ?_⟩
        rintro e W3 (⟨rfl, hJ3, _⟩ | ⟨rfl, hJx3, _⟩)
        · have HJ3 := Lib.hid hJ3; clear hJ3
          gi_wp2
          go_roundw
          case rel => exact ⟨k + 1, l4, pre ++ [⟨k, sd⟩], rfl, by simp, by rw [Hsp.out]; simp, HJ3.out, by omega, by have := Hk.out; have := Hal.out; omega⟩
          case measure => rw [strOf_mk, strOf_mk]; have := Hal.out; omega
        · gi_wp2
          rw [Exit.noGoto_ret]
          refine bodyPost_ret (results_none rfl _ _ _) rfl ?_
          exact ⟨⟨_, rfl⟩, .inr ⟨_, ⟨_, (by rw [Hsp.out]; simp; rfl)⟩, hJx3⟩⟩

end Go.Proofs.YteijhcibdglkeaaGreatDoor
