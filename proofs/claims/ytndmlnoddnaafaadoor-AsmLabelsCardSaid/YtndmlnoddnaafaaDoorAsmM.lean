/- AsmLabels: the walk. Conditions: those stated in each theorem. -/
import Derived.Test.YtndmlnoddnaafaaDoorAsmK
import Derived.Test.YtndmlnoddnaafaaDoorAsmL
namespace Go.Proofs.YtndmlnoddnaafaaDoor
open Go.RowKit Go.BigFrame Go.Shelf Go.Maps

theorem flat_get {l : List (By × Nat)} {i : Nat} {p : By × Nat} (h : l[i]? = some p) : (flatB l)[i * 2]? = some (.string ⟨p.1.toArray⟩) ∧ (flatB l)[i * 2 + 1]? = some (.int .i64 p.2) := by
  induction l generalizing i with
  | nil => simp at h
  | cons q r ih =>
    cases i with
    | zero =>
      simp only [List.getElem?_cons_zero, Option.some.injEq] at h
      subst h
      exact ⟨rfl, rfl⟩
    | succ i =>
      simp only [List.getElem?_cons_succ] at h
      obtain ⟨h1, h2⟩ := ih h
      have e : flatB (q :: r) = lbCells q ++ flatB r := by simp [flatB]
      have e1 : (i + 1) * 2 = i * 2 + 2 := by omega
      rw [e, e1]
      exact ⟨by rw [List.getElem?_append_right (by simp [lbCells])]; simpa [lbCells] using h1, by rw [List.getElem?_append_right (by simp [lbCells])]; simpa [lbCells] using h2⟩

theorem drewN2 (w : World) (n m : Nat) : (w.drewN n).drewN m = w.drewN (n + m) := by simp [World.drewN, Nat.add_assoc]

set_option maxRecDepth 100000 in
set_option maxHeartbeats 4000000 in
theorem alabels_any (s : ByteArray) (w : World) (h : Std w) : Calls Tryd.prog 5 #[.string s] w fun e w' => e = .returned (.bool true) ∧ Below w.heap.size w w' := by
  have hal := fun (W : World) (hb : Below w.heap.size w W) => alive_any (h.below hb)
  have hss : (⟨s.data.toList.toArray⟩ : ByteArray) = s := by simp
  have hsl : s.data.toList.length = s.size := by simp
  have Hal := Lib.hid hal; clear hal
  by_cases hlong : 3000 < s.size
  · have d1 : decide (3000 < (s.size : Int)) = true := decide_eq_true (by omega)
    clear h
    go_enter Tryd.func5, Tryd.ntmps5
    go_wp2_with (go_at_call 9; refine (Hal.out _ (Below.refl _ _)).mono ?_; rintro e w2 ⟨rfl, hb⟩; have Hb := Lib.hid hb; clear hb)
    exact bodyPost_ret (results_tmp rfl _ _ _) rfl ⟨rfl, Hb.out⟩
  · have d1 : decide (3000 < (s.size : Int)) = false := decide_eq_false (by omega)
    have hlim : s.data.toList.length ≤ 800000 := by omega
    have hla := fun (W : World) (hb : Below w.heap.size w W) => labels_any s.data.toList hlim (h.below hb)
    have has := fun (W : World) (hb : Below w.heap.size w W) => asm_any s.data.toList hlim (h.below hb)
    rw [hss] at hla has
    have Hla := Lib.hid hla; clear hla
    have Has := Lib.hid has; clear has
    clear h hss
    go_enter Tryd.func5, Tryd.ntmps5
    go_upto_region 4 with (go_at_call 9; refine (Hal.out _ (Below.refl _ _)).mono ?_; rintro e w2 ⟨rfl, hb⟩; have Hb := Lib.hid hb; clear hb)
    go_wp2_with fail
    refine (Hla.out _ Hb.out).mono ?_
    rintro e w3 ⟨lv, ⟨rfl, hlr⟩, hb3⟩
    have Hb3 := Lib.hid (Hb.out.trans (hb3.mono Hb.out.size))
    have hr3 := Hb.out.size
    clear hb3
    go_wp2_with fail
    refine (Has.out _ Hb3.out).mono ?_
    rintro e w4 ⟨cv, ⟨rfl, hcr⟩, hb4⟩
    have hlr4 := owns_same hlr (fun g e => hb4.block g (owns_lt hlr e).2)
    have Hb4 := Lib.hid (Hb3.out.trans (hb4.mono Hb3.out.size))
    clear hb4 hlr
    have hfacts : (asmB s.data.toList).Pairwise (fun a b => a.1 ≠ b.1 ∧ a.2 ≤ b.2) ∧ ∀ q ∈ asmB s.data.toList, q.2 ≤ (asmC s.data.toList).length := by
      unfold asmB asmC
      by_cases h0 : (readP s.data.toList).2 = 0
      · rw [if_pos h0, if_pos h0]; exact read_labels h0
      · rw [if_neg h0, if_neg h0]; exact ⟨List.Pairwise.nil, by simp⟩
    have hll : (asmB s.data.toList).length ≤ 1000000 := by
      have := read_labels_len s.data.toList
      unfold asmB
      split
      · omega
      · simp
    obtain ⟨lad, lcap, rfl⟩ := row_form hlr4
    obtain ⟨cad, ccap, rfl⟩ := row_form hcr
    generalize asmB s.data.toList = lb at *
    generalize asmC s.data.toList = co at *
    generalize asmE s.data.toList = er at *
    generalize (readP s.data.toList).2 = nu at *
    have Hlr := Lib.hid hlr4; clear hlr4
    have Hf := Lib.hid hfacts; clear hfacts
    clear hcr hr3
    have be1 : ((er : Int) == (er : Int)) = true := by simp
    have be2 : ((nu : Int) == (nu : Int)) = true := by simp
    go_upto_region 8 with fail
    clear hsl hlim d1
    rcases owns_form Hlr.out with ⟨e, h0, -⟩ | ⟨g, cap, e, hg⟩
    · obtain rfl : lad = none := by injection e
      go_wp2_with fail
      go_loopw [10] (fun i wr => wr = w4 ∧ i = .int .i64 0) (fun _ _ => 0)
      case atStart => exact ⟨rfl, rfl⟩
      case round =>
        obtain ⟨rfl, rfl⟩ := hrel
        rw [h0]
        go_wp2_with fail
        exact bodyPost_ret (results_tmp rfl _ _ _) rfl ⟨rfl, Hb4.out⟩
    · obtain ⟨rfl, rfl⟩ : lad = some ⟨g, 0, none⟩ ∧ lcap = cap := by injection e with e1 e2 e3; exact ⟨e1, e3⟩
      have hcell : ∀ (k : Nat) (p : By × Nat), lb[k]? = some p → w4.cell? ⟨g, k * 2, none⟩ = some (.string ⟨p.1.toArray⟩) ∧ w4.cell? ⟨g, k * 2 + 1, none⟩ = some (.int .i64 p.2) := fun k p hp => ⟨(owns_cell Hlr.out hg (flat_get hp).1).1, (owns_cell Hlr.out hg (flat_get hp).2).1⟩
      have HC := Lib.hid hcell; clear hcell e hg Hlr
      go_wp2_with fail
      go_loopw [10] (fun i wr => ∃ (k n : Nat) (z : Int), k ≤ lb.length ∧ z = k ∧ i = .int .i64 z ∧ wr = w4.drewN n) (fun i _ => lb.length - (intOf i).toNat)
      case atStart => exact ⟨0, 0, 0, Nat.zero_le _, rfl, rfl, rfl⟩
      case round =>
        obtain ⟨k, n, z, hk, hz, rfl, rfl⟩ := hrel
        by_cases hlt : k < lb.length
        · obtain ⟨p, hp⟩ : ∃ p, lb[k]? = some p := ⟨lb[k], List.getElem?_eq_getElem hlt⟩
          obtain ⟨hc0, hc1⟩ := HC.out k p hp
          have hple : p.2 ≤ co.length := Hf.out.2 p (List.mem_of_getElem? hp)
          have hkt : k = z.toNat := by omega
          rw [hkt] at hc0 hc1
          have Hzz := Lib.hid hz
          obtain ⟨a, ha⟩ : ∃ a : Int, (p.2 : Int) = a := ⟨_, rfl⟩
          rw [ha] at hc1
          have d2 : decide (a < 0) = false := decide_eq_false (by omega)
          have d3 : decide ((co.length : Int) < a) = false := decide_eq_false (by omega)
          have hki : (0 : Int) ≤ z ∧ z < lb.length := by omega
          have dz : decide (z < (lb.length : Int)) = true := decide_eq_true (by omega)
          have hkk : IntKind.i64.wrap (z + 1) = z + 1 := by rw [IntKind.wrap_i64]; omega
          by_cases h0 : k = 0
          · obtain rfl : z = 0 := by omega
            simp only [Int.toNat_zero, Nat.zero_mul, Nat.zero_add] at hc0 hc1
            have dzn : decide (0 < lb.length) = true := decide_eq_true (by omega)
            have H0 := Lib.hid h0
            clear hz hkt h0 ha
            go_upto_region 11 with fail
            go_quiet (fail)
            go_wp2_with fail
            go_loopw [11] (fun i2 wr2 => ∃ j n2 : Nat, j ≤ k ∧ i2 = .int .i64 j ∧ wr2 = w4.drewN n2) (fun i2 _ => k - (intOf i2).toNat)
            case atStart => exact ⟨0, _, Nat.zero_le _, rfl, drewN2 _ _ _⟩
            case round =>
              obtain ⟨j, n2, hj, rfl, rfl⟩ := hrel
              by_cases hjl : j < k
              · exact absurd hjl (by have := H0.out; omega)
              · obtain rfl : j = k := by omega
                have djz : decide ((j : Int) < 0) = false := decide_eq_false (by have := Hzz.out; omega)
                go_wp2_with fail
                go_roundw
                case rel => exact ⟨j + 1, _, 0 + 1, by omega, by have := Hzz.out; omega, by simp, rfl⟩
                case measure => have := Hzz.out; simp [intOf]; omega
          · have d4 : decide (0 < z) = true := decide_eq_true (by omega)
            obtain ⟨j0, hj0⟩ : ∃ j0, k = j0 + 1 := ⟨k - 1, by omega⟩
            obtain ⟨q0, hq0⟩ : ∃ q0, lb[j0]? = some q0 := ⟨lb[j0]'(by omega), List.getElem?_eq_getElem (by omega)⟩
            obtain ⟨hm0, hm1⟩ := HC.out j0 q0 hq0
            have hle : q0.2 ≤ p.2 := by
              obtain ⟨hjj, rfl⟩ := List.getElem?_eq_some_iff.1 hq0
              obtain ⟨hkk', rfl⟩ := List.getElem?_eq_some_iff.1 hp
              exact (List.pairwise_iff_getElem.1 Hf.out.1 j0 k hjj hkk' (by omega)).2
            obtain ⟨c, hc⟩ : ∃ c : Int, (q0.2 : Int) = c := ⟨_, rfl⟩
            obtain ⟨y, hy⟩ : ∃ y : Int, z - 1 = y := ⟨_, rfl⟩
            have hjt : j0 = y.toNat := by omega
            rw [hc, hjt] at hm1
            have d5 : decide (a < c) = false := decide_eq_false (by omega)
            have hw1 : IntKind.i64.wrap (z - 1) = y := by rw [IntKind.wrap_i64]; omega
            have hj0i : (0 : Int) ≤ y ∧ y < lb.length := by omega
            have Hz2 := Lib.hid (And.intro h0 (And.intro hj0 (And.intro hjt hy)))
            clear hz hkt h0 ha hc hj0 hjt hle hy
            go_upto_region 11 with fail
            go_quiet (fail)
            go_wp2_with fail
            go_loopw [11] (fun i2 wr2 => ∃ j n2 : Nat, j ≤ k ∧ i2 = .int .i64 j ∧ wr2 = w4.drewN n2) (fun i2 _ => k - (intOf i2).toNat)
            case atStart => exact ⟨0, _, Nat.zero_le _, rfl, drewN2 _ _ _⟩
            case round =>
              obtain ⟨j, n2, hj, rfl, rfl⟩ := hrel
              by_cases hjl : j < k
              · obtain ⟨q, hq⟩ : ∃ q, lb[j]? = some q := ⟨lb[j]'(by omega), List.getElem?_eq_getElem (by omega)⟩
                obtain ⟨hj0, hj1⟩ := HC.out j q hq
                have hne : (q.1 == p.1) = false := by
                  obtain ⟨hjj, rfl⟩ := List.getElem?_eq_some_iff.1 hq
                  obtain ⟨hkk', rfl⟩ := List.getElem?_eq_some_iff.1 hp
                  simpa using (List.pairwise_iff_getElem.1 Hf.out.1 j k hjj hkk' hjl).1
                have hji : (0 : Int) ≤ j ∧ (j : Int) < z := by have := Hzz.out; omega
                have djz : decide ((j : Int) < z) = true := decide_eq_true (by have := Hzz.out; omega)
                have hjw : IntKind.i64.wrap ((j : Int) + 1) = (j : Int) + 1 := by rw [IntKind.wrap_i64]; omega
                go_wp2_with fail
                go_quiet (fail)
                go_wp2_with fail
                go_roundw
                case rel => exact ⟨j + 1, _, by omega, by simp, rfl⟩
                case measure => simp [intOf]; omega
              · obtain rfl : j = k := by omega
                have djz : decide ((j : Int) < z) = false := decide_eq_false (by have := Hzz.out; omega)
                go_wp2_with fail
                go_roundw
                case rel => exact ⟨j + 1, _, z + 1, by omega, by have := Hzz.out; omega, by simp, rfl⟩
                case measure => simp [intOf]; omega
        · have dz : decide (z < (lb.length : Int)) = false := decide_eq_false (by omega)
          go_wp2_with fail
          exact bodyPost_ret (results_tmp rfl _ _ _) rfl ⟨rfl, below_drewN Hb4.out n⟩

end Go.Proofs.YtndmlnoddnaafaaDoor
