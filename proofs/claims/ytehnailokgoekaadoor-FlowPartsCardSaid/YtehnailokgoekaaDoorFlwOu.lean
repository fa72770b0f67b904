/- FlowParts: the walk of at most 300. Conditions: those stated in each theorem. -/
import Derived.Test.YtehnailokgoekaaDoorFlwOt
import Derived.Test.YtehnailokgoekaaDoorFlwOq
import Derived.Laws.AppendOwnNone
namespace Go.Proofs.YtehnailokgoekaaDoor
open Go.RowKit Go.BigFrame Go.Shelf

theorem Tryd.infoInstrG : (Tryd.prog.info? 53).map (fun i => (i.zero, i.size, i.bytes)) = some (some (.agg #[.int .i64 0, .int .i64 0, .int .i64 0, .int .i64 0, .int .i64 0]), 5, 40) := by kernel_rfl

set_option maxRecDepth 100000 in
set_option maxHeartbeats 8000000 in
theorem flowparts_short (a : Option Addr) (cap : Nat) (c : List In) (hi : ∀ i ∈ c, I64 i.imm) (p : Int) (w : World) (hF : FormsAt w) (hr : RowsIn w a 5 In.cells c) (ha : a = none → c.length = 0 ∧ cap = 0) (h3 : ¬ 300 < c.length) :
    Calls Tryd.prog 3 #[.slice a c.length cap, .int .i64 p] w fun e w' => e = .returned (.bool true) ∧ Below w.heap.size w w' := by
  have d1 : decide (300 < (c.length : Int)) = false := decide_eq_false (by omega)
  have hn : c.length ≤ 300 := by omega
  obtain ⟨i0, hi0, hz0, hz1, hz2⟩ := flw_info Tryd.infoInstrG
  have HI := Lib.hid (And.intro hi0 (And.intro hz0 (And.intro hz1 hz2))); clear hi0 hz0 hz1 hz2
  have H := Lib.hid (And.intro hF (And.intro hr (And.intro hi hn))); clear hF hr hi hn h3
  have Ha := Lib.hid ha; clear ha
  go_enter Tryd.func3, Tryd.ntmps3
  go_upto_region 4 with fail
  go_cut [7] from 30 to 32 (fun s7 wx => ∃ a3 cap3, s7 = .slice a3 c.length cap3 ∧ RowsIn wx a3 5 In.cells c ∧ Below w.heap.size w wx)
  case first =>
    cases a with
    | none =>
      obtain ⟨e1, e2⟩ := Ha.out rfl
      obtain rfl : c = [] := List.eq_nil_of_length_eq_zero e1
      subst e2
      clear e1
      go_wp2_with (at_builtin; refine wpList_append_own_none rfl (.tmp 30) (.tmp 31) 22 rfl w.heap.size 53 i0 5 Tryd.underlying22 HI.out.1 (.slice (some ⟨w.heap.size, 0, none⟩) 0 0) 0 [] rfl (owns_zeroI w _) rfl ?_)
      go_meet
      case rel => exact ⟨_, _, rfl, .inl rfl, (Below.refl _ w).alloc (Nat.le_refl _) _⟩
    | some ad =>
      have Hr0 : Hid (RowsIn (w.alloc (.cells #[] 53)) (some ad) 5 In.cells c) := Lib.hid (H.out.2.1.below ((Below.refl _ w).alloc (Nat.le_refl _) _))
      go_wp2_with (at_builtin; refine wpList_append_own_at _ rfl (.tmp 30) (.tmp 31) 22 rfl w.heap.size 53 i0 _ 5 40 Tryd.underlying22 HI.out.1 HI.out.2.1 HI.out.2.2.1 HI.out.2.2.2 rfl (by decide) (.slice (some ⟨w.heap.size, 0, none⟩) 0 0) 0 [] rfl (owns_zeroI w _) ad c.length cap (flatI c) rfl (flatI_len c) (flatI_news Hr0.out ad rfl) (flatI_one c) (by unfold maxLen; have := H.out.2.2.2; omega) (by have := H.out.2.2.2; omega) (by simp) ?_; intro v3 w3 hown3 hgrow3 _ _; have HO := Lib.hid (And.intro hown3 hgrow3); clear hown3 hgrow3)
      have hb3 : Below w.heap.size w w3 := ((Below.refl _ w).alloc (Nat.le_refl _) _).grown HO.out.2 (by simp) (fun g hg => by cases hg; exact Nat.le_refl _)
      have hown3 := HO.out.1
      rw [List.nil_append, Nat.zero_add] at hown3
      obtain ⟨a3, cap3, rfl, -⟩ := owns_slice hown3
      have HB := Lib.hid (And.intro hb3 (flatI_rows hown3)); clear hb3 hown3 HO
      go_wp2_with fail
      go_meet
      case rel => exact ⟨_, _, rfl, HB.out.2, HB.out.1⟩
  case rest =>
    obtain ⟨a3, cap3, rfl, hr3, hb3⟩ := hcut
    have hn4 : c.length ≤ 1024 := by have := H.out.2.2.2; omega
    have HP := Lib.hid (parts_any a3 cap3 c hn4 H.out.2.2.1 wc (H.out.1.below hb3) hr3)
    have H3 := Lib.hid (And.intro hr3 (And.intro hb3 hn4)); clear hr3 hb3 hn4 HI Ha
    go_wp2_with fail
    refine HP.out.mono ?_
    rintro e w4 ⟨v4, rfl, hp4, hb4⟩
    have hb4' := H3.out.2.1.trans (hb4.mono H3.out.2.1.size)
    have HR := Lib.hid (rparts_any a cap c H3.out.2.2 H.out.2.2.1 w4 (H.out.2.1.below hb4'))
    have H4 := Lib.hid (And.intro hp4 (And.intro hb4' (H3.out.1.below hb4))); clear hp4 hb4 hb4' HP
    go_wp2_with fail
    refine HR.out.mono ?_
    rintro e w5 ⟨v5, rfl, hp5, hb5⟩
    have hb5' := H4.out.2.1.trans (hb5.mono H4.out.2.1.size)
    have H5 := Lib.hid (And.intro hp5 (And.intro hb5' (And.intro (H4.out.2.2.below hb5) (H4.out.1.below hb5)))); clear hp5 hb5 hb5' HR H4
    have hA : Calls Tryd.prog 7 #[.slice a3 c.length cap3, .int .i64 p] w5 fun e w' => e = .returned (.tuple #[.int .i64 (wantK (partsP c) p (partsP c).length : Nat), .int .i64 (if 0 ≤ p ∧ p < c.length then 0 else 2)]) ∧ Below w5.heap.size w5 w' := by
      by_cases hin : 0 ≤ p ∧ p < c.length
      · obtain ⟨m, rfl⟩ : ∃ m : Nat, p = m := ⟨p.toNat, by omega⟩
        rw [if_pos hin, want_in (by omega)]
        exact at_any a3 cap3 c H3.out.2.2 H.out.2.2.1 w5 (H.out.1.below H5.out.2.1) H5.out.2.2.1 m (by omega)
      · rw [if_neg hin, want_out hin]
        exact at_out a3 cap3 c H3.out.2.2 H.out.2.2.1 w5 (H.out.1.below H5.out.2.1) H5.out.2.2.1 p hin
    generalize hEr : (if 0 ≤ p ∧ p < (c.length : Int) then (0 : Int) else 2) = er at hA
    have HEr := Lib.hid hEr; clear hEr
    have HA := Lib.hid hA; clear hA
    obtain ⟨a5, c5, rfl, hs5⟩ := H5.out.1.form
    have hpl : (partsP c).length ≤ 1024 := by rw [parts_len]; exact Nat.le_trans (begs_le c) H3.out.2.2
    have hx2 := parts_nx2 c
    have Hs5 := Lib.hid (And.intro hs5 (And.intro hpl hx2)); clear hs5 hpl hx2
    go_wp2_with fail
    refine HA.out.mono ?_
    rintro e w6 ⟨rfl, hb6⟩
    have hb6' := H5.out.2.1.trans (hb6.mono H5.out.2.1.size)
    have H6 := Lib.hid (And.intro (H5.out.1.below hb6) (And.intro hb6' (And.intro (H5.out.2.2.1.below hb6) (H5.out.2.2.2.below hb6)))); clear hb6 hb6' HA H5
    have hsame := psame_yes (partsP c) wc.heap.size w4.heap.size v4 _ w6 H6.out.2.2.2 H6.out.1 Hs5.out.2.2 Hs5.out.2.1
    have HS := Lib.hid hsame; clear hsame
    have HQ := Lib.hid (fun (V : World) (hV : Below w6.heap.size w6 V) => isame_yes a3 a cap3 cap c V (H6.out.2.2.1.below hV) (H.out.2.1.below (H6.out.2.1.trans (hV.mono H6.out.2.1.size))) (by have := H.out.2.2.2; omega))
    have hcl : c.length ≤ 300 := H.out.2.2.2
    generalize w4.heap.size = lo4 at *
    have HZ := Lib.hid (fun h => want_out (c := c) (p := p) h)
    generalize hps : partsP c = ps at *
    clear hps
    go_wp2_with fail
    go_loopw [13, 14] (fun s13 s14 V => ∃ k : Nat, s14 = .int .i64 k ∧ k ≤ ps.length ∧ s13 = .int .i64 (wantK ps p k : Nat) ∧ V = w6) (fun _ s14 _ => ps.length - (intOf s14).toNat)
    case atStart => exact ⟨0, rfl, Nat.zero_le _, rfl, rfl⟩
    case round =>
      obtain ⟨k, rfl, hk, rfl, hV⟩ := hrel
      have hV := hV.symm
      subst hV
      by_cases hlt : k < ps.length
      · obtain ⟨x, hx⟩ : ∃ x, ps[k]? = some x := ⟨_, List.getElem?_eq_getElem hlt⟩
        obtain ⟨g5, rfl⟩ := Hs5.out.1 (by omega)
        obtain ⟨x0, x1, -⟩ := H6.out.1.part hx
        have hki : (0 : Int) ≤ (k : Int) ∧ (k : Int) < ps.length := by omega
        have hkk : IntKind.i64.wrap ((k : Int) + 1) = (k : Int) + 1 := by rw [IntKind.wrap_i64]; have := Hs5.out.2.1; omega
        have hw : wantK ps p (k + 1) = if (decide ((x.lo : Int) ≤ p) && decide (p < (x.hi : Int))) then k else wantK ps p k := by
          have : isIn ps p k = (decide ((x.lo : Int) ≤ p) && decide (p < (x.hi : Int))) := by unfold isIn; rw [hx]
          conv => lhs; unfold wantK
          rw [this]
        have Hk := Lib.hid (And.intro hlt hw); clear hlt hw hk hx
        by_cases h1 : (x.lo : Int) ≤ p
        · have e1 : decide ((x.lo : Int) ≤ p) = true := decide_eq_true h1
          by_cases h2 : p < (x.hi : Int)
          · have e2 : decide (p < (x.hi : Int)) = true := decide_eq_true h2
            have hw : wantK ps p (k + 1) = k := by rw [Hk.out.2, e1, e2]; rfl
            have HW := Lib.hid hw; clear hw h1 h2
            go_wp2_with fail
            go_roundw
            case rel => exact ⟨k + 1, rfl, by have := Hk.out.1; omega, by rw [HW.out], by first | rfl | trivial⟩
            case measure => simp [intOf]; have := Hk.out.1; omega
          · have e2 : decide (p < (x.hi : Int)) = false := decide_eq_false h2
            have hw : wantK ps p (k + 1) = wantK ps p k := by rw [Hk.out.2, e1, e2]; rfl
            have HW := Lib.hid hw; clear hw h1 h2
            go_wp2_with fail
            go_roundw
            case rel => exact ⟨k + 1, rfl, by have := Hk.out.1; omega, by rw [HW.out], by first | rfl | trivial⟩
            case measure => simp [intOf]; have := Hk.out.1; omega
        · have e1 : decide ((x.lo : Int) ≤ p) = false := decide_eq_false h1
          have hw : wantK ps p (k + 1) = wantK ps p k := by rw [Hk.out.2, e1]; rfl
          have HW := Lib.hid hw; clear hw h1
          go_wp2_with fail
          go_roundw
          case rel => exact ⟨k + 1, rfl, by have := Hk.out.1; omega, by rw [HW.out], by first | rfl | trivial⟩
          case measure => simp [intOf]; have := Hk.out.1; omega
      · have hke : k = ps.length := by omega
        subst hke
        clear hk hlt
        by_cases hin : 0 ≤ p ∧ p < c.length
        · have e1 : decide (0 ≤ p) = true := decide_eq_true hin.1
          have e2 : decide (p < (c.length : Int)) = true := decide_eq_true hin.2
          obtain rfl : er = 0 := by rw [← HEr.out, if_pos hin]
          clear hin
          go_wp2_with fail
          refine HS.out.mono ?_
          rintro e w7 ⟨rfl, hb7⟩
          have H7 := Lib.hid hb7; clear hb7
          go_wp2_with fail
          refine (HQ.out _ H7.out).mono ?_
          rintro e w8 ⟨rfl, hb8⟩
          have hbe := H6.out.2.1.trans ((H7.out.trans (hb8.mono H7.out.size)).mono H6.out.2.1.size)
          clear hb8
          go_wp2_with fail
          go_ret
          exact ⟨by simp, hbe⟩
        · obtain rfl : er = 2 := by rw [← HEr.out, if_neg hin]
          have hz : wantK ps p ps.length = 0 := by have := HZ.out hin; exact this
          rw [hz]
          clear hz
          by_cases h0 : 0 ≤ p
          · have e1 : decide (0 ≤ p) = true := decide_eq_true h0
            have e2 : decide (p < (c.length : Int)) = false := decide_eq_false (fun h => hin ⟨h0, h⟩)
            clear hin h0
            go_wp2_with fail
            refine HS.out.mono ?_
            rintro e w7 ⟨rfl, hb7⟩
            have H7 := Lib.hid hb7; clear hb7
            go_wp2_with fail
            refine (HQ.out _ H7.out).mono ?_
            rintro e w8 ⟨rfl, hb8⟩
            have hbe := H6.out.2.1.trans ((H7.out.trans (hb8.mono H7.out.size)).mono H6.out.2.1.size)
            clear hb8
            go_wp2_with fail
            go_ret
            exact ⟨by simp, hbe⟩
          · have e1 : decide (0 ≤ p) = false := decide_eq_false h0
            clear hin h0
            go_wp2_with fail
            refine HS.out.mono ?_
            rintro e w7 ⟨rfl, hb7⟩
            have H7 := Lib.hid hb7; clear hb7
            go_wp2_with fail
            refine (HQ.out _ H7.out).mono ?_
            rintro e w8 ⟨rfl, hb8⟩
            have hbe := H6.out.2.1.trans ((H7.out.trans (hb8.mono H7.out.size)).mono H6.out.2.1.size)
            clear hb8
            go_wp2_with fail
            go_ret
            exact ⟨by simp, hbe⟩

theorem flowparts_any (a : Option Addr) (cap : Nat) (c : List In) (hi : ∀ i ∈ c, I64 i.imm) (p : Int) (w : World) (hF : FormsAt w) (hr : RowsIn w a 5 In.cells c) (ha : a = none → c.length = 0 ∧ cap = 0) :
    Calls Tryd.prog 3 #[.slice a c.length cap, .int .i64 p] w fun e w' => e = .returned (.bool true) ∧ Below w.heap.size w w' := by
  by_cases h : 300 < c.length
  · exact flowparts_long a cap c hi p w hF hr h
  · exact flowparts_short a cap c hi p w hF hr ha h

end Go.Proofs.YtehnailokgoekaaDoor
