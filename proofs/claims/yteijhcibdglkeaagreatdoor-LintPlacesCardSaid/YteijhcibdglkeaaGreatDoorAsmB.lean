/- Names and lines: the small functions; what the laws stand on. Conditions: those stated in each theorem. -/
import Derived.Test.YteijhcibdglkeaaGreatDoorAsmA
import Derived.Test.YteijhcibdglkeaaGreatDoorTxtF
import Derived.Deep.CutBlock
namespace Go.Proofs.YteijhcibdglkeaaGreatDoor
open Go.RowKit Go.BigFrame

/-- What the laws stand on: the tables, in each later world. -/
structure Std (w : World) : Prop where
  forms : FormsAt w
  errs : ErrsBelow w
  tab : Lib.TabBelow Tryz.prog w.heap.size w "internal/strconv.uint64pow10" .u64 Lib.pow10Tab
theorem Std.below {w w' : World} (h : Std w) (hb : Below w.heap.size w w') : Std w' := ⟨h.forms.below hb, fun w2 h2 => h.errs w2 (hb.trans (h2.mono hb.size)), fun w2 h2 => h.tab w2 (hb.trans (h2.mono hb.size))⟩
theorem parse_std (l : List UInt8) (hl : l.length ≤ 1000000) {w : World} (h : Std w) : Calls Tryz.prog 77 #[.string ⟨l.toArray⟩] w fun e w' => e = .returned (parseVal (parseP l)) ∧ Below w.heap.size w w' := parse_any l hl w h.forms h.errs h.tab
theorem text_std (i : In) (hi : i.Ok) {w : World} (h : Std w) : Calls Tryz.prog 64 #[i.val] w fun e w' => e = .returned (.string ⟨(textP i).toArray⟩) ∧ Below w.heap.size w w' := text_any i w h.forms hi h.tab
theorem itoa_std (n : Int) (hn : I64 n) {w : World} (h : Std w) : Calls Tryz.prog 19 #[.int .i64 n] w fun e w' => e = .returned (.string ⟨(Lib.itoa n).toArray⟩) ∧ Below w.heap.size w w' := itoa_any n hn w h.tab

theorem index_str {l : By} {k : Nat} {b : UInt8} (h : l[k]? = some b) (V : World) : (Instr.index 9 (.string ⟨l.toArray⟩) (.int .i64 (k : Int))).run Tryz.prog V = .ok (.int .u8 (b.toNat : Int)) V := by
  obtain ⟨hk, rfl⟩ := List.getElem?_eq_some_iff.1 h
  rw [run_index_string V _ _ _ _ Tryz.underlying9, dif_pos ⟨by omega, by show (k : Int) < ((l.toArray.size : Nat) : Int); simp; omega⟩]
  congr 2
theorem low_int (b : UInt8) : isLow b = (decide ((97 : Int) ≤ b.toNat) && decide ((b.toNat : Int) ≤ 122)) := by
  unfold isLow; congr 1 <;> (apply decide_eq_decide.2; omega)
theorem dig_int (b : UInt8) : isDig b = (decide ((48 : Int) ≤ b.toNat) && decide ((b.toNat : Int) ≤ 57)) := by
  unfold isDig; congr 1 <;> (apply decide_eq_decide.2; omega)
theorem low_any (b : UInt8) (w : World) : Calls Tryz.prog 66 #[.int .u8 (b.toNat : Int)] w fun e w' => e = .returned (.bool (isLow b)) ∧ w' = w := by
  rw [low_int]
  generalize (b.toNat : Int) = v
  by_cases h1 : 97 ≤ v
  · have e1 : decide (97 ≤ v) = true := decide_eq_true h1
    rw [e1]
    go_enter Tryz.func66, Tryz.ntmps66
    go_wp2
    go_ret
    exact ⟨by simp, rfl⟩
  · have e1 : decide (97 ≤ v) = false := decide_eq_false h1
    rw [e1]
    go_enter Tryz.func66, Tryz.ntmps66
    go_wp2
    go_ret
    exact ⟨by simp, rfl⟩
theorem dig_any (b : UInt8) (w : World) : Calls Tryz.prog 67 #[.int .u8 (b.toNat : Int)] w fun e w' => e = .returned (.bool (isDig b)) ∧ w' = w := by
  rw [dig_int]
  generalize (b.toNat : Int) = v
  by_cases h1 : 48 ≤ v
  · have e1 : decide (48 ≤ v) = true := decide_eq_true h1
    rw [e1]
    go_enter Tryz.func67, Tryz.ntmps67
    go_wp2
    go_ret
    exact ⟨by simp, rfl⟩
  · have e1 : decide (48 ≤ v) = false := decide_eq_false h1
    rw [e1]
    go_enter Tryz.func67, Tryz.ntmps67
    go_wp2
    go_ret
    exact ⟨by simp, rfl⟩

set_option maxRecDepth 100000 in
set_option maxHeartbeats 2000000 in
theorem goes_any (l : By) (hl : l.length ≤ 1000000) (w : World) : Calls Tryz.prog 79 #[.string ⟨l.toArray⟩] w fun e w' => e = .returned (.bool (goesP l)) ∧ Below w.heap.size w w' := by
  have hc := cut_any l 32 hl w
  have Hc := Lib.hid hc; clear hc
  unfold goesP
  generalize bef 32 l = x at *
  obtain ⟨b1, t1⟩ : ∃ b, (x == [106, 117, 109, 112]) = b := ⟨_, rfl⟩
  obtain ⟨b2, t2⟩ : ∃ b, (x == [101, 113]) = b := ⟨_, rfl⟩
  obtain ⟨b3, t3⟩ : ∃ b, (x == [110, 101]) = b := ⟨_, rfl⟩
  obtain ⟨b4, t4⟩ : ∃ b, (x == [108, 116]) = b := ⟨_, rfl⟩
  rw [t1, t2, t3, t4]
  go_enter Tryz.func79, Tryz.ntmps79
  go_upto_region 2 with (go_at_call 53; refine Hc.out.mono ?_; rintro e w2 ⟨rfl, hb⟩; have Hb := Lib.hid hb; clear hb)
  cases b1
  · cases b2
    · cases b3
      · cases b4
        · go_wp2_with fail
          exact bodyPost_ret (results_tmp rfl _ _ _) rfl ⟨rfl, Hb.out⟩
        · go_wp2_with fail
          exact bodyPost_ret (results_tmp rfl _ _ _) rfl ⟨rfl, Hb.out⟩
      · go_wp2_with fail
        exact bodyPost_ret (results_tmp rfl _ _ _) rfl ⟨rfl, Hb.out⟩
    · go_wp2_with fail
      exact bodyPost_ret (results_tmp rfl _ _ _) rfl ⟨rfl, Hb.out⟩
  · go_wp2_with fail
    exact bodyPost_ret (results_tmp rfl _ _ _) rfl ⟨rfl, Hb.out⟩

set_option maxRecDepth 100000 in
set_option maxHeartbeats 2000000 in
theorem lastw_any (l : By) (hl : l.length ≤ 1000000) (w : World) : Calls Tryz.prog 78 #[.string ⟨l.toArray⟩] w fun e w' => e = .returned (.tuple #[.string ⟨(l.take (lastP l)).toArray⟩, .string ⟨(l.drop (lastP l)).toArray⟩]) ∧ Below w.heap.size w w' := by
  have hc := lastb_any l hl w
  have hs1 := slice_take l (lastP l) (last_le l)
  have hs2 := slice_drop l (lastP l) (last_le l)
  have hle := last_le l
  generalize lastP l = k at *
  have hw : IntKind.i64.wrap ((k : Int) - 1 + 1) = k := by rw [IntKind.wrap_i64]; omega
  have Hc := Lib.hid hc; clear hc
  go_enter Tryz.func78, Tryz.ntmps78
  go_wp2_with (go_at_call 97; refine Hc.out.mono ?_; rintro e w2 ⟨rfl, rfl⟩)
  go_region
  go_wp2
  exact bodyPost_ret (results_tmp2 rfl _ _ _) rfl ⟨rfl, below_drew1 (Below.refl _ _)⟩

theorem name_step {s : By} {b : UInt8} {k : Nat} (hb : s[k]? = some b) (h : (s.take k).all nameB = true) : (s.take (k + 1)).all nameB = nameB b := by
  obtain ⟨hk, rfl⟩ := List.getElem?_eq_some_iff.1 hb
  rw [List.take_add_one, List.getElem?_eq_getElem hk, List.all_append, h]
  simp
theorem name_no {s : By} {k : Nat} (h : (s.take k).all nameB = false) : s.all nameB = false := by
  cases h2 : s.all nameB with
  | false => rfl
  | true =>
    rw [List.all_eq_false] at h
    obtain ⟨b, hb, hn⟩ := h
    exact absurd (List.all_eq_true.1 h2 b (List.mem_of_mem_take hb)) hn

set_option maxRecDepth 100000 in
set_option maxHeartbeats 4000000 in
theorem name_any (s : By) (hs : s.length ≤ 1000000) (w : World) : Calls Tryz.prog 51 #[.string ⟨s.toArray⟩] w fun e w' => e = .returned (.bool (isNm s)) ∧ w' = w := by
  have hsz : ((⟨s.toArray⟩ : ByteArray).size : Int) = s.length := by simp [ByteArray.size]
  cases hs0 : s with
  | nil =>
    go_enter Tryz.func51, Tryz.ntmps51
    go_wp2_with fail
    exact bodyPost_ret (results_tmp rfl _ _ _) rfl ⟨rfl, rfl⟩
  | cons b0 r =>
    have t1 : (s == []) = false := by rw [hs0]; rfl
    have hlen : s.length = r.length + 1 := by rw [hs0]; rfl
    have hN : isNm s = (decide (s.length ≤ 16) && isLow b0 && s.all nameB) := by
      have : decide (r.length < 16) = decide (s.length ≤ 16) := decide_eq_decide.2 (by omega)
      rw [hs0] at this ⊢
      rw [isNm, this]
    clear hlen
    have hi0 : ∀ V : World, (Instr.index 9 (.string ⟨s.toArray⟩) (.int .i64 0)).run Tryz.prog V = .ok (.int .u8 (b0.toNat : Int)) V := fun V => index_str (l := s) (k := 0) (b := b0) (by rw [hs0]; rfl) V
    have hL0 := low_any b0
    have HL0 := Lib.hid hL0; clear hL0
    rw [← hs0]
    have Hs0 := Lib.hid hs0; clear hs0
    rw [hN]
    go_enter Tryz.func51, Tryz.ntmps51
    by_cases h16 : s.length ≤ 16
    · have d1 : decide (16 < (s.length : Int)) = false := decide_eq_false (by omega)
      cases hl0 : isLow b0 with
      | false =>
        rw [hl0] at HL0
        clear hN hl0
        go_wp2_with (go_at_call 66; refine (HL0.out _).mono ?_; rintro e w2 ⟨rfl, rfl⟩)
        exact bodyPost_ret (results_tmp rfl _ _ _) rfl ⟨by simp, rfl⟩
      | true =>
        rw [hl0] at HL0
        clear hN hl0
        have D16 := Lib.hid (decide_eq_true h16)
        go_upto_region 3 with (go_at_call 66; refine (HL0.out _).mono ?_; rintro e w2 ⟨rfl, rfl⟩)
        clear HL0 hi0 t1 d1 h16
        go_wp2_with fail
        go_loopw [20] (fun i wr => wr = w2 ∧ ∃ k : Nat, k ≤ s.length ∧ i = .int .i64 k ∧ (s.take k).all nameB = true) (fun i _ => s.length - (intOf i).toNat)
        case atStart => exact ⟨rfl, 0, Nat.zero_le _, rfl, rfl⟩
        case round =>
          obtain ⟨rfl, k, hk, rfl, hall⟩ := hrel
          by_cases hlt : k < s.length
          · obtain ⟨b, hb⟩ : ∃ b, s[k]? = some b := ⟨s[k], List.getElem?_eq_getElem hlt⟩
            have hix := index_str hb
            have hst := name_step hb hall
            have hkk : IntKind.i64.wrap ((k : Int) + 1) = (k : Int) + 1 := by rw [IntKind.wrap_i64]; omega
            have hki : (0 : Int) ≤ k ∧ (k : Int) < s.length := by omega
            have hL := low_any b
            have hD := dig_any b
            have h95 : ((b.toNat : Int) == 95) = (b == 95) := by
              by_cases e : b = 95
              · subst e; rfl
              · have e2 : b.toNat ≠ 95 := fun h => e (UInt8.toNat_inj.1 h)
                rw [beq_eq_false_iff_ne.2 e, beq_eq_false_iff_ne]; omega
            have HAll := Lib.hid hall
            clear hall hb
            obtain ⟨v, hv⟩ : ∃ v, (b.toNat : Int) = v := ⟨_, rfl⟩
            rw [hv] at hix hL hD h95
            cases hl : isLow b with
            | true =>
              have hn : nameB b = true := by unfold nameB; rw [hl]; rfl
              rw [hn] at hst
              rw [hl] at hL
              have HL := Lib.hid hL; clear hL
              have HS := Lib.hid hst
              clear hn hst hl hD h95 hv
              go_wp2_with (go_at_call 66; refine (HL.out _).mono ?_; rintro e w2 ⟨rfl, rfl⟩)
              go_roundw
              case rel => exact ⟨trivial, k + 1, by omega, by simp, HS.out⟩
              case measure => simp [intOf]; omega
            | false =>
              rw [hl] at hL
              have HL := Lib.hid hL; clear hL
              cases hd : isDig b with
              | true =>
                have hn : nameB b = true := by unfold nameB; rw [hd]; simp
                rw [hn] at hst
                rw [hd] at hD
                have HD := Lib.hid hD; clear hD
                have HS := Lib.hid hst
                clear hn hst hl hd h95 hv
                go_wp2_with (first | (go_at_call 66; refine (HL.out _).mono ?_; rintro e w2 ⟨rfl, rfl⟩) | (go_at_call 67; refine (HD.out _).mono ?_; rintro e w2 ⟨rfl, rfl⟩))
                go_roundw
                case rel => exact ⟨trivial, k + 1, by omega, by simp, HS.out⟩
                case measure => simp [intOf]; omega
              | false =>
                rw [hd] at hD
                have HD := Lib.hid hD; clear hD
                cases h9 : b == 95 with
                | true =>
                  have hn : nameB b = true := by unfold nameB; rw [h9]; simp
                  rw [hn] at hst
                  rw [h9] at h95
                  have HS := Lib.hid hst
                  clear hn hst hl hd h9 hv
                  go_wp2_with (first | (go_at_call 66; refine (HL.out _).mono ?_; rintro e w2 ⟨rfl, rfl⟩) | (go_at_call 67; refine (HD.out _).mono ?_; rintro e w2 ⟨rfl, rfl⟩))
                  go_roundw
                  case rel => exact ⟨trivial, k + 1, by omega, by simp, HS.out⟩
                  case measure => simp [intOf]; omega
                | false =>
                  have hn : nameB b = false := by unfold nameB; rw [hl, hd, h9]; rfl
                  rw [hn] at hst
                  rw [h9] at h95
                  have HS := Lib.hid (name_no hst)
                  clear hn hst hl hd h9 hv
                  go_wp2_with (first | (go_at_call 66; refine (HL.out _).mono ?_; rintro e w2 ⟨rfl, rfl⟩) | (go_at_call 67; refine (HD.out _).mono ?_; rintro e w2 ⟨rfl, rfl⟩))
                  exact bodyPost_ret (results_tmp rfl _ _ _) rfl ⟨by rw [HS.out]; simp, rfl⟩
          · obtain rfl : k = s.length := by omega
            rw [List.take_length] at hall
            have HAll := Lib.hid hall; clear hall
            go_wp2_with fail
            exact bodyPost_ret (results_tmp rfl _ _ _) rfl ⟨by rw [HAll.out, D16.out]; rfl, rfl⟩
    · have d1 : decide (16 < (s.length : Int)) = true := decide_eq_true (by omega)
      clear hN
      go_wp2_with fail
      exact bodyPost_ret (results_tmp rfl _ _ _) rfl ⟨by rw [decide_eq_false h16]; rfl, rfl⟩

end Go.Proofs.YteijhcibdglkeaaGreatDoor
