/- The form of an instruction: the row of the table that its line has. Conditions: those stated in each theorem. -/
import Derived.Test.YteijhcibdglkeaaGreatDoorIsaB
namespace Go.Proofs.YteijhcibdglkeaaGreatDoor
open Go.RowKit Go.BigFrame

/-- A number that its line does not lose. -/
def keepP (i : In) (k : Nat) : Bool := i.get k == 0 || hasP (mask i.op.toNat ||| 1) k
/-- The row of the table that says its line. -/
def formP (i : In) : Nat := if legalP i && (List.range 5).all (keepP i) then i.op.toNat else 0
theorem formP_lt (i : In) : formP i < 19 := by
  unfold formP
  split
  · rename_i h
    simp only [legalP, Bool.and_eq_true, decide_eq_true_eq] at h
    omega
  · omega
def rowCells (r : Nat) : List Value := [.string (wordS r), .int .i64 (mask r)]
def rowVal (r : Nat) : Value := .agg #[.string (wordS r), .int .i64 (mask r)]
theorem row_at {w : World} (h : FormsAt w) {r : Nat} (hr : r < 19) : w.rangeAt 0 (r * 2) (rowCells r) := fun k v hv => by
  have := h r hr
  match k, hv with
  | 0, hv => simp only [rowCells, List.getElem?_cons_zero, Option.some.injEq] at hv; subst hv; rw [Nat.add_zero, Nat.mul_comm]; exact this.1
  | 1, hv => simp only [rowCells, List.getElem?_cons_succ, List.getElem?_cons_zero, Option.some.injEq] at hv; subst hv; rw [Nat.mul_comm]; exact this.2
  | k + 2, hv => simp [rowCells] at hv
theorem or1 (r : Nat) : ((mask r ||| 1 : Nat) : Int) = Go.bits .or .i64 1 ((mask r : Nat) : Int) := by
  unfold mask; split <;> decide
theorem or1_lt (r : Nat) : mask r ||| 1 < 32 := by unfold mask; split <;> decide
theorem form_no {i : In} {k : Nat} (hk : k < 5) (h : keepP i k = false) : formP i = 0 := by
  unfold formP
  rw [if_neg]
  simp only [Bool.and_eq_true, List.all_eq_true, not_and]
  exact fun _ h2 => by rw [h2 k (List.mem_range.2 hk)] at h; cases h
theorem form_bad {i : In} (h : legalP i = false) : formP i = 0 := by unfold formP; simp [h]
theorem form_yes {i : In} (h : legalP i = true) (h5 : ∀ k, k < 5 → keepP i k = true) : formP i = i.op.toNat := by
  unfold formP
  rw [if_pos]
  simp only [h, Bool.true_and, List.all_eq_true]
  exact fun k hk => h5 k (List.mem_range.1 hk)


theorem Tryz.sizeForm : (Tryz.prog.info? 71).map (·.size) = some (rowCells 0).toArray.size := by kernel_rfl
theorem oneForm (r : Nat) : (rowCells r).toArray.all (·.oneCell') = true := all_oneCell_toArray (fun v hv => by
  simp only [rowCells, List.mem_cons, List.not_mem_nil, or_false] at hv
  rcases hv with rfl | rfl <;> rfl)
theorem formRet {W : World} {q r : Nat} (h : Holds W q 71 (rowCells r)) : (loadVar 71 ⟨q, 0, none⟩).run Tryz.prog W = .ok (rowVal r) W :=
  run_loadVar_mid _ _ 0 71 (rowCells r) _ h.full Tryz.underlying71 rfl (by kernel_rfl)
theorem setForm {W : World} {q : Nat} {L : List Value} (h : Holds W q 71 L) (hL : L.length = 2) (r : Nat) : Holds (W.setCells q 0 (rowCells r)) q 71 (rowCells r) := by
  have := h.sets (rowCells r) 0
  match L, hL with
  | [_, _], _ => exact this

set_option maxRecDepth 100000 in
set_option maxHeartbeats 2000000 in
theorem formOf_any (i : In) (w : World) (hF : FormsAt w) : Calls Tryz.prog 85 #[i.val] w fun e w' => e = .returned (rowVal (formP i)) ∧ Below w.heap.size w w' := by
  have hlg := fun W (h : FormsAt W) => legal_any i W h
  have HF0 := Lib.hid (hF.below (((Below.refl _ w).alloc (Nat.le_refl _) (.cells #[.int .i64 i.op, .int .i64 i.a, .int .i64 i.b, .int .i64 i.c, .int .i64 i.imm] 43)).alloc (by simp) (.cells #[.string ⟨#[]⟩, .int .i64 0] 71)))
  clear hF
  by_cases hl : legalP i = true
  · obtain ⟨r, hr, hr1, hr2⟩ : ∃ r : Nat, i.op = r ∧ 1 ≤ r ∧ r ≤ 18 := by
      simp only [legalP, Bool.and_eq_true, decide_eq_true_eq] at hl
      exact ⟨i.op.toNat, by omega, by omega, by omega⟩
    rw [hl] at hlg
    have hfy := fun h5 => form_yes hl h5
    have hfn := fun k hk => form_no (i := i) (k := k) hk
    obtain ⟨op, a, b, c, imm⟩ := i
    simp only at hr
    subst hr
    rw [Int.toNat_natCast] at hfy
    have Hlg := Lib.hid hlg; clear hlg
    have Hfy := Lib.hid hfy; clear hfy
    have Hfn := Lib.hid hfn; clear hfn
    clear hl
    have hrr : (0 : Int) ≤ r ∧ (r : Int) < 19 := by omega
    go_enter Tryz.func85, Tryz.ntmps85
    unfold In.val
    go_wp2_with (go_at_call 14; refine (Hlg.out _ HF0.out).mono ?_; rintro e w3 ⟨rfl, hb3⟩; refine Hid.out ?_)
    refine Lib.hid ?_
    have hbw : Below w.heap.size w w3 := (((Below.refl _ w).alloc (Nat.le_refl _) _).alloc (by simp) _).trans (hb3.mono (by simp; omega))
    have hi : Holds w3 w.heap.size 43 [.int .i64 r, .int .i64 a, .int .i64 b, .int .i64 c, .int .i64 imm] := ((Holds.new w 43 [.int .i64 r, .int .i64 a, .int .i64 b, .int .i64 c, .int .i64 imm]).alloc _).below hb3
    have hf : Holds w3 (w.heap.size + 1) 71 [.string ⟨#[]⟩, .int .i64 0] := (newAt (by simp) 71 [.string ⟨#[]⟩, .int .i64 0]).below hb3
    have hF3 := HF0.out.below hb3
    clear hb3 HF0
    have hs3 : w.heap.size + 2 ≤ w3.heap.size := by have := hf.lt; omega
    have q0 : w3.cell? ⟨w.heap.size, 0, none⟩ = some (.int .i64 r) := hi.cell (i := 0) rfl
    have Hrow := Lib.hid (row_at hF3 (r := r) (by omega))
    have Hrow0 := Lib.hid (fun W h => row_at (w := W) h (r := 0) (by omega))
    have Hi := Lib.hid hi; clear hi
    have Hf := Lib.hid hf; clear hf
    have HF3 := Lib.hid hF3; clear hF3
    have Hbw := Lib.hid hbw; clear hbw
    have hnn := fun W => numbersOf_any ⟨r, a, b, c, imm⟩ W
    have Hnn := Lib.hid hnn; clear hnn
    have Hnew := Lib.hid (there_new w3 [.string ⟨#[]⟩, .int .i64 0] 71 2 rfl)
    go_wp2_with (first | (refine wpList_load_mid rfl 43 (.tmp 1) rfl w.heap.size 0 rfl [.int .i64 r, .int .i64 a, .int .i64 b, .int .i64 c, .int .i64 imm] _ ?_ Tryz.underlying43 rfl (by kernel_rfl) ?_; exact (Holds.others (by omega) _ 0 (Hi.out.alloc _)).full) | (refine wpList_load_mid rfl 71 (.tmp 13) rfl 0 (r * 2) rfl (rowCells r) _ ?_ Tryz.underlying71 rfl (by kernel_rfl) ?_; exact Hrow.out) | (refine wpList_store_mid rfl 71 (.tmp 3) (.tmp 14) rfl w3.heap.size 0 (rowCells r).toArray rfl rfl ?_ Tryz.sizeForm (oneForm r) ?_; exact Hnew.out) | (go_at_call 24; refine (Hnn.out _).mono ?_; rintro e w4 ⟨rfl, hb4⟩; refine Hid.out ?_))
    refine Lib.hid ?_
    unfold In.val
    have hff : Holds ((w3.alloc (.cells #[.string ⟨#[]⟩, .int .i64 0] 71)).setCells w3.heap.size 0 (rowCells r)) w3.heap.size 71 (rowCells r) := setForm (Holds.new w3 71 [.string ⟨#[]⟩, .int .i64 0]) rfl r
    have hf4 : Holds ((w3.alloc (.cells #[.string ⟨#[]⟩, .int .i64 0] 71)).setCells w3.heap.size 0 (rowCells r)) (w.heap.size + 1) 71 [.string ⟨#[]⟩, .int .i64 0] := Holds.others (by omega) _ 0 (Hf.out.alloc _)
    have hbw4 : Below w.heap.size w ((w3.alloc (.cells #[.string ⟨#[]⟩, .int .i64 0] 71)).setCells w3.heap.size 0 (rowCells r)) := below_cells (by omega) _ 0 _ (Hbw.out.alloc Hbw.out.size _)
    have hF4 : FormsAt ((w3.alloc (.cells #[.string ⟨#[]⟩, .int .i64 0] 71)).setCells w3.heap.size 0 (rowCells r)) := HF3.out.below (below_cells (Nat.le_refl _) _ 0 _ ((Below.refl _ w3).alloc (Nat.le_refl _) _))
    have hff := hff.below hb4
    have hf4 := hf4.below hb4
    have hbw4 := hbw4.trans (hb4.mono hbw4.size)
    have hF4 := hF4.below hb4
    clear hb4 q0 Hrow Hnew Hi Hf HF3 Hbw Hnn Hlg
    have q1 : w4.cell? ⟨w3.heap.size, 1, none⟩ = some (.int .i64 (mask r)) := hff.cell (i := 1) rfl
    have Hrow1 := Lib.hid (Hrow0.out w4 hF4); clear hF4 Hrow0
    have Hff := Lib.hid hff; clear hff
    have Hf4 := Lib.hid hf4; clear hf4
    have Hbw4 := Lib.hid hbw4; clear hbw4
    go_wp2
    go_loopw [17] (fun i wr => ∃ k : Nat, k ≤ 5 ∧ i = .int .i64 k ∧ (∀ j, j < k → keepP ⟨r, a, b, c, imm⟩ j = true) ∧ wr = w4)
      (fun i _ => 5 - (intOf i).toNat)
    case atStart => exact ⟨0, by omega, by simp, fun j hj => by omega, rfl⟩
    case round =>
      obtain ⟨k, hk, rfl, hall, rfl⟩ := hrel
      have Hall := Lib.hid hall; clear hall
      by_cases hlt : k < 5
      · have hstep : keepP ⟨r, a, b, c, imm⟩ k = true → ∀ j, j < k + 1 → keepP ⟨r, a, b, c, imm⟩ j = true := fun h1 j hj => by
          by_cases hjk : j < k
          · exact Hall.out j hjk
          · obtain rfl : j = k := by omega
            exact h1
        have Hstep := Lib.hid hstep; clear hstep
        have hha := fun W => has_any (mask r ||| 1) k (or1_lt r) hlt W
        rw [or1 r] at hha
        have HHA := Lib.hid hha; clear hha
        have hkp : keepP ⟨r, a, b, c, imm⟩ k = ((In.mk r a b c imm).get k == 0 || hasP (mask r ||| 1) k) := by simp [keepP]
        have Hkp := Lib.hid hkp; clear hkp
        match k, hlt with
        | 0, _ =>
          have ix : ∀ w, (Instr.index 65 (.agg #[.int .i64 r, .int .i64 a, .int .i64 b, .int .i64 c, .int .i64 imm]) (.int .i64 0)).run Tryz.prog w = .ok (.int .i64 (r : Int)) w := fun w => by kernel_rfl
          have ix' : ∀ w, (Instr.index 65 (.agg #[.int .i64 r, .int .i64 a, .int .i64 b, .int .i64 c, .int .i64 imm]) (.int .i64 ((0 : Nat) : Int))).run Tryz.prog w = .ok (.int .i64 (r : Int)) w := fun w => by kernel_rfl
          have hz : (r : Int) ≠ 0 := by omega
          have h0 : hasP (mask r ||| 1) 0 = true := by unfold mask; split <;> decide
          rw [h0] at HHA Hkp
          have Hk2 := Lib.hid (Hstep.out (by rw [Hkp.out]; simp)); clear Hstep Hkp h0
          go_wp2_with (go_at_call 34; refine (HHA.out _).mono ?_; rintro e w5 ⟨rfl, rfl⟩)
          go_roundw
          case rel => exact ⟨1, by omega, by simp, Hk2.out, trivial⟩
          case measure => simp [intOf]
        | 1, _ =>
          have ix : ∀ w, (Instr.index 65 (.agg #[.int .i64 r, .int .i64 a, .int .i64 b, .int .i64 c, .int .i64 imm]) (.int .i64 1)).run Tryz.prog w = .ok (.int .i64 a) w := fun w => by kernel_rfl
          have ix' : ∀ w, (Instr.index 65 (.agg #[.int .i64 r, .int .i64 a, .int .i64 b, .int .i64 c, .int .i64 imm]) (.int .i64 ((1 : Nat) : Int))).run Tryz.prog w = .ok (.int .i64 a) w := fun w => by kernel_rfl
          by_cases hz : a = 0
          · have Hk2 := Lib.hid (Hstep.out (by rw [Hkp.out]; simp [In.get, hz])); clear Hstep Hkp HHA
            subst hz
            go_wp2
            go_roundw
            case rel => exact ⟨2, by omega, by simp, Hk2.out, trivial⟩
            case measure => simp [intOf]
          · cases h0 : hasP (mask r ||| 1) 1 with
            | true =>
              rw [h0] at HHA Hkp
              have Hk2 := Lib.hid (Hstep.out (by rw [Hkp.out]; simp)); clear Hstep Hkp h0
              go_wp2_with (go_at_call 34; refine (HHA.out _).mono ?_; rintro e w5 ⟨rfl, rfl⟩)
              go_roundw
              case rel => exact ⟨2, by omega, by simp, Hk2.out, trivial⟩
              case measure => simp [intOf]
            | false =>
              rw [h0] at HHA Hkp
              have He := Lib.hid (Hfn.out 1 (by omega) (by rw [Hkp.out]; simp [In.get, hz])); clear Hstep Hkp h0
              go_wp2_with (first | (go_at_call 34; refine (HHA.out _).mono ?_; rintro e w5 ⟨rfl, rfl⟩) | (refine wpList_load_mid rfl 71 (.tmp 31) rfl 0 0 rfl (rowCells 0) _ ?_ Tryz.underlying71 rfl (by kernel_rfl) ?_; exact Hrow1.out) | (refine wpList_store_mid rfl 71 (.tmp 2) (.tmp 32) rfl (w.heap.size + 1) 0 (rowCells 0).toArray rfl rfl ?_ Tryz.sizeForm (oneForm 0) ?_; exact Hf4.out.there (Nat.le_refl _)))
              refine bodyPost_ret (results_c rfl rfl (formRet (setForm Hf4.out rfl 0))) rfl ?_
              rw [He.out]
              exact ⟨rfl, below_cells (by omega) _ 0 _ Hbw4.out⟩
        | 2, _ =>
          have ix : ∀ w, (Instr.index 65 (.agg #[.int .i64 r, .int .i64 a, .int .i64 b, .int .i64 c, .int .i64 imm]) (.int .i64 2)).run Tryz.prog w = .ok (.int .i64 b) w := fun w => by kernel_rfl
          have ix' : ∀ w, (Instr.index 65 (.agg #[.int .i64 r, .int .i64 a, .int .i64 b, .int .i64 c, .int .i64 imm]) (.int .i64 ((2 : Nat) : Int))).run Tryz.prog w = .ok (.int .i64 b) w := fun w => by kernel_rfl
          by_cases hz : b = 0
          · have Hk2 := Lib.hid (Hstep.out (by rw [Hkp.out]; simp [In.get, hz])); clear Hstep Hkp HHA
            subst hz
            go_wp2
            go_roundw
            case rel => exact ⟨3, by omega, by simp, Hk2.out, trivial⟩
            case measure => simp [intOf]
          · cases h0 : hasP (mask r ||| 1) 2 with
            | true =>
              rw [h0] at HHA Hkp
              have Hk2 := Lib.hid (Hstep.out (by rw [Hkp.out]; simp)); clear Hstep Hkp h0
              go_wp2_with (go_at_call 34; refine (HHA.out _).mono ?_; rintro e w5 ⟨rfl, rfl⟩)
              go_roundw
              case rel => exact ⟨3, by omega, by simp, Hk2.out, trivial⟩
              case measure => simp [intOf]
            | false =>
              rw [h0] at HHA Hkp
              have He := Lib.hid (Hfn.out 2 (by omega) (by rw [Hkp.out]; simp [In.get, hz])); clear Hstep Hkp h0
              go_wp2_with (first | (go_at_call 34; refine (HHA.out _).mono ?_; rintro e w5 ⟨rfl, rfl⟩) | (refine wpList_load_mid rfl 71 (.tmp 31) rfl 0 0 rfl (rowCells 0) _ ?_ Tryz.underlying71 rfl (by kernel_rfl) ?_; exact Hrow1.out) | (refine wpList_store_mid rfl 71 (.tmp 2) (.tmp 32) rfl (w.heap.size + 1) 0 (rowCells 0).toArray rfl rfl ?_ Tryz.sizeForm (oneForm 0) ?_; exact Hf4.out.there (Nat.le_refl _)))
              refine bodyPost_ret (results_c rfl rfl (formRet (setForm Hf4.out rfl 0))) rfl ?_
              rw [He.out]
              exact ⟨rfl, below_cells (by omega) _ 0 _ Hbw4.out⟩
        | 3, _ =>
          have ix : ∀ w, (Instr.index 65 (.agg #[.int .i64 r, .int .i64 a, .int .i64 b, .int .i64 c, .int .i64 imm]) (.int .i64 3)).run Tryz.prog w = .ok (.int .i64 c) w := fun w => by kernel_rfl
          have ix' : ∀ w, (Instr.index 65 (.agg #[.int .i64 r, .int .i64 a, .int .i64 b, .int .i64 c, .int .i64 imm]) (.int .i64 ((3 : Nat) : Int))).run Tryz.prog w = .ok (.int .i64 c) w := fun w => by kernel_rfl
          by_cases hz : c = 0
          · have Hk2 := Lib.hid (Hstep.out (by rw [Hkp.out]; simp [In.get, hz])); clear Hstep Hkp HHA
            subst hz
            go_wp2
            go_roundw
            case rel => exact ⟨4, by omega, by simp, Hk2.out, trivial⟩
            case measure => simp [intOf]
          · cases h0 : hasP (mask r ||| 1) 3 with
            | true =>
              rw [h0] at HHA Hkp
              have Hk2 := Lib.hid (Hstep.out (by rw [Hkp.out]; simp)); clear Hstep Hkp h0
              go_wp2_with (go_at_call 34; refine (HHA.out _).mono ?_; rintro e w5 ⟨rfl, rfl⟩)
              go_roundw
              case rel => exact ⟨4, by omega, by simp, Hk2.out, trivial⟩
              case measure => simp [intOf]
            | false =>
              rw [h0] at HHA Hkp
              have He := Lib.hid (Hfn.out 3 (by omega) (by rw [Hkp.out]; simp [In.get, hz])); clear Hstep Hkp h0
              go_wp2_with (first | (go_at_call 34; refine (HHA.out _).mono ?_; rintro e w5 ⟨rfl, rfl⟩) | (refine wpList_load_mid rfl 71 (.tmp 31) rfl 0 0 rfl (rowCells 0) _ ?_ Tryz.underlying71 rfl (by kernel_rfl) ?_; exact Hrow1.out) | (refine wpList_store_mid rfl 71 (.tmp 2) (.tmp 32) rfl (w.heap.size + 1) 0 (rowCells 0).toArray rfl rfl ?_ Tryz.sizeForm (oneForm 0) ?_; exact Hf4.out.there (Nat.le_refl _)))
              refine bodyPost_ret (results_c rfl rfl (formRet (setForm Hf4.out rfl 0))) rfl ?_
              rw [He.out]
              exact ⟨rfl, below_cells (by omega) _ 0 _ Hbw4.out⟩
        | 4, _ =>
          have ix : ∀ w, (Instr.index 65 (.agg #[.int .i64 r, .int .i64 a, .int .i64 b, .int .i64 c, .int .i64 imm]) (.int .i64 4)).run Tryz.prog w = .ok (.int .i64 imm) w := fun w => by kernel_rfl
          have ix' : ∀ w, (Instr.index 65 (.agg #[.int .i64 r, .int .i64 a, .int .i64 b, .int .i64 c, .int .i64 imm]) (.int .i64 ((4 : Nat) : Int))).run Tryz.prog w = .ok (.int .i64 imm) w := fun w => by kernel_rfl
          by_cases hz : imm = 0
          · have Hk2 := Lib.hid (Hstep.out (by rw [Hkp.out]; simp [In.get, hz])); clear Hstep Hkp HHA
            subst hz
            go_wp2
            go_roundw
            case rel => exact ⟨5, by omega, by simp, Hk2.out, trivial⟩
            case measure => simp [intOf]
          · cases h0 : hasP (mask r ||| 1) 4 with
            | true =>
              rw [h0] at HHA Hkp
              have Hk2 := Lib.hid (Hstep.out (by rw [Hkp.out]; simp)); clear Hstep Hkp h0
              go_wp2_with (go_at_call 34; refine (HHA.out _).mono ?_; rintro e w5 ⟨rfl, rfl⟩)
              go_roundw
              case rel => exact ⟨5, by omega, by simp, Hk2.out, trivial⟩
              case measure => simp [intOf]
            | false =>
              rw [h0] at HHA Hkp
              have He := Lib.hid (Hfn.out 4 (by omega) (by rw [Hkp.out]; simp [In.get, hz])); clear Hstep Hkp h0
              go_wp2_with (first | (go_at_call 34; refine (HHA.out _).mono ?_; rintro e w5 ⟨rfl, rfl⟩) | (refine wpList_load_mid rfl 71 (.tmp 31) rfl 0 0 rfl (rowCells 0) _ ?_ Tryz.underlying71 rfl (by kernel_rfl) ?_; exact Hrow1.out) | (refine wpList_store_mid rfl 71 (.tmp 2) (.tmp 32) rfl (w.heap.size + 1) 0 (rowCells 0).toArray rfl rfl ?_ Tryz.sizeForm (oneForm 0) ?_; exact Hf4.out.there (Nat.le_refl _)))
              refine bodyPost_ret (results_c rfl rfl (formRet (setForm Hf4.out rfl 0))) rfl ?_
              rw [He.out]
              exact ⟨rfl, below_cells (by omega) _ 0 _ Hbw4.out⟩
      · obtain rfl : k = 5 := by omega
        go_wp2_with (first | (refine wpList_load_mid rfl 71 (.tmp 3) rfl w3.heap.size 0 rfl (rowCells r) _ ?_ Tryz.underlying71 rfl (by kernel_rfl) ?_; exact Hff.out.full) | (refine wpList_store_mid rfl 71 (.tmp 2) (.tmp 34) rfl (w.heap.size + 1) 0 (rowCells r).toArray rfl rfl ?_ Tryz.sizeForm (oneForm r) ?_; exact Hf4.out.there (Nat.le_refl _)))
        refine bodyPost_ret (results_c rfl rfl (formRet (setForm Hf4.out rfl r))) rfl ?_
        rw [Hfy.out (fun k hk => Hall.out k hk)]
        exact ⟨rfl, below_cells (by omega) _ 0 _ Hbw4.out⟩
  · have hl' : legalP i = false := by simpa using hl
    rw [hl'] at hlg
    rw [form_bad hl']
    obtain ⟨op, a, b, c, imm⟩ := i
    have Hlg := Lib.hid hlg; clear hlg
    clear hl hl'
    go_enter Tryz.func85, Tryz.ntmps85
    unfold In.val
    go_wp2_with (go_at_call 14; refine (Hlg.out _ HF0.out).mono ?_; rintro e w3 ⟨rfl, hb3⟩; refine Hid.out ?_)
    refine Lib.hid ?_
    have hbw : Below w.heap.size w w3 := (((Below.refl _ w).alloc (Nat.le_refl _) _).alloc (by simp) _).trans (hb3.mono (by simp; omega))
    have hf : Holds w3 (w.heap.size + 1) 71 [.string ⟨#[]⟩, .int .i64 0] := (newAt (by simp) 71 [.string ⟨#[]⟩, .int .i64 0]).below hb3
    have Hrow1 := Lib.hid (row_at (HF0.out.below hb3) (r := 0) (by omega))
    have Hf4 := Lib.hid hf; clear hf
    have Hbw4 := Lib.hid hbw; clear hbw hb3 HF0
    go_wp2_with (first | (refine wpList_load_mid rfl 71 (.tmp 9) rfl 0 0 rfl (rowCells 0) _ ?_ Tryz.underlying71 rfl (by kernel_rfl) ?_; exact Hrow1.out) | (refine wpList_store_mid rfl 71 (.tmp 2) (.tmp 10) rfl (w.heap.size + 1) 0 (rowCells 0).toArray rfl rfl ?_ Tryz.sizeForm (oneForm 0) ?_; exact Hf4.out.there (Nat.le_refl _)))
    refine bodyPost_ret (results_c rfl rfl (formRet (setForm Hf4.out rfl 0))) rfl ?_
    exact ⟨rfl, below_cells (by omega) _ 0 _ Hbw4.out⟩

end Go.Proofs.YteijhcibdglkeaaGreatDoor

