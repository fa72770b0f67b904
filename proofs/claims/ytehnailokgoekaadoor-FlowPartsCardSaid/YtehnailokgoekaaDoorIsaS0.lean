/- The document's own Legal. Conditions: those stated in each theorem. -/
import Derived.Test.YtehnailokgoekaaDoorIsaR0
namespace Go.Proofs.YtehnailokgoekaaDoor
open Go.RowKit Go.BigFrame

def regB (n : Int) : Bool := decide (0 ≤ n) && decide (n < 8)

set_option maxRecDepth 100000 in
set_option maxHeartbeats 2000000 in
theorem rlegal_of (op a b c imm : Int) (A B C I : Bool) (s : ByteArray) (w : World)
    (hS : ∀ W, Calls Tryd.prog 34 #[.int .i64 op] W fun e w' => e = .returned (.tuple #[.agg #[.string s, .bool A, .bool B, .bool C, .bool I], .bool true]) ∧ Below W.heap.size W w') :
    Calls Tryd.prog 25 #[(In.mk op a b c imm).val] w fun e w' => e = .returned (.bool ((!A || regB a) && (!B || regB b) && (!C || regB c))) ∧ Below w.heap.size w w' := by
  have ra := fun W => register_any a W
  have rb := fun W => register_any b W
  have rc := fun W => register_any c W
  change ∀ W, Calls _ _ _ W fun e w' => e = .returned (.bool (regB a)) ∧ W = w' at ra
  change ∀ W, Calls _ _ _ W fun e w' => e = .returned (.bool (regB b)) ∧ W = w' at rb
  change ∀ W, Calls _ _ _ W fun e w' => e = .returned (.bool (regB c)) ∧ W = w' at rc
  have HS := Lib.hid hS; clear hS
  generalize regB a = ka at *
  generalize regB b = kb at *
  generalize regB c = kc at *
  have Ra := Lib.hid ra; clear ra
  have Rb := Lib.hid rb; clear rb
  have Rc := Lib.hid rc; clear rc
  go_enter Tryd.func25, Tryd.ntmps25
  unfold In.val
  go_wp2_with (go_at_call 34; refine (HS.out _).mono ?_; rintro e w2 ⟨rfl, hb2⟩; refine Hid.out ?_)
  refine Lib.hid ?_
  have b0 : ∀ o, Holds (w2.alloc o) w.heap.size 53 (In.cells ⟨op, a, b, c, imm⟩) := fun o => ((Holds.new w 53 (In.cells ⟨op, a, b, c, imm⟩)).below hb2).alloc o
  have c1 := fun o => (b0 o).cell (i := 1) rfl
  have c2 := fun o => (b0 o).cell (i := 2) rfl
  have c3 := fun o => (b0 o).cell (i := 3) rfl
  have hb : Below w.heap.size w w2 := ((Below.refl _ w).alloc (Nat.le_refl _) _).trans (hb2.mono (by simp))
  have Hb := Lib.hid hb; clear hb hb2 b0
  cases A <;> cases B <;> cases C
  · go_wp2_with (first | (go_at_call 35; (with_reducible refine (Ra.out _).mono ?_); rintro e w3 ⟨rfl, rfl⟩) | (go_at_call 35; (with_reducible refine (Rb.out _).mono ?_); rintro e w3 ⟨rfl, rfl⟩) | (go_at_call 35; (with_reducible refine (Rc.out _).mono ?_); rintro e w3 ⟨rfl, rfl⟩))
    refine bodyPost_ret (results_tmp rfl _ _ _) rfl ⟨rfl, Hb.out.alloc Hb.out.size _⟩
  · cases kc with
    | false =>
      go_wp2_with (first | (go_at_call 35; (with_reducible refine (Ra.out _).mono ?_); rintro e w3 ⟨rfl, rfl⟩) | (go_at_call 35; (with_reducible refine (Rb.out _).mono ?_); rintro e w3 ⟨rfl, rfl⟩) | (go_at_call 35; (with_reducible refine (Rc.out _).mono ?_); rintro e w3 ⟨rfl, rfl⟩))
      refine bodyPost_ret (results_tmp rfl _ _ _) rfl ⟨rfl, Hb.out.alloc Hb.out.size _⟩
    | true =>
      go_wp2_with (first | (go_at_call 35; (with_reducible refine (Ra.out _).mono ?_); rintro e w3 ⟨rfl, rfl⟩) | (go_at_call 35; (with_reducible refine (Rb.out _).mono ?_); rintro e w3 ⟨rfl, rfl⟩) | (go_at_call 35; (with_reducible refine (Rc.out _).mono ?_); rintro e w3 ⟨rfl, rfl⟩))
      refine bodyPost_ret (results_tmp rfl _ _ _) rfl ⟨rfl, Hb.out.alloc Hb.out.size _⟩
  · cases kb with
    | false =>
      go_wp2_with (first | (go_at_call 35; (with_reducible refine (Ra.out _).mono ?_); rintro e w3 ⟨rfl, rfl⟩) | (go_at_call 35; (with_reducible refine (Rb.out _).mono ?_); rintro e w3 ⟨rfl, rfl⟩) | (go_at_call 35; (with_reducible refine (Rc.out _).mono ?_); rintro e w3 ⟨rfl, rfl⟩))
      refine bodyPost_ret (results_tmp rfl _ _ _) rfl ⟨rfl, Hb.out.alloc Hb.out.size _⟩
    | true =>
      go_wp2_with (first | (go_at_call 35; (with_reducible refine (Ra.out _).mono ?_); rintro e w3 ⟨rfl, rfl⟩) | (go_at_call 35; (with_reducible refine (Rb.out _).mono ?_); rintro e w3 ⟨rfl, rfl⟩) | (go_at_call 35; (with_reducible refine (Rc.out _).mono ?_); rintro e w3 ⟨rfl, rfl⟩))
      refine bodyPost_ret (results_tmp rfl _ _ _) rfl ⟨rfl, Hb.out.alloc Hb.out.size _⟩
  · cases kb with
    | false =>
      go_wp2_with (first | (go_at_call 35; (with_reducible refine (Ra.out _).mono ?_); rintro e w3 ⟨rfl, rfl⟩) | (go_at_call 35; (with_reducible refine (Rb.out _).mono ?_); rintro e w3 ⟨rfl, rfl⟩) | (go_at_call 35; (with_reducible refine (Rc.out _).mono ?_); rintro e w3 ⟨rfl, rfl⟩))
      refine bodyPost_ret (results_tmp rfl _ _ _) rfl ⟨rfl, Hb.out.alloc Hb.out.size _⟩
    | true =>
      cases kc with
      | false =>
        go_wp2_with (first | (go_at_call 35; (with_reducible refine (Ra.out _).mono ?_); rintro e w3 ⟨rfl, rfl⟩) | (go_at_call 35; (with_reducible refine (Rb.out _).mono ?_); rintro e w3 ⟨rfl, rfl⟩) | (go_at_call 35; (with_reducible refine (Rc.out _).mono ?_); rintro e w3 ⟨rfl, rfl⟩))
        refine bodyPost_ret (results_tmp rfl _ _ _) rfl ⟨rfl, Hb.out.alloc Hb.out.size _⟩
      | true =>
        go_wp2_with (first | (go_at_call 35; (with_reducible refine (Ra.out _).mono ?_); rintro e w3 ⟨rfl, rfl⟩) | (go_at_call 35; (with_reducible refine (Rb.out _).mono ?_); rintro e w3 ⟨rfl, rfl⟩) | (go_at_call 35; (with_reducible refine (Rc.out _).mono ?_); rintro e w3 ⟨rfl, rfl⟩))
        refine bodyPost_ret (results_tmp rfl _ _ _) rfl ⟨rfl, Hb.out.alloc Hb.out.size _⟩
  · cases ka with
    | false =>
      go_wp2_with (first | (go_at_call 35; (with_reducible refine (Ra.out _).mono ?_); rintro e w3 ⟨rfl, rfl⟩) | (go_at_call 35; (with_reducible refine (Rb.out _).mono ?_); rintro e w3 ⟨rfl, rfl⟩) | (go_at_call 35; (with_reducible refine (Rc.out _).mono ?_); rintro e w3 ⟨rfl, rfl⟩))
      refine bodyPost_ret (results_tmp rfl _ _ _) rfl ⟨rfl, Hb.out.alloc Hb.out.size _⟩
    | true =>
      go_wp2_with (first | (go_at_call 35; (with_reducible refine (Ra.out _).mono ?_); rintro e w3 ⟨rfl, rfl⟩) | (go_at_call 35; (with_reducible refine (Rb.out _).mono ?_); rintro e w3 ⟨rfl, rfl⟩) | (go_at_call 35; (with_reducible refine (Rc.out _).mono ?_); rintro e w3 ⟨rfl, rfl⟩))
      refine bodyPost_ret (results_tmp rfl _ _ _) rfl ⟨rfl, Hb.out.alloc Hb.out.size _⟩
  · cases ka with
    | false =>
      go_wp2_with (first | (go_at_call 35; (with_reducible refine (Ra.out _).mono ?_); rintro e w3 ⟨rfl, rfl⟩) | (go_at_call 35; (with_reducible refine (Rb.out _).mono ?_); rintro e w3 ⟨rfl, rfl⟩) | (go_at_call 35; (with_reducible refine (Rc.out _).mono ?_); rintro e w3 ⟨rfl, rfl⟩))
      refine bodyPost_ret (results_tmp rfl _ _ _) rfl ⟨rfl, Hb.out.alloc Hb.out.size _⟩
    | true =>
      cases kc with
      | false =>
        go_wp2_with (first | (go_at_call 35; (with_reducible refine (Ra.out _).mono ?_); rintro e w3 ⟨rfl, rfl⟩) | (go_at_call 35; (with_reducible refine (Rb.out _).mono ?_); rintro e w3 ⟨rfl, rfl⟩) | (go_at_call 35; (with_reducible refine (Rc.out _).mono ?_); rintro e w3 ⟨rfl, rfl⟩))
        refine bodyPost_ret (results_tmp rfl _ _ _) rfl ⟨rfl, Hb.out.alloc Hb.out.size _⟩
      | true =>
        go_wp2_with (first | (go_at_call 35; (with_reducible refine (Ra.out _).mono ?_); rintro e w3 ⟨rfl, rfl⟩) | (go_at_call 35; (with_reducible refine (Rb.out _).mono ?_); rintro e w3 ⟨rfl, rfl⟩) | (go_at_call 35; (with_reducible refine (Rc.out _).mono ?_); rintro e w3 ⟨rfl, rfl⟩))
        refine bodyPost_ret (results_tmp rfl _ _ _) rfl ⟨rfl, Hb.out.alloc Hb.out.size _⟩
  · cases ka with
    | false =>
      go_wp2_with (first | (go_at_call 35; (with_reducible refine (Ra.out _).mono ?_); rintro e w3 ⟨rfl, rfl⟩) | (go_at_call 35; (with_reducible refine (Rb.out _).mono ?_); rintro e w3 ⟨rfl, rfl⟩) | (go_at_call 35; (with_reducible refine (Rc.out _).mono ?_); rintro e w3 ⟨rfl, rfl⟩))
      refine bodyPost_ret (results_tmp rfl _ _ _) rfl ⟨rfl, Hb.out.alloc Hb.out.size _⟩
    | true =>
      cases kb with
      | false =>
        go_wp2_with (first | (go_at_call 35; (with_reducible refine (Ra.out _).mono ?_); rintro e w3 ⟨rfl, rfl⟩) | (go_at_call 35; (with_reducible refine (Rb.out _).mono ?_); rintro e w3 ⟨rfl, rfl⟩) | (go_at_call 35; (with_reducible refine (Rc.out _).mono ?_); rintro e w3 ⟨rfl, rfl⟩))
        refine bodyPost_ret (results_tmp rfl _ _ _) rfl ⟨rfl, Hb.out.alloc Hb.out.size _⟩
      | true =>
        go_wp2_with (first | (go_at_call 35; (with_reducible refine (Ra.out _).mono ?_); rintro e w3 ⟨rfl, rfl⟩) | (go_at_call 35; (with_reducible refine (Rb.out _).mono ?_); rintro e w3 ⟨rfl, rfl⟩) | (go_at_call 35; (with_reducible refine (Rc.out _).mono ?_); rintro e w3 ⟨rfl, rfl⟩))
        refine bodyPost_ret (results_tmp rfl _ _ _) rfl ⟨rfl, Hb.out.alloc Hb.out.size _⟩
  · cases ka with
    | false =>
      go_wp2_with (first | (go_at_call 35; (with_reducible refine (Ra.out _).mono ?_); rintro e w3 ⟨rfl, rfl⟩) | (go_at_call 35; (with_reducible refine (Rb.out _).mono ?_); rintro e w3 ⟨rfl, rfl⟩) | (go_at_call 35; (with_reducible refine (Rc.out _).mono ?_); rintro e w3 ⟨rfl, rfl⟩))
      refine bodyPost_ret (results_tmp rfl _ _ _) rfl ⟨rfl, Hb.out.alloc Hb.out.size _⟩
    | true =>
      cases kb with
      | false =>
        go_wp2_with (first | (go_at_call 35; (with_reducible refine (Ra.out _).mono ?_); rintro e w3 ⟨rfl, rfl⟩) | (go_at_call 35; (with_reducible refine (Rb.out _).mono ?_); rintro e w3 ⟨rfl, rfl⟩) | (go_at_call 35; (with_reducible refine (Rc.out _).mono ?_); rintro e w3 ⟨rfl, rfl⟩))
        refine bodyPost_ret (results_tmp rfl _ _ _) rfl ⟨rfl, Hb.out.alloc Hb.out.size _⟩
      | true =>
        cases kc with
        | false =>
          go_wp2_with (first | (go_at_call 35; (with_reducible refine (Ra.out _).mono ?_); rintro e w3 ⟨rfl, rfl⟩) | (go_at_call 35; (with_reducible refine (Rb.out _).mono ?_); rintro e w3 ⟨rfl, rfl⟩) | (go_at_call 35; (with_reducible refine (Rc.out _).mono ?_); rintro e w3 ⟨rfl, rfl⟩))
          refine bodyPost_ret (results_tmp rfl _ _ _) rfl ⟨rfl, Hb.out.alloc Hb.out.size _⟩
        | true =>
          go_wp2_with (first | (go_at_call 35; (with_reducible refine (Ra.out _).mono ?_); rintro e w3 ⟨rfl, rfl⟩) | (go_at_call 35; (with_reducible refine (Rb.out _).mono ?_); rintro e w3 ⟨rfl, rfl⟩) | (go_at_call 35; (with_reducible refine (Rc.out _).mono ?_); rintro e w3 ⟨rfl, rfl⟩))
          refine bodyPost_ret (results_tmp rfl _ _ _) rfl ⟨rfl, Hb.out.alloc Hb.out.size _⟩

theorem rlegal_any (i : In) (w : World) : Calls Tryd.prog 25 #[i.val] w fun e w' => e = .returned (.bool (legalP i)) ∧ Below w.heap.size w w' := by
  obtain ⟨op, a, b, c, imm⟩ := i
  by_cases h : 1 ≤ op ∧ op ≤ 18
  · obtain ⟨r, hr⟩ : ∃ r : Nat, op = r := ⟨op.toNat, by omega⟩
    subst hr
    have hl : legalP ⟨r, a, b, c, imm⟩ = ((!hasP (mask r) 1 || regB a) && (!hasP (mask r) 2 || regB b) && (!hasP (mask r) 3 || regB c)) := by
      have h1 : 1 ≤ r := by omega
      have h2 : r ≤ 18 := by omega
      clear h
      match r, h1, h2 with
      | 1, _, _ => simp [legalP, regPl, mask, placesP, hasP, regOk, regB, In.get, List.range_succ, Bool.and_assoc]
      | 2, _, _ => simp [legalP, regPl, mask, placesP, hasP, regOk, regB, In.get, List.range_succ, Bool.and_assoc]
      | 3, _, _ => simp [legalP, regPl, mask, placesP, hasP, regOk, regB, In.get, List.range_succ, Bool.and_assoc]
      | 4, _, _ => simp [legalP, regPl, mask, placesP, hasP, regOk, regB, In.get, List.range_succ, Bool.and_assoc]
      | 5, _, _ => simp [legalP, regPl, mask, placesP, hasP, regOk, regB, In.get, List.range_succ, Bool.and_assoc]
      | 6, _, _ => simp [legalP, regPl, mask, placesP, hasP, regOk, regB, In.get, List.range_succ, Bool.and_assoc]
      | 7, _, _ => simp [legalP, regPl, mask, placesP, hasP, regOk, regB, In.get, List.range_succ, Bool.and_assoc]
      | 8, _, _ => simp [legalP, regPl, mask, placesP, hasP, regOk, regB, In.get, List.range_succ, Bool.and_assoc]
      | 9, _, _ => simp [legalP, regPl, mask, placesP, hasP, regOk, regB, In.get, List.range_succ, Bool.and_assoc]
      | 10, _, _ => simp [legalP, regPl, mask, placesP, hasP, regOk, regB, In.get, List.range_succ, Bool.and_assoc]
      | 11, _, _ => simp [legalP, regPl, mask, placesP, hasP, regOk, regB, In.get, List.range_succ, Bool.and_assoc]
      | 12, _, _ => simp [legalP, regPl, mask, placesP, hasP, regOk, regB, In.get, List.range_succ, Bool.and_assoc]
      | 13, _, _ => simp [legalP, regPl, mask, placesP, hasP, regOk, regB, In.get, List.range_succ, Bool.and_assoc]
      | 14, _, _ => simp [legalP, regPl, mask, placesP, hasP, regOk, regB, In.get, List.range_succ, Bool.and_assoc]
      | 15, _, _ => simp [legalP, regPl, mask, placesP, hasP, regOk, regB, In.get, List.range_succ, Bool.and_assoc]
      | 16, _, _ => simp [legalP, regPl, mask, placesP, hasP, regOk, regB, In.get, List.range_succ, Bool.and_assoc]
      | 17, _, _ => simp [legalP, regPl, mask, placesP, hasP, regOk, regB, In.get, List.range_succ, Bool.and_assoc]
      | 18, _, _ => simp [legalP, regPl, mask, placesP, hasP, regOk, regB, In.get, List.range_succ, Bool.and_assoc]
      | r + 19, _, h => omega
    rw [hl]
    exact rlegal_of r a b c imm _ _ _ _ _ w (fun W => shape_any r (by omega) (by omega) W)
  · have hl : legalP ⟨op, a, b, c, imm⟩ = false := by
      simp only [legalP, Bool.and_eq_false_iff, decide_eq_false_iff_not]
      exact .inl (by omega)
    rw [hl]
    have HS := Lib.hid (fun W => shape_none op (by omega) W)
    clear hl h
    go_enter Tryd.func25, Tryd.ntmps25
    unfold In.val
    go_wp2_with (go_at_call 34; refine (HS.out _).mono ?_; rintro e w2 ⟨rfl, hb2⟩; refine Hid.out ?_)
    refine Lib.hid ?_
    have hb : Below w.heap.size w w2 := ((Below.refl _ w).alloc (Nat.le_refl _) _).trans (hb2.mono (by simp))
    have Hb := Lib.hid hb; clear hb hb2
    unfold noShape
    go_wp2
    refine bodyPost_ret (results_tmp rfl _ _ _) rfl ⟨rfl, Hb.out.alloc Hb.out.size _⟩

end Go.Proofs.YtehnailokgoekaaDoor
