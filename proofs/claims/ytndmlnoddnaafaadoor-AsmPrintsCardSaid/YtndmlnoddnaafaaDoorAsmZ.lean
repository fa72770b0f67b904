/- Where an instruction goes, by the document. Conditions: those stated in each theorem. -/
import Derived.Test.YtndmlnoddnaafaaDoorLinD0
import Derived.Test.YtndmlnoddnaafaaDoorAsmB
import Derived.Test.YtndmlnoddnaafaaDoorAsmX
import Derived.Deep.CutBlock
namespace Go.Proofs.YtndmlnoddnaafaaDoor
open Go.RowKit Go.BigFrame

theorem head_forms : ∀ r : Fin 19, r.val ≠ 0 → ((decide (13 ≤ r.val) && decide (r.val ≤ 16)) && ((word r.val).getD 0 0 != 114)) = (word r.val == [106, 117, 109, 112] || word r.val == [101, 113] || word r.val == [110, 101] || word r.val == [108, 116]) := by decide
theorem word_some : ∀ r : Fin 19, word r.val ≠ [] := by decide
theorem goes_head (i : In) : ∃ b, (textP i)[0]? = some b ∧ (((decide (13 ≤ i.op) && decide (i.op ≤ 16)) && legalP i) && (b != 114)) = goesP (textP i) := by
  have hw : word (formP i) ≠ [] := word_some ⟨formP i, formP_lt i⟩
  obtain ⟨b, t, hbt⟩ := List.exists_cons_of_ne_nil hw
  have hg : goesP (textP i) = (word (formP i) == [106, 117, 109, 112] || word (formP i) == [101, 113] || word (formP i) == [110, 101] || word (formP i) == [108, 116]) := by unfold goesP; rw [bef_text]
  refine ⟨b, by unfold textP; rw [hbt]; rfl, ?_⟩
  rw [hg]
  by_cases hf : formP i = 0
  · rw [hf] at hbt ⊢
    have h0 : word 0 = [114, 97, 119] := rfl
    rw [h0] at hbt
    injection hbt with e1 e2
    subst e1
    rw [h0]
    simp
  · have hl : legalP i = true := by
      cases h : legalP i with
      | true => rfl
      | false => exact absurd (form_bad h) hf
    have hop : formP i = i.op.toNat := by
      unfold formP at hf ⊢
      split
      · rfl
      · rename_i h; rw [if_neg h] at hf; exact absurd rfl hf
    have key := head_forms ⟨formP i, formP_lt i⟩ hf
    simp only at key
    have hb : (word (formP i)).getD 0 0 = b := by rw [hbt]; rfl
    rw [hb] at key
    rw [← key, hl, Bool.and_true]
    have e1 : decide (13 ≤ i.op) = decide (13 ≤ formP i) := decide_eq_decide.2 (by omega)
    have e2 : decide (i.op ≤ 16) = decide (formP i ≤ 16) := decide_eq_decide.2 (by omega)
    rw [e1, e2]

theorem rgoes_any (op : Int) (w : World) : Calls Tryd.prog 30 #[.int .i64 op] w fun e w' => e = .returned (.bool (decide (13 ≤ op) && decide (op ≤ 16))) ∧ w = w' := by
  by_cases h : 13 ≤ op
  · have d1 : decide (13 ≤ op) = true := decide_eq_true h
    go_enter Tryd.func30, Tryd.ntmps30
    go_wp2_with fail
    exact bodyPost_ret (results_tmp rfl _ _ _) rfl ⟨by rw [d1]; rfl, rfl⟩
  · have d1 : decide (13 ≤ op) = false := decide_eq_false h
    go_enter Tryd.func30, Tryd.ntmps30
    go_wp2_with fail
    exact bodyPost_ret (results_tmp rfl _ _ _) rfl ⟨by first | rfl | (simp [d1]; done), rfl⟩

set_option maxRecDepth 100000 in
set_option maxHeartbeats 2000000 in
theorem target_any (i : In) (hi : i.Ok) (n : Nat) (z : Int) (hz : z = n) (w : World) : Calls Tryd.prog 18 #[i.val, .int .i64 z] w fun e w' => e = .returned (.tuple #[.int .i64 i.imm, .bool (goesI n i)]) ∧ Below w.heap.size w w' := by
  obtain ⟨b, hb0, hgo⟩ := goes_head i
  have ht := fun V => rtext_any i hi V
  have hl := fun V => rlegal_any i V
  have hix := fun V => index_str (k := 0) hb0 V
  have hgi : goesI n i = (goesP (textP i) && (decide (0 ≤ i.imm) && decide (i.imm ≤ z))) := by rw [hz]; rfl
  rw [hgi, ← hgo]
  clear hb0 hgo hgi hz hi
  obtain ⟨op, xa, xb, xc, xi⟩ := i
  simp only [In.val] at ht hl ⊢
  generalize textP ⟨op, xa, xb, xc, xi⟩ = tx at *
  generalize legalP ⟨op, xa, xb, xc, xi⟩ = lg at *
  have hg := fun V => rgoes_any op V
  generalize (decide (13 ≤ op) && decide (op ≤ 16)) = gs at *
  have h114 : ((b.toNat : Int) != 114) = (b != 114) := by
    by_cases e : b = 114
    · subst e; rfl
    · have e2 : b.toNat ≠ 114 := fun h => e (UInt8.toNat_inj.1 h)
      have e3 : ((b.toNat : Int) == 114) = false := by rw [beq_eq_false_iff_ne]; omega
      simp only [bne, e3, beq_eq_false_iff_ne.2 e]
  generalize (b != 114) = nb at *
  simp only [Int.natCast_zero] at hix
  generalize (b.toNat : Int) = v at *
  have Ht := Lib.hid ht; clear ht
  have Hl := Lib.hid hl; clear hl
  have Hg := Lib.hid hg; clear hg
  go_enter Tryd.func18, Tryd.ntmps18
  have q0 : Holds (w.alloc (.cells #[.int .i64 op, .int .i64 xa, .int .i64 xb, .int .i64 xc, .int .i64 xi] 44)) w.heap.size 44 [.int .i64 op, .int .i64 xa, .int .i64 xb, .int .i64 xc, .int .i64 xi] := Holds.new w 44 _
  have b0 : Below w.heap.size w (w.alloc (.cells #[.int .i64 op, .int .i64 xa, .int .i64 xb, .int .i64 xc, .int .i64 xi] 44)) := (Below.refl _ w).alloc (Nat.le_refl _) _
  have Q0 := Lib.hid q0; clear q0
  have B0 := Lib.hid b0; clear b0
  go_wp2_with fail
  refine (Ht.out _).mono ?_
  rintro e w2 ⟨rfl, hb2⟩
  have q2 := Q0.out.below hb2
  have c20 := q2.cell (i := 0) rfl
  have c21 := q2.cell (i := 1) rfl
  have c22 := q2.cell (i := 2) rfl
  have c23 := q2.cell (i := 3) rfl
  have c24 := q2.cell (i := 4) rfl
  have B2 := Lib.hid (B0.out.trans (hb2.mono B0.out.size)); clear hb2
  have Q2 := Lib.hid q2; clear q2
  go_wp2_with fail
  refine (Hg.out _).mono ?_
  rintro e w3 ⟨rfl, rfl⟩
  go_wp2_with fail
  refine (Hl.out _).mono ?_
  rintro e w4 ⟨rfl, hb4⟩
  have c44 := (Q2.out.below hb4).cell (i := 4) rfl
  have B4 := Lib.hid (B2.out.trans (hb4.mono B2.out.size)); clear hb4 c20 c21 c22 c23 c24
  go_upto_region 4 with fail
  cases gs
  · go_quiet (fail)
    go_wp2_with fail
    exact bodyPost_ret (results_tmp2 rfl _ _ _) rfl ⟨by simp, below_drewN B4.out _⟩
  cases lg
  · go_quiet (fail)
    go_wp2_with fail
    exact bodyPost_ret (results_tmp2 rfl _ _ _) rfl ⟨by simp, below_drewN B4.out _⟩
  cases nb
  · go_quiet (fail)
    go_wp2_with fail
    exact bodyPost_ret (results_tmp2 rfl _ _ _) rfl ⟨by simp, below_drewN B4.out _⟩
  by_cases h0 : 0 ≤ xi
  · have d0 : decide (0 ≤ xi) = true := decide_eq_true h0
    go_quiet (fail)
    go_wp2_with fail
    exact bodyPost_ret (results_tmp2 rfl _ _ _) rfl ⟨by simp [d0], below_drewN B4.out _⟩
  · have d0 : decide (0 ≤ xi) = false := decide_eq_false h0
    go_quiet (fail)
    go_wp2_with fail
    exact bodyPost_ret (results_tmp2 rfl _ _ _) rfl ⟨by simp [d0], below_drewN B4.out _⟩

end Go.Proofs.YtndmlnoddnaafaaDoor
