/- Whether an instruction is legal. Conditions: those stated in each theorem. -/
import Derived.Test.YteijhcibdglkeaaGreatDoorIsaA
namespace Go.Proofs.YteijhcibdglkeaaGreatDoor
open Go.RowKit Go.BigFrame
attribute [local go_sem] Oper.semAt_some
attribute [local simp] wide_fn

/-- Between two rounds: all named registers ahead are in range. -/
def LgI (i : In) (B n0 : Nat) (W0 : World) (pre : List Nat) (W : World) : Prop := (Tch (fun b => b = n0) W0 W ∧ Holds W n0 4 [.bool false]) ∧ B = W0.heap.size ∧ ∀ k ∈ pre, regOk i k = true
def LgX (i : In) (n0 : Nat) (W0 : World) (cd : Code) (pre : List Nat) (W : World) : Prop := (Tch (fun b => b = n0) W0 W ∧ Holds W n0 4 [.bool false]) ∧ cd = .ret ∧ ∃ k ∈ pre, regOk i k = false
theorem lgI_own {i : In} {B n0 : Nat} {W0 : World} : OwnFrom W0.heap.size (LgI i B n0 W0) :=
  OwnFrom.and (OwnFrom.and (ownFrom_tch (Nat.le_refl _)) (ownFrom_holds _ _ _ _)) (fun _ _ _ _ hs _ _ => hs)
theorem lgX_own {i : In} {n0 : Nat} {W0 : World} (cd : Code) : OwnFrom W0.heap.size (LgX i n0 W0 cd) :=
  OwnFrom.and (OwnFrom.and (ownFrom_tch (Nat.le_refl _)) (ownFrom_holds _ _ _ _)) (fun _ _ _ _ hs _ _ => hs)

set_option maxRecDepth 100000 in
set_option maxHeartbeats 2000000 in
theorem legal_in (i : In) (w : World) (hF : FormsAt w) : CallsIn Fence.wide 9 Tryz.prog 14 #[i.val] w fun e w' => e = .returned (.bool (legalP i)) ∧ Below w.heap.size w w' := by
  by_cases hop : 1 ≤ i.op ∧ i.op ≤ 18
  · obtain ⟨r, hr⟩ : ∃ r : Nat, i.op = r := ⟨i.op.toNat, by omega⟩
    have hr1 : 1 ≤ r := by omega
    have hr2 : r ≤ 18 := by omega
    have HF := Lib.hid hF; clear hF
    obtain ⟨op, a, b, c, imm⟩ := i
    simp only at hr hop
    subst hr
    clear hop
    have h18 : ((r : Int) < 1) = False := by simp; omega
    refine callsIn_of_wp_marks Tryz.func14 rfl trivial ?_ rfl
    simp only [Tryz.ntmps14, In.val, List.size_toArray, List.length_cons, List.length_nil, Nat.reduceAdd, Nat.reduceSub, Array.replicate_succ, Array.replicate_zero, List.push_toArray, List.append_toArray, List.nil_append, List.cons_append]
    gi_wp2_with (gi_at_call 24; refine (callsIn_wide.2 (numbersOf_any ⟨r, a, b, c, imm⟩ _)).mono ?_; rintro e w2 ⟨rfl, hb2⟩; refine Hid.out ?_)
    refine Lib.hid ?_
    dsimp only [In.val]
    have hb2' : Below w.heap.size w w2 := (((Below.refl _ w).alloc (Nat.le_refl _) _).alloc (by simp) _).trans (hb2.mono (by simp; omega))
    have b0 : Holds w2 w.heap.size 43 (In.cells ⟨r, a, b, c, imm⟩) := ((Holds.new w 43 (In.cells ⟨r, a, b, c, imm⟩)).alloc _).below hb2
    have b1 : Holds w2 (w.heap.size + 1) 4 [.bool false] := (newAt (by simp) 4 [.bool false]).below hb2
    have hF2 : FormsAt w2 := HF.out.below hb2'
    have hs2 : w.heap.size + 2 ≤ w2.heap.size := by have := hb2.size; simpa using this
    have q0 : ∀ o, (w2.alloc o).cell? ⟨w.heap.size, 0, none⟩ = some (.int .i64 r) := fun o => (b0.alloc o).cell (i := 0) rfl
    have q1 : ∀ o, (w2.alloc o).cell? ⟨0, r * 2 + 1, none⟩ = some (.int .i64 (mask r)) := fun o => by
      rw [Nat.mul_comm]; exact ((hF2.below ((Below.refl _ w2).alloc (Nat.le_refl _) o)) r (by omega)).2
    have h14 := and14 r
    have HB2 := Lib.hid hb2'; clear hb2 hb2'
    have B0 := Lib.hid b0; clear b0
    have B1 := Lib.hid b1; clear b1
    have HF2 := Lib.hid hF2; clear hF2
    have hrr : (0 : Int) ≤ r ∧ (r : Int) < 19 := by omega
    gi_wp2_with (gi_at_call 25; refine (callsIn_wide.2 (places_any _ _)).mono ?_; rintro e w3 ⟨rfl, rfl⟩)
    clear q0 q1 h18 hrr
    have hW0 : Below w2.heap.size w2 ((w2.alloc (.cells #[.int .i64 r, .int .i64 a, .int .i64 b, .int .i64 c, .int .i64 imm] 65)).alloc (.cells #[.int .i64 (Go.bits .and .i64 (mask r : Int) 14)] 69)) := ((Below.refl _ w2).alloc (Nat.le_refl _) _).alloc (by simp) _
    have b2 : Holds ((w2.alloc (.cells #[.int .i64 r, .int .i64 a, .int .i64 b, .int .i64 c, .int .i64 imm] 65)).alloc (.cells #[.int .i64 (Go.bits .and .i64 (mask r : Int) 14)] 69)) w2.heap.size 65 (In.cells ⟨r, a, b, c, imm⟩) := (Holds.new w2 65 (In.cells ⟨r, a, b, c, imm⟩)).alloc _
    have b3 : Holds ((w2.alloc (.cells #[.int .i64 r, .int .i64 a, .int .i64 b, .int .i64 c, .int .i64 imm] 65)).alloc (.cells #[.int .i64 (Go.bits .and .i64 (mask r : Int) 14)] 69)) (w2.heap.size + 1) 69 [.int .i64 (Go.bits .and .i64 (mask r : Int) 14)] := newAt (by simp) 69 [.int .i64 (Go.bits .and .i64 (mask r : Int) 14)]
    have hs0 : ((w2.alloc (.cells #[.int .i64 r, .int .i64 a, .int .i64 b, .int .i64 c, .int .i64 imm] 65)).alloc (.cells #[.int .i64 (Go.bits .and .i64 (mask r : Int) 14)] 69)).heap.size = w2.heap.size + 2 := by simp
    have b1 := B1.out.below hW0
    have hBw := HB2.out.trans (hW0.mono (by omega))
    clear hW0 B1 HB2
    generalize (w2.alloc (.cells #[.int .i64 r, .int .i64 a, .int .i64 b, .int .i64 c, .int .i64 imm] 65)).alloc (.cells #[.int .i64 (Go.bits .and .i64 (mask r : Int) 14)] 69) = W0 at *
    rw [← h14] at b3
    clear h14
    have B1 := Lib.hid b1; clear b1
    have B2 := Lib.hid b2; clear b2
    have B3 := Lib.hid b3; clear b3
    have HBw := Lib.hid hBw; clear hBw
    have Hs0 := Lib.hid hs0; clear hs0
    refine each_own rfl rfl (gf := 33) (lb := #[.pointer (some ⟨w2.heap.size + 1, 0, none⟩)]) rfl trivial (enters_of Tryz.func33 (by kernel_rfl) rfl)
      (places_each _ (w2.heap.size + 1) (mask r &&& 14) (and14_lt r) W0 (B3.out.cell (i := 0) rfl) (KpC (fun b => W0.heap.size ≤ b ∨ b = w.heap.size + 1)) (fun X Y hK v hv => (World.cell?_of_block (a := ⟨w2.heap.size + 1, 0, none⟩) (hK.block _ (World.block_lt_of_cell? _ _ hv) (show ¬ (W0.heap.size ≤ w2.heap.size + 1 ∨ w2.heap.size + 1 = w.heap.size + 1) by have := Hs0.out; omega))).trans hv)) kpC_t (kpC_b (.inl (by omega))) (fun _ => rfl)
      (LgI ⟨r, a, b, c, imm⟩ W0.heap.size (w.heap.size + 1) W0) (LgX ⟨r, a, b, c, imm⟩ (w.heap.size + 1) W0) lgI_own (fun c => lgX_own c) ⟨⟨Tch.refl _ _, B1.out⟩, rfl, fun k h => by cases h⟩ ?round ?done ?stop
    case round =>
      rintro pre x rest W hx hl hi
      have hx5 : x < 5 := placesP_lt (m := mask r &&& 14) (by rw [hx]; simp)
      clear hx hl
      unfold RoundOwes
      have Hi := Lib.hid hi; clear hi
      gi_wp2
      refine BodyOwes.plain lgI_own (Tch.refl _ _) Hi.out (fun W2 hl hi2 => ?_)
      clear hl Hi
      have c1 : W2.cell? ⟨w2.heap.size, x, none⟩ = some (.int .i64 ((In.mk r a b c imm).get x)) := (hi2.1.1.holds (fun e => by omega) B2.out).cell (In.cell_get _ hx5)
      have c2 := hi2.1.2.cell (i := 0) rfl
      have f1 := hi2.1.2.free 0
      have Hi2 := Lib.hid hi2; clear hi2
      generalize hz : (In.mk r a b c imm).get x = z at *
      have Hz := Lib.hid hz; clear hz
      have hx0 : (0 : Int) ≤ x ∧ (x : Int) < 5 := by omega
      have hT : Tch (fun b => b = w.heap.size + 1) W2 (W2.setCell ⟨w.heap.size + 1, 0, none⟩ (.bool false)) := Tch.setCell (C := fun b => b = w.heap.size + 1) (Tch.refl _ W2) (p := ⟨w.heap.size + 1, 0, none⟩) (.inl rfl) _
      have HT := Lib.hid hT; clear hT
      by_cases h0 : 0 ≤ z
      · by_cases h8 : z < 8
        · gi_wp2
          refine ⟨⟨Nat.le_refl _, fun _ _ _ h _ => h⟩, Tch.refl _ _, Hi2.out.1, Hi2.out.2.1, fun k hk => ?_⟩
          rcases List.mem_append.1 hk with hk | hk
          · exact Hi2.out.2.2 k hk
          · rw [List.mem_singleton.1 hk]; simp [regOk, Hz.out, h0, h8]
        · gi_wp2
          refine ⟨HT.out.keepsFrom (fun b o h1 h2 _ => by have := Hs0.out; omega), HT.out.mono (fun _ _ h => .inr h), ⟨Hi2.out.1.1.trans HT.out, ?_⟩, rfl, x, by simp, by simp [regOk, Hz.out, h0, h8]⟩
          exact Hi2.out.1.2.set 0 _
      · gi_wp2
        refine ⟨HT.out.keepsFrom (fun b o h1 h2 _ => by have := Hs0.out; omega), HT.out.mono (fun _ _ h => .inr h), ⟨Hi2.out.1.1.trans HT.out, ?_⟩, rfl, x, by simp, by simp [regOk, Hz.out]; omega⟩
        exact Hi2.out.1.2.set 0 _
    case done =>
      rintro W ⟨⟨hT, hb⟩, -, hall⟩ hK
      have c2 := hb.cell (i := 0) rfl
      have f1 := hb.free 0
      have HK := Lib.hid hK; clear hK
      have HT := Lib.hid hT; clear hT
      have Hb := Lib.hid hb; clear hb
      have hal := Lib.hid hall; clear hall
      gi_wp2
      have hb2 := Hb.out.set 0 (.bool true)
      have hT2 := HT.out.setCell (p := ⟨w.heap.size + 1, 0, none⟩) (.inl rfl) (.bool true)
      have hK2 : (W.setCell ⟨w.heap.size + 1, 0, none⟩ (.bool true)).heap[W0.heap.size]? = some (.deferred (some [])) := (Below.heap_setCell W ⟨w.heap.size + 1, 0, none⟩ _ W0.heap.size (show W0.heap.size ≠ w.heap.size + 1 by have := Hs0.out; omega)).trans HK.out
      have hbel : Below w.heap.size w (W.setCell ⟨w.heap.size + 1, 0, none⟩ (.bool true)) := HBw.out.trans (hT2.below (by have := HBw.out.size; omega) (fun b h => by omega))
      refine leaves_mark hK2 ⟨_, results_c rfl rfl (Tryz.loadBool ((hb2.putObj hK2 rfl _).cell (i := 0) rfl)), ?_, hbel.trans (belowK_b (w := W0) (by have := HBw.out.size; omega) _ W0.heap.size _ _ (Nat.le_refl _) hK2 rfl rfl)⟩
      have : legalP ⟨r, a, b, c, imm⟩ = true := by
        simp only [legalP, regPl, Int.toNat_natCast, Bool.and_eq_true, decide_eq_true_eq, List.all_eq_true]
        exact ⟨⟨by omega, by omega⟩, hal.out⟩
      rw [this]
    case stop =>
      rintro cd pre W hp ⟨⟨hT, hb⟩, rfl, hex⟩ hK
      have HK := Lib.hid hK; clear hK
      have HT := Lib.hid hT; clear hT
      have Hb := Lib.hid hb; clear hb
      gi_wp2
      have hbel : Below w.heap.size w W := HBw.out.trans (HT.out.below (by have := HBw.out.size; omega) (fun b h => by omega))
      refine leaves_mark HK.out ⟨_, results_c rfl rfl (Tryz.loadBool ((Hb.out.putObj HK.out rfl _).cell (i := 0) rfl)), ?_, hbel.trans (belowK_b (w := W0) (by have := HBw.out.size; omega) _ W0.heap.size _ _ (Nat.le_refl _) HK.out rfl rfl)⟩
      have : legalP ⟨r, a, b, c, imm⟩ = false := by
        obtain ⟨k, hk, hf⟩ := hex
        simp only [legalP, regPl, Int.toNat_natCast, Bool.and_eq_false_iff, List.all_eq_false]
        exact .inr ⟨k, hp.subset hk, by simp [hf]⟩
      rw [this]
  · have hl : legalP i = false := by
      simp only [legalP, Bool.and_eq_false_iff, decide_eq_false_iff_not]
      exact .inl (by omega)
    rw [hl]
    obtain ⟨op, a, b, c, imm⟩ := i
    simp only at hop
    clear hl
    have hop' : op < 1 ∨ 18 < op := by omega
    clear hop
    refine callsIn_of_wp_marks Tryz.func14 rfl trivial ?_ rfl
    simp only [Tryz.ntmps14, In.val, List.size_toArray, List.length_cons, List.length_nil, Nat.reduceAdd, Nat.reduceSub, Array.replicate_succ, Array.replicate_zero, List.push_toArray, List.append_toArray, List.nil_append, List.cons_append]
    rcases hop' with hop | hop
    · gi_wp2
      exact ⟨_, results_c rfl rfl (Tryz.loadBool ((newAt (by simp) 4 [.bool false]).cell (i := 0) rfl)), rfl, ((Below.refl _ w).alloc (Nat.le_refl _) _).alloc (by simp) _⟩
    · have : ¬ op < 1 := by omega
      gi_wp2
      exact ⟨_, results_c rfl rfl (Tryz.loadBool ((newAt (by simp) 4 [.bool false]).cell (i := 0) rfl)), rfl, ((Below.refl _ w).alloc (Nat.le_refl _) _).alloc (by simp) _⟩

theorem legal_any (i : In) (w : World) (hF : FormsAt w) : Calls Tryz.prog 14 #[i.val] w fun e w' => e = .returned (.bool (legalP i)) ∧ Below w.heap.size w w' := callsIn_wide.1 (legal_in i w hF)

end Go.Proofs.YteijhcibdglkeaaGreatDoor
