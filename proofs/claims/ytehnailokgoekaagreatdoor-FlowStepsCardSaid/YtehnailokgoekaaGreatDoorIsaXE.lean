/- Do: loads, stores, branches, sets. Conditions: those stated in each theorem. -/
import Derived.Test.YtehnailokgoekaaGreatDoorIsaXD
namespace Go.Proofs.YtehnailokgoekaaGreatDoor
open Go.RowKit Go.BigFrame

set_option maxRecDepth 100000 in
set_option maxHeartbeats 1000000 in
theorem branch_any (i : In) (x : L8) (next : Int) (w : World) (hl : legalP i = true) : Calls Tryz.prog 24 #[i.val, x.val, .int .i64 next] w fun e w' => e = .returned (branchP i x next).value ∧ Below w.heap.size w w' := by
  have hG := fun W => goesD_any i x W hl
  have HG := Lib.hid hG; clear hG hl
  have hbx := bx3_new w i x
  have hbw : Below w.heap.size w (((w.alloc (.cells i.cells.toArray 51)).alloc (.cells x.cells.toArray 43)).alloc (.cells Ef.zero.cells.toArray 48)) := ((((Below.refl _ w).alloc (Nat.le_refl _) _).alloc (by simp) _).alloc (by simp; omega) _)
  have Hbx := Lib.hid hbx; clear hbx
  have Hbw := Lib.hid hbw; clear hbw
  go_enter Tryz.func24, Tryz.ntmps24
  unfold In.val L8.val
  go_wp2_with (go_at_call 35; refine (HG.out _).mono ?_; rintro e w2 ⟨rfl, hb2⟩; refine Hid.out ?_)
  refine Lib.hid ?_
  have hb := Hbw.out.trans (hb2.mono Hbw.out.size)
  have hx := Hbx.out.below hb2
  clear hb2 Hbw Hbx
  have hth := hx.b2.there (o := 0) (n := 5) (Nat.le_refl _)
  have Hth := Lib.hid hth; clear hth
  have Hb := Lib.hid hb; clear hb
  have Hx := Lib.hid hx; clear hx
  have c4 := Hx.out.b0.cell (i := 4) rfl
  cases hg : goesD i x with
  | false =>
    have Hg := Lib.hid hg; clear hg
    go_wp2_with (refine wpList_store_mid rfl 48 (.tmp 6) (.tmp 12) rfl (w.heap.size + 2) 0 (Ef.cells ⟨2, next, 0, 0, 0⟩).toArray rfl rfl ?_ Tryz.sizeEf (oneEf _) ?_; exact Hth.out; change wpList _ _ _ _ _ (w2.setCells (w.heap.size + 2) 0 (Ef.cells ⟨2, next, 0, 0, 0⟩)))
    refine bodyPost_ret (results_c rfl rfl (Tryz.loadEf ⟨2, next, 0, 0, 0⟩ (Hx.out.fin rfl Hb.out _).1)) rfl ⟨?_, (Hx.out.fin rfl Hb.out _).2⟩
    simp [branchP, Hg.out]
  | true =>
    have Hg := Lib.hid hg; clear hg
    by_cases h0 : i.imm < 0
    · go_wp2_with (refine wpList_store_mid rfl 48 (.tmp 6) (.tmp 21) rfl (w.heap.size + 2) 0 (Ef.cells Ef.zero).toArray rfl rfl ?_ Tryz.sizeEf (oneEf _) ?_; exact Hth.out; change wpList _ _ _ _ _ (w2.setCells (w.heap.size + 2) 0 (Ef.cells Ef.zero)))
      refine bodyPost_ret (results_c rfl rfl (Tryz.loadEf Ef.zero (Hx.out.fin rfl Hb.out _).1)) rfl ⟨?_, (Hx.out.fin rfl Hb.out _).2⟩
      simp [branchP, Hg.out, h0]
    · by_cases h1 : 1024 < i.imm
      · go_wp2_with (refine wpList_store_mid rfl 48 (.tmp 6) (.tmp 21) rfl (w.heap.size + 2) 0 (Ef.cells Ef.zero).toArray rfl rfl ?_ Tryz.sizeEf (oneEf _) ?_; exact Hth.out; change wpList _ _ _ _ _ (w2.setCells (w.heap.size + 2) 0 (Ef.cells Ef.zero)))
        refine bodyPost_ret (results_c rfl rfl (Tryz.loadEf Ef.zero (Hx.out.fin rfl Hb.out _).1)) rfl ⟨?_, (Hx.out.fin rfl Hb.out _).2⟩
        simp [branchP, Hg.out, h1]
      · go_wp2_with (refine wpList_store_mid rfl 48 (.tmp 6) (.tmp 24) rfl (w.heap.size + 2) 0 (Ef.cells ⟨2, i.imm, 0, 0, 0⟩).toArray rfl rfl ?_ Tryz.sizeEf (oneEf _) ?_; exact Hth.out; change wpList _ _ _ _ _ (w2.setCells (w.heap.size + 2) 0 (Ef.cells ⟨2, i.imm, 0, 0, 0⟩)))
        refine bodyPost_ret (results_c rfl rfl (Tryz.loadEf ⟨2, i.imm, 0, 0, 0⟩ (Hx.out.fin rfl Hb.out _).1)) rfl ⟨?_, (Hx.out.fin rfl Hb.out _).2⟩
        simp only [branchP, Hg.out]; rw [if_neg (by simp), if_neg (by omega)]

set_option maxRecDepth 100000 in
set_option maxHeartbeats 2000000 in
theorem do_11 (a b c imm : Int) (x : L8) (pc : Int) (w : World) (hF : FormsAt w) (h0 : 0 ≤ pc) (h1 : pc < 1024) (hl : legalP ⟨11, a, b, c, imm⟩ = true) (ad : Int) (hA : ∀ W, Calls Tryz.prog 23 #[(In.mk 11 a b c imm).val, x.val] W fun e w' => e = .returned (.int .u64 ad) ∧ Below W.heap.size W w') : Calls Tryz.prog 15 #[(In.mk 11 a b c imm).val, x.val, .int .i64 pc] w fun e w' => e = .returned (Ef.value ⟨3, pc + 1, a, 0, ad⟩) ∧ Below w.heap.size w w' := by
  simp only [In.val, L8.val] at hA
  have HA := Lib.hid hA; clear hA
  have hp1 : IntKind.i64.wrap (pc + 1) = pc + 1 := IntWalk.i64_in _ (by omega)
  have Hp1 := Lib.hid hp1; clear hp1
  have hLg := fun W hW => legal_any ⟨11, a, b, c, imm⟩ W hW
  rw [hl] at hLg
  have HLg := Lib.hid hLg; clear hLg hl
  have HF := Lib.hid hF; clear hF
  have hbx := bx3_new w ⟨11, a, b, c, imm⟩ x
  have hbw : Below w.heap.size w (((w.alloc (.cells (In.cells ⟨11, a, b, c, imm⟩).toArray 51)).alloc (.cells x.cells.toArray 43)).alloc (.cells Ef.zero.cells.toArray 48)) := ((((Below.refl _ w).alloc (Nat.le_refl _) _).alloc (by simp) _).alloc (by simp; omega) _)
  have Hbx := Lib.hid hbx; clear hbx
  have Hbw := Lib.hid hbw; clear hbw
  go_enter Tryz.func15, Tryz.ntmps15
  unfold In.val L8.val
  go_wp2_with (go_at_call 22; refine (HLg.out _ ?_).mono ?_; exact HF.out.below Hbw.out; rintro e w2 ⟨rfl, hb2⟩; refine Hid.out ?_)
  refine Lib.hid ?_
  have hb := Hbw.out.trans (hb2.mono Hbw.out.size)
  have hx := Hbx.out.below hb2
  have hF2 := HF.out.below hb
  clear hb2 Hbw Hbx
  have hth := hx.b2.there (o := 0) (n := 5) (Nat.le_refl _)
  have Hth := Lib.hid hth; clear hth
  have Hb := Lib.hid hb; clear hb
  have Hx := Lib.hid hx; clear hx
  have hAll : ∀ V, Below w2.heap.size w2 V → (V.cell? ⟨w.heap.size, 0, none⟩ = some (.int .i64 11) ∧ V.cell? ⟨w.heap.size, 1, none⟩ = some (.int .i64 a) ∧ V.cell? ⟨w.heap.size, 2, none⟩ = some (.int .i64 b) ∧ V.cell? ⟨w.heap.size, 3, none⟩ = some (.int .i64 c) ∧ V.cell? ⟨w.heap.size, 4, none⟩ = some (.int .i64 imm)
      ∧ V.cell? ⟨w.heap.size + 1, 0, none⟩ = some (.int .u64 x.x0) ∧ V.cell? ⟨w.heap.size + 1, 1, none⟩ = some (.int .u64 x.x1) ∧ V.cell? ⟨w.heap.size + 1, 2, none⟩ = some (.int .u64 x.x2) ∧ V.cell? ⟨w.heap.size + 1, 3, none⟩ = some (.int .u64 x.x3) ∧ V.cell? ⟨w.heap.size + 1, 4, none⟩ = some (.int .u64 x.x4) ∧ V.cell? ⟨w.heap.size + 1, 5, none⟩ = some (.int .u64 x.x5) ∧ V.cell? ⟨w.heap.size + 1, 6, none⟩ = some (.int .u64 x.x6) ∧ V.cell? ⟨w.heap.size + 1, 7, none⟩ = some (.int .u64 x.x7)) := fun V hV =>
    have h := Hx.out.below hV
    ⟨h.b0.cell (i := 0) rfl, h.b0.cell (i := 1) rfl, h.b0.cell (i := 2) rfl, h.b0.cell (i := 3) rfl, h.b0.cell (i := 4) rfl, h.b1.cell (i := 0) rfl, h.b1.cell (i := 1) rfl, h.b1.cell (i := 2) rfl, h.b1.cell (i := 3) rfl, h.b1.cell (i := 4) rfl, h.b1.cell (i := 5) rfl, h.b1.cell (i := 6) rfl, h.b1.cell (i := 7) rfl⟩
  have hSt : ∀ V, Below w2.heap.size w2 V → ∀ v0 v1 v2 v3 v4, (fun V => V.cell? ⟨w.heap.size, 0, none⟩ = some (.int .i64 11) ∧ V.cell? ⟨w.heap.size, 1, none⟩ = some (.int .i64 a) ∧ V.cell? ⟨w.heap.size, 2, none⟩ = some (.int .i64 b) ∧ V.cell? ⟨w.heap.size, 3, none⟩ = some (.int .i64 c) ∧ V.cell? ⟨w.heap.size, 4, none⟩ = some (.int .i64 imm) ∧ V.cell? ⟨w.heap.size + 1, 0, none⟩ = some (.int .u64 x.x0) ∧ V.cell? ⟨w.heap.size + 1, 1, none⟩ = some (.int .u64 x.x1) ∧ V.cell? ⟨w.heap.size + 1, 2, none⟩ = some (.int .u64 x.x2) ∧ V.cell? ⟨w.heap.size + 1, 3, none⟩ = some (.int .u64 x.x3) ∧ V.cell? ⟨w.heap.size + 1, 4, none⟩ = some (.int .u64 x.x4) ∧ V.cell? ⟨w.heap.size + 1, 5, none⟩ = some (.int .u64 x.x5) ∧ V.cell? ⟨w.heap.size + 1, 6, none⟩ = some (.int .u64 x.x6) ∧ V.cell? ⟨w.heap.size + 1, 7, none⟩ = some (.int .u64 x.x7)) (((((V.setCell ⟨w.heap.size + 1 + 1, 0, none⟩ v0).setCell ⟨w.heap.size + 1 + 1, 1, none⟩ v1).setCell ⟨w.heap.size + 1 + 1, 2, none⟩ v2).setCell ⟨w.heap.size + 1 + 1, 3, none⟩ v3).setCell ⟨w.heap.size + 1 + 1, 4, none⟩ v4) := fun V hV v0 v1 v2 v3 v4 =>
    have h := Hx.out.below hV
    have g0 : Holds (((((V.setCell ⟨w.heap.size + 1 + 1, 0, none⟩ v0).setCell ⟨w.heap.size + 1 + 1, 1, none⟩ v1).setCell ⟨w.heap.size + 1 + 1, 2, none⟩ v2).setCell ⟨w.heap.size + 1 + 1, 3, none⟩ v3).setCell ⟨w.heap.size + 1 + 1, 4, none⟩ v4) w.heap.size 51 _ := ((((h.b0.other (by simp; omega) v0).other (by simp; omega) v1).other (by simp; omega) v2).other (by simp; omega) v3).other (by simp; omega) v4
    have g1 : Holds (((((V.setCell ⟨w.heap.size + 1 + 1, 0, none⟩ v0).setCell ⟨w.heap.size + 1 + 1, 1, none⟩ v1).setCell ⟨w.heap.size + 1 + 1, 2, none⟩ v2).setCell ⟨w.heap.size + 1 + 1, 3, none⟩ v3).setCell ⟨w.heap.size + 1 + 1, 4, none⟩ v4) (w.heap.size + 1) 43 _ := ((((h.b1.other (by simp) v0).other (by simp) v1).other (by simp) v2).other (by simp) v3).other (by simp) v4
    ⟨g0.cell (i := 0) rfl, g0.cell (i := 1) rfl, g0.cell (i := 2) rfl, g0.cell (i := 3) rfl, g0.cell (i := 4) rfl, g1.cell (i := 0) rfl, g1.cell (i := 1) rfl, g1.cell (i := 2) rfl, g1.cell (i := 3) rfl, g1.cell (i := 4) rfl, g1.cell (i := 5) rfl, g1.cell (i := 6) rfl, g1.cell (i := 7) rfl⟩
  have HSt := Lib.hid hSt; clear hSt
  have hZ : ∀ V, Below w2.heap.size w2 V → True ∧ V.cell? ⟨w.heap.size + 1 + 1, 0, none⟩ = some (.int .i64 0) ∧ V.frozen? ⟨w.heap.size + 1 + 1, 0, none⟩ = false ∧ V.cell? ⟨w.heap.size + 1 + 1, 1, none⟩ = some (.int .i64 0) ∧ V.frozen? ⟨w.heap.size + 1 + 1, 1, none⟩ = false ∧ V.cell? ⟨w.heap.size + 1 + 1, 2, none⟩ = some (.int .i64 0) ∧ V.frozen? ⟨w.heap.size + 1 + 1, 2, none⟩ = false ∧ V.cell? ⟨w.heap.size + 1 + 1, 3, none⟩ = some (.int .u64 0) ∧ V.frozen? ⟨w.heap.size + 1 + 1, 3, none⟩ = false ∧ V.cell? ⟨w.heap.size + 1 + 1, 4, none⟩ = some (.int .u64 0) ∧ V.frozen? ⟨w.heap.size + 1 + 1, 4, none⟩ = false := fun V hV =>
    have h := Hx.out.below hV
    ⟨trivial, h.b2.cell (i := 0) rfl, h.b2.free 0, h.b2.cell (i := 1) rfl, h.b2.free 1, h.b2.cell (i := 2) rfl, h.b2.free 2, h.b2.cell (i := 3) rfl, h.b2.free 3, h.b2.cell (i := 4) rfl, h.b2.free 4⟩
  have HZ := Lib.hid hZ; clear hZ
  have HAll := Lib.hid hAll
  have hD : Below w2.heap.size w2 w2.drew := below_drew1 (Below.refl _ w2)
  have c0 := (hAll w2 (Below.refl _ _)).1
  clear hAll
  go_wp2_with fail
  have hp1 := Hp1.out
  go_region_held3 (fun V => V.cell? ⟨w.heap.size, 0, none⟩ = some (.int .i64 11) ∧ V.cell? ⟨w.heap.size, 1, none⟩ = some (.int .i64 a) ∧ V.cell? ⟨w.heap.size, 2, none⟩ = some (.int .i64 b) ∧ V.cell? ⟨w.heap.size, 3, none⟩ = some (.int .i64 c) ∧ V.cell? ⟨w.heap.size, 4, none⟩ = some (.int .i64 imm) ∧ V.cell? ⟨w.heap.size + 1, 0, none⟩ = some (.int .u64 x.x0) ∧ V.cell? ⟨w.heap.size + 1, 1, none⟩ = some (.int .u64 x.x1) ∧ V.cell? ⟨w.heap.size + 1, 2, none⟩ = some (.int .u64 x.x2) ∧ V.cell? ⟨w.heap.size + 1, 3, none⟩ = some (.int .u64 x.x3) ∧ V.cell? ⟨w.heap.size + 1, 4, none⟩ = some (.int .u64 x.x4) ∧ V.cell? ⟨w.heap.size + 1, 5, none⟩ = some (.int .u64 x.x5) ∧ V.cell? ⟨w.heap.size + 1, 6, none⟩ = some (.int .u64 x.x6) ∧ V.cell? ⟨w.heap.size + 1, 7, none⟩ = some (.int .u64 x.x7)) (first | with_reducible exact HAll.out _ hD | with_reducible exact HSt.out _ hD _ _ _ _ _) (first | (go_at_call 23; (with_reducible refine (HA.out _).mono ?_); rintro e V ⟨rfl, hE⟩; replace hD := hD.trans (hE.mono hD.size); obtain ⟨-, z0, f0, z1, f1, z2, f2, z3, f3, z4, f4⟩ := HZ.out _ hD))
  have hfin := (Hx.out.below hD).fin5 (Hb.out.trans (hD.mono Hb.out.size)) ⟨3, pc + 1, a, 0, ad⟩
  dsimp only at hfin
  clear Hx HAll HSt HZ hD HA Hth Hb
  generalize (((((V.setCell ⟨w.heap.size + 1 + 1, 0, none⟩ (.int .i64 (3))).setCell ⟨w.heap.size + 1 + 1, 1, none⟩ (.int .i64 (pc + 1))).setCell ⟨w.heap.size + 1 + 1, 2, none⟩ (.int .i64 (a))).setCell ⟨w.heap.size + 1 + 1, 3, none⟩ (.int .u64 (0))).setCell ⟨w.heap.size + 1 + 1, 4, none⟩ (.int .u64 (ad))) = W5 at hfin ⊢
  obtain ⟨hf1, hf2⟩ := hfin
  have Hf1 := Lib.hid hf1; clear hf1
  have Hf2 := Lib.hid hf2; clear hf2
  go_wp2
  exact bodyPost_ret (results_c rfl rfl (Tryz.loadEf ⟨3, pc + 1, a, 0, ad⟩ Hf1.out)) rfl ⟨rfl, Hf2.out⟩

set_option maxRecDepth 100000 in
set_option maxHeartbeats 2000000 in
theorem do_12 (a b c imm : Int) (x : L8) (pc : Int) (w : World) (hF : FormsAt w) (h0 : 0 ≤ pc) (h1 : pc < 1024) (hl : legalP ⟨12, a, b, c, imm⟩ = true) (r : Nat) (hr : a = r) (h8 : r < 8) (ad : Int) (hA : ∀ W, Calls Tryz.prog 23 #[(In.mk 12 a b c imm).val, x.val] W fun e w' => e = .returned (.int .u64 ad) ∧ Below W.heap.size W w') : Calls Tryz.prog 15 #[(In.mk 12 a b c imm).val, x.val, .int .i64 pc] w fun e w' => e = .returned (Ef.value ⟨4, pc + 1, 0, x.get r, ad⟩) ∧ Below w.heap.size w w' := by
  subst hr
  simp only [In.val, L8.val] at hA
  have HA := Lib.hid hA; clear hA
  have hp1 : IntKind.i64.wrap (pc + 1) = pc + 1 := IntWalk.i64_in _ (by omega)
  have Hp1 := Lib.hid hp1; clear hp1
  have hLg := fun W hW => legal_any ⟨12, r, b, c, imm⟩ W hW
  rw [hl] at hLg
  have HLg := Lib.hid hLg; clear hLg hl
  have HF := Lib.hid hF; clear hF
  have hbx := bx3_new w ⟨12, r, b, c, imm⟩ x
  have hbw : Below w.heap.size w (((w.alloc (.cells (In.cells ⟨12, r, b, c, imm⟩).toArray 51)).alloc (.cells x.cells.toArray 43)).alloc (.cells Ef.zero.cells.toArray 48)) := ((((Below.refl _ w).alloc (Nat.le_refl _) _).alloc (by simp) _).alloc (by simp; omega) _)
  have Hbx := Lib.hid hbx; clear hbx
  have Hbw := Lib.hid hbw; clear hbw
  go_enter Tryz.func15, Tryz.ntmps15
  unfold In.val L8.val
  go_wp2_with (go_at_call 22; refine (HLg.out _ ?_).mono ?_; exact HF.out.below Hbw.out; rintro e w2 ⟨rfl, hb2⟩; refine Hid.out ?_)
  refine Lib.hid ?_
  have hb := Hbw.out.trans (hb2.mono Hbw.out.size)
  have hx := Hbx.out.below hb2
  have hF2 := HF.out.below hb
  clear hb2 Hbw Hbx
  have hth := hx.b2.there (o := 0) (n := 5) (Nat.le_refl _)
  have Hth := Lib.hid hth; clear hth
  have Hb := Lib.hid hb; clear hb
  have Hx := Lib.hid hx; clear hx
  have hAll : ∀ V, Below w2.heap.size w2 V → (V.cell? ⟨w.heap.size, 0, none⟩ = some (.int .i64 12) ∧ V.cell? ⟨w.heap.size, 1, none⟩ = some (.int .i64 r) ∧ V.cell? ⟨w.heap.size, 2, none⟩ = some (.int .i64 b) ∧ V.cell? ⟨w.heap.size, 3, none⟩ = some (.int .i64 c) ∧ V.cell? ⟨w.heap.size, 4, none⟩ = some (.int .i64 imm)
      ∧ V.cell? ⟨w.heap.size + 1, 0, none⟩ = some (.int .u64 x.x0) ∧ V.cell? ⟨w.heap.size + 1, 1, none⟩ = some (.int .u64 x.x1) ∧ V.cell? ⟨w.heap.size + 1, 2, none⟩ = some (.int .u64 x.x2) ∧ V.cell? ⟨w.heap.size + 1, 3, none⟩ = some (.int .u64 x.x3) ∧ V.cell? ⟨w.heap.size + 1, 4, none⟩ = some (.int .u64 x.x4) ∧ V.cell? ⟨w.heap.size + 1, 5, none⟩ = some (.int .u64 x.x5) ∧ V.cell? ⟨w.heap.size + 1, 6, none⟩ = some (.int .u64 x.x6) ∧ V.cell? ⟨w.heap.size + 1, 7, none⟩ = some (.int .u64 x.x7) ∧ V.cell? ⟨w.heap.size + 1, r, none⟩ = some (.int .u64 (x.get r))) := fun V hV =>
    have h := Hx.out.below hV
    ⟨h.b0.cell (i := 0) rfl, h.b0.cell (i := 1) rfl, h.b0.cell (i := 2) rfl, h.b0.cell (i := 3) rfl, h.b0.cell (i := 4) rfl, h.b1.cell (i := 0) rfl, h.b1.cell (i := 1) rfl, h.b1.cell (i := 2) rfl, h.b1.cell (i := 3) rfl, h.b1.cell (i := 4) rfl, h.b1.cell (i := 5) rfl, h.b1.cell (i := 6) rfl, h.b1.cell (i := 7) rfl, h.b1.cell (L8.cell_get x h8)⟩
  have hSt : ∀ V, Below w2.heap.size w2 V → ∀ v0 v1 v2 v3 v4, (fun V => V.cell? ⟨w.heap.size, 0, none⟩ = some (.int .i64 12) ∧ V.cell? ⟨w.heap.size, 1, none⟩ = some (.int .i64 r) ∧ V.cell? ⟨w.heap.size, 2, none⟩ = some (.int .i64 b) ∧ V.cell? ⟨w.heap.size, 3, none⟩ = some (.int .i64 c) ∧ V.cell? ⟨w.heap.size, 4, none⟩ = some (.int .i64 imm) ∧ V.cell? ⟨w.heap.size + 1, 0, none⟩ = some (.int .u64 x.x0) ∧ V.cell? ⟨w.heap.size + 1, 1, none⟩ = some (.int .u64 x.x1) ∧ V.cell? ⟨w.heap.size + 1, 2, none⟩ = some (.int .u64 x.x2) ∧ V.cell? ⟨w.heap.size + 1, 3, none⟩ = some (.int .u64 x.x3) ∧ V.cell? ⟨w.heap.size + 1, 4, none⟩ = some (.int .u64 x.x4) ∧ V.cell? ⟨w.heap.size + 1, 5, none⟩ = some (.int .u64 x.x5) ∧ V.cell? ⟨w.heap.size + 1, 6, none⟩ = some (.int .u64 x.x6) ∧ V.cell? ⟨w.heap.size + 1, 7, none⟩ = some (.int .u64 x.x7) ∧ V.cell? ⟨w.heap.size + 1, r, none⟩ = some (.int .u64 (x.get r))) (((((V.setCell ⟨w.heap.size + 1 + 1, 0, none⟩ v0).setCell ⟨w.heap.size + 1 + 1, 1, none⟩ v1).setCell ⟨w.heap.size + 1 + 1, 2, none⟩ v2).setCell ⟨w.heap.size + 1 + 1, 3, none⟩ v3).setCell ⟨w.heap.size + 1 + 1, 4, none⟩ v4) := fun V hV v0 v1 v2 v3 v4 =>
    have h := Hx.out.below hV
    have g0 : Holds (((((V.setCell ⟨w.heap.size + 1 + 1, 0, none⟩ v0).setCell ⟨w.heap.size + 1 + 1, 1, none⟩ v1).setCell ⟨w.heap.size + 1 + 1, 2, none⟩ v2).setCell ⟨w.heap.size + 1 + 1, 3, none⟩ v3).setCell ⟨w.heap.size + 1 + 1, 4, none⟩ v4) w.heap.size 51 _ := ((((h.b0.other (by simp; omega) v0).other (by simp; omega) v1).other (by simp; omega) v2).other (by simp; omega) v3).other (by simp; omega) v4
    have g1 : Holds (((((V.setCell ⟨w.heap.size + 1 + 1, 0, none⟩ v0).setCell ⟨w.heap.size + 1 + 1, 1, none⟩ v1).setCell ⟨w.heap.size + 1 + 1, 2, none⟩ v2).setCell ⟨w.heap.size + 1 + 1, 3, none⟩ v3).setCell ⟨w.heap.size + 1 + 1, 4, none⟩ v4) (w.heap.size + 1) 43 _ := ((((h.b1.other (by simp) v0).other (by simp) v1).other (by simp) v2).other (by simp) v3).other (by simp) v4
    ⟨g0.cell (i := 0) rfl, g0.cell (i := 1) rfl, g0.cell (i := 2) rfl, g0.cell (i := 3) rfl, g0.cell (i := 4) rfl, g1.cell (i := 0) rfl, g1.cell (i := 1) rfl, g1.cell (i := 2) rfl, g1.cell (i := 3) rfl, g1.cell (i := 4) rfl, g1.cell (i := 5) rfl, g1.cell (i := 6) rfl, g1.cell (i := 7) rfl, g1.cell (L8.cell_get x h8)⟩
  have HSt := Lib.hid hSt; clear hSt
  have hZ : ∀ V, Below w2.heap.size w2 V → True ∧ V.cell? ⟨w.heap.size + 1 + 1, 0, none⟩ = some (.int .i64 0) ∧ V.frozen? ⟨w.heap.size + 1 + 1, 0, none⟩ = false ∧ V.cell? ⟨w.heap.size + 1 + 1, 1, none⟩ = some (.int .i64 0) ∧ V.frozen? ⟨w.heap.size + 1 + 1, 1, none⟩ = false ∧ V.cell? ⟨w.heap.size + 1 + 1, 2, none⟩ = some (.int .i64 0) ∧ V.frozen? ⟨w.heap.size + 1 + 1, 2, none⟩ = false ∧ V.cell? ⟨w.heap.size + 1 + 1, 3, none⟩ = some (.int .u64 0) ∧ V.frozen? ⟨w.heap.size + 1 + 1, 3, none⟩ = false ∧ V.cell? ⟨w.heap.size + 1 + 1, 4, none⟩ = some (.int .u64 0) ∧ V.frozen? ⟨w.heap.size + 1 + 1, 4, none⟩ = false := fun V hV =>
    have h := Hx.out.below hV
    ⟨trivial, h.b2.cell (i := 0) rfl, h.b2.free 0, h.b2.cell (i := 1) rfl, h.b2.free 1, h.b2.cell (i := 2) rfl, h.b2.free 2, h.b2.cell (i := 3) rfl, h.b2.free 3, h.b2.cell (i := 4) rfl, h.b2.free 4⟩
  have HZ := Lib.hid hZ; clear hZ
  have HAll := Lib.hid hAll
  have hD : Below w2.heap.size w2 w2.drew := below_drew1 (Below.refl _ w2)
  have c0 := (hAll w2 (Below.refl _ _)).1
  clear hAll
  have hr8 : (0 : Int) ≤ r ∧ (r : Int) < 8 := by omega
  go_wp2_with fail
  have hp1 := Hp1.out
  go_region_held3 (fun V => V.cell? ⟨w.heap.size, 0, none⟩ = some (.int .i64 12) ∧ V.cell? ⟨w.heap.size, 1, none⟩ = some (.int .i64 r) ∧ V.cell? ⟨w.heap.size, 2, none⟩ = some (.int .i64 b) ∧ V.cell? ⟨w.heap.size, 3, none⟩ = some (.int .i64 c) ∧ V.cell? ⟨w.heap.size, 4, none⟩ = some (.int .i64 imm) ∧ V.cell? ⟨w.heap.size + 1, 0, none⟩ = some (.int .u64 x.x0) ∧ V.cell? ⟨w.heap.size + 1, 1, none⟩ = some (.int .u64 x.x1) ∧ V.cell? ⟨w.heap.size + 1, 2, none⟩ = some (.int .u64 x.x2) ∧ V.cell? ⟨w.heap.size + 1, 3, none⟩ = some (.int .u64 x.x3) ∧ V.cell? ⟨w.heap.size + 1, 4, none⟩ = some (.int .u64 x.x4) ∧ V.cell? ⟨w.heap.size + 1, 5, none⟩ = some (.int .u64 x.x5) ∧ V.cell? ⟨w.heap.size + 1, 6, none⟩ = some (.int .u64 x.x6) ∧ V.cell? ⟨w.heap.size + 1, 7, none⟩ = some (.int .u64 x.x7) ∧ V.cell? ⟨w.heap.size + 1, r, none⟩ = some (.int .u64 (x.get r))) (first | with_reducible exact HAll.out _ hD | with_reducible exact HSt.out _ hD _ _ _ _ _) (first | (go_at_call 23; (with_reducible refine (HA.out _).mono ?_); rintro e V ⟨rfl, hE⟩; replace hD := hD.trans (hE.mono hD.size); obtain ⟨-, z0, f0, z1, f1, z2, f2, z3, f3, z4, f4⟩ := HZ.out _ hD))
  have hfin := (Hx.out.below hD).fin5 (Hb.out.trans (hD.mono Hb.out.size)) ⟨4, pc + 1, 0, x.get r, ad⟩
  dsimp only at hfin
  clear Hx HAll HSt HZ hD HA Hth Hb
  generalize (((((V.setCell ⟨w.heap.size + 1 + 1, 0, none⟩ (.int .i64 (4))).setCell ⟨w.heap.size + 1 + 1, 1, none⟩ (.int .i64 (pc + 1))).setCell ⟨w.heap.size + 1 + 1, 2, none⟩ (.int .i64 (0))).setCell ⟨w.heap.size + 1 + 1, 3, none⟩ (.int .u64 (x.get r))).setCell ⟨w.heap.size + 1 + 1, 4, none⟩ (.int .u64 (ad))) = W5 at hfin ⊢
  obtain ⟨hf1, hf2⟩ := hfin
  have Hf1 := Lib.hid hf1; clear hf1
  have Hf2 := Lib.hid hf2; clear hf2
  go_wp2
  exact bodyPost_ret (results_c rfl rfl (Tryz.loadEf ⟨4, pc + 1, 0, x.get r, ad⟩ Hf1.out)) rfl ⟨rfl, Hf2.out⟩

set_option maxRecDepth 100000 in
set_option maxHeartbeats 2000000 in
theorem do_set (op : Int) (a b c imm : Int) (x : L8) (pc : Int) (w : World) (hF : FormsAt w) (h0 : 0 ≤ pc) (h1 : pc < 1024) (hl : legalP ⟨op, a, b, c, imm⟩ = true) (h2 : 2 ≤ op) (h10 : op ≤ 10) (ad : Int) (hA : ∀ W, Calls Tryz.prog 25 #[(In.mk op a b c imm).val, x.val] W fun e w' => e = .returned (.int .u64 ad) ∧ Below W.heap.size W w') : Calls Tryz.prog 15 #[(In.mk op a b c imm).val, x.val, .int .i64 pc] w fun e w' => e = .returned (Ef.value ⟨1, pc + 1, a, ad, 0⟩) ∧ Below w.heap.size w w' := by
  simp only [In.val, L8.val] at hA
  have HA := Lib.hid hA; clear hA
  have hp1 : IntKind.i64.wrap (pc + 1) = pc + 1 := IntWalk.i64_in _ (by omega)
  have Hp1 := Lib.hid hp1; clear hp1
  have e1 : (op == 1) = false := by rw [beq_eq_false_iff_ne]; omega
  have e17 : (op == 17) = false := by rw [beq_eq_false_iff_ne]; omega
  have e18 : (op == 18) = false := by rw [beq_eq_false_iff_ne]; omega
  have e11 : (op == 11) = false := by rw [beq_eq_false_iff_ne]; omega
  have e12 : (op == 12) = false := by rw [beq_eq_false_iff_ne]; omega
  have e13 : (op == 13) = false := by rw [beq_eq_false_iff_ne]; omega
  have e14 : (op == 14) = false := by rw [beq_eq_false_iff_ne]; omega
  have e15 : (op == 15) = false := by rw [beq_eq_false_iff_ne]; omega
  have e16 : (op == 16) = false := by rw [beq_eq_false_iff_ne]; omega
  have hLg := fun W hW => legal_any ⟨op, a, b, c, imm⟩ W hW
  rw [hl] at hLg
  have HLg := Lib.hid hLg; clear hLg hl
  have HF := Lib.hid hF; clear hF
  have hbx := bx3_new w ⟨op, a, b, c, imm⟩ x
  have hbw : Below w.heap.size w (((w.alloc (.cells (In.cells ⟨op, a, b, c, imm⟩).toArray 51)).alloc (.cells x.cells.toArray 43)).alloc (.cells Ef.zero.cells.toArray 48)) := ((((Below.refl _ w).alloc (Nat.le_refl _) _).alloc (by simp) _).alloc (by simp; omega) _)
  have Hbx := Lib.hid hbx; clear hbx
  have Hbw := Lib.hid hbw; clear hbw
  go_enter Tryz.func15, Tryz.ntmps15
  unfold In.val L8.val
  go_wp2_with (go_at_call 22; refine (HLg.out _ ?_).mono ?_; exact HF.out.below Hbw.out; rintro e w2 ⟨rfl, hb2⟩; refine Hid.out ?_)
  refine Lib.hid ?_
  have hb := Hbw.out.trans (hb2.mono Hbw.out.size)
  have hx := Hbx.out.below hb2
  have hF2 := HF.out.below hb
  clear hb2 Hbw Hbx
  have hth := hx.b2.there (o := 0) (n := 5) (Nat.le_refl _)
  have Hth := Lib.hid hth; clear hth
  have Hb := Lib.hid hb; clear hb
  have Hx := Lib.hid hx; clear hx
  have hAll : ∀ V, Below w2.heap.size w2 V → (V.cell? ⟨w.heap.size, 0, none⟩ = some (.int .i64 op) ∧ V.cell? ⟨w.heap.size, 1, none⟩ = some (.int .i64 a) ∧ V.cell? ⟨w.heap.size, 2, none⟩ = some (.int .i64 b) ∧ V.cell? ⟨w.heap.size, 3, none⟩ = some (.int .i64 c) ∧ V.cell? ⟨w.heap.size, 4, none⟩ = some (.int .i64 imm)
      ∧ V.cell? ⟨w.heap.size + 1, 0, none⟩ = some (.int .u64 x.x0) ∧ V.cell? ⟨w.heap.size + 1, 1, none⟩ = some (.int .u64 x.x1) ∧ V.cell? ⟨w.heap.size + 1, 2, none⟩ = some (.int .u64 x.x2) ∧ V.cell? ⟨w.heap.size + 1, 3, none⟩ = some (.int .u64 x.x3) ∧ V.cell? ⟨w.heap.size + 1, 4, none⟩ = some (.int .u64 x.x4) ∧ V.cell? ⟨w.heap.size + 1, 5, none⟩ = some (.int .u64 x.x5) ∧ V.cell? ⟨w.heap.size + 1, 6, none⟩ = some (.int .u64 x.x6) ∧ V.cell? ⟨w.heap.size + 1, 7, none⟩ = some (.int .u64 x.x7)) := fun V hV =>
    have h := Hx.out.below hV
    ⟨h.b0.cell (i := 0) rfl, h.b0.cell (i := 1) rfl, h.b0.cell (i := 2) rfl, h.b0.cell (i := 3) rfl, h.b0.cell (i := 4) rfl, h.b1.cell (i := 0) rfl, h.b1.cell (i := 1) rfl, h.b1.cell (i := 2) rfl, h.b1.cell (i := 3) rfl, h.b1.cell (i := 4) rfl, h.b1.cell (i := 5) rfl, h.b1.cell (i := 6) rfl, h.b1.cell (i := 7) rfl⟩
  have hSt : ∀ V, Below w2.heap.size w2 V → ∀ v0 v1 v2 v3 v4, (fun V => V.cell? ⟨w.heap.size, 0, none⟩ = some (.int .i64 op) ∧ V.cell? ⟨w.heap.size, 1, none⟩ = some (.int .i64 a) ∧ V.cell? ⟨w.heap.size, 2, none⟩ = some (.int .i64 b) ∧ V.cell? ⟨w.heap.size, 3, none⟩ = some (.int .i64 c) ∧ V.cell? ⟨w.heap.size, 4, none⟩ = some (.int .i64 imm) ∧ V.cell? ⟨w.heap.size + 1, 0, none⟩ = some (.int .u64 x.x0) ∧ V.cell? ⟨w.heap.size + 1, 1, none⟩ = some (.int .u64 x.x1) ∧ V.cell? ⟨w.heap.size + 1, 2, none⟩ = some (.int .u64 x.x2) ∧ V.cell? ⟨w.heap.size + 1, 3, none⟩ = some (.int .u64 x.x3) ∧ V.cell? ⟨w.heap.size + 1, 4, none⟩ = some (.int .u64 x.x4) ∧ V.cell? ⟨w.heap.size + 1, 5, none⟩ = some (.int .u64 x.x5) ∧ V.cell? ⟨w.heap.size + 1, 6, none⟩ = some (.int .u64 x.x6) ∧ V.cell? ⟨w.heap.size + 1, 7, none⟩ = some (.int .u64 x.x7)) (((((V.setCell ⟨w.heap.size + 1 + 1, 0, none⟩ v0).setCell ⟨w.heap.size + 1 + 1, 1, none⟩ v1).setCell ⟨w.heap.size + 1 + 1, 2, none⟩ v2).setCell ⟨w.heap.size + 1 + 1, 3, none⟩ v3).setCell ⟨w.heap.size + 1 + 1, 4, none⟩ v4) := fun V hV v0 v1 v2 v3 v4 =>
    have h := Hx.out.below hV
    have g0 : Holds (((((V.setCell ⟨w.heap.size + 1 + 1, 0, none⟩ v0).setCell ⟨w.heap.size + 1 + 1, 1, none⟩ v1).setCell ⟨w.heap.size + 1 + 1, 2, none⟩ v2).setCell ⟨w.heap.size + 1 + 1, 3, none⟩ v3).setCell ⟨w.heap.size + 1 + 1, 4, none⟩ v4) w.heap.size 51 _ := ((((h.b0.other (by simp; omega) v0).other (by simp; omega) v1).other (by simp; omega) v2).other (by simp; omega) v3).other (by simp; omega) v4
    have g1 : Holds (((((V.setCell ⟨w.heap.size + 1 + 1, 0, none⟩ v0).setCell ⟨w.heap.size + 1 + 1, 1, none⟩ v1).setCell ⟨w.heap.size + 1 + 1, 2, none⟩ v2).setCell ⟨w.heap.size + 1 + 1, 3, none⟩ v3).setCell ⟨w.heap.size + 1 + 1, 4, none⟩ v4) (w.heap.size + 1) 43 _ := ((((h.b1.other (by simp) v0).other (by simp) v1).other (by simp) v2).other (by simp) v3).other (by simp) v4
    ⟨g0.cell (i := 0) rfl, g0.cell (i := 1) rfl, g0.cell (i := 2) rfl, g0.cell (i := 3) rfl, g0.cell (i := 4) rfl, g1.cell (i := 0) rfl, g1.cell (i := 1) rfl, g1.cell (i := 2) rfl, g1.cell (i := 3) rfl, g1.cell (i := 4) rfl, g1.cell (i := 5) rfl, g1.cell (i := 6) rfl, g1.cell (i := 7) rfl⟩
  have HSt := Lib.hid hSt; clear hSt
  have hZ : ∀ V, Below w2.heap.size w2 V → True ∧ V.cell? ⟨w.heap.size + 1 + 1, 0, none⟩ = some (.int .i64 0) ∧ V.frozen? ⟨w.heap.size + 1 + 1, 0, none⟩ = false ∧ V.cell? ⟨w.heap.size + 1 + 1, 1, none⟩ = some (.int .i64 0) ∧ V.frozen? ⟨w.heap.size + 1 + 1, 1, none⟩ = false ∧ V.cell? ⟨w.heap.size + 1 + 1, 2, none⟩ = some (.int .i64 0) ∧ V.frozen? ⟨w.heap.size + 1 + 1, 2, none⟩ = false ∧ V.cell? ⟨w.heap.size + 1 + 1, 3, none⟩ = some (.int .u64 0) ∧ V.frozen? ⟨w.heap.size + 1 + 1, 3, none⟩ = false ∧ V.cell? ⟨w.heap.size + 1 + 1, 4, none⟩ = some (.int .u64 0) ∧ V.frozen? ⟨w.heap.size + 1 + 1, 4, none⟩ = false := fun V hV =>
    have h := Hx.out.below hV
    ⟨trivial, h.b2.cell (i := 0) rfl, h.b2.free 0, h.b2.cell (i := 1) rfl, h.b2.free 1, h.b2.cell (i := 2) rfl, h.b2.free 2, h.b2.cell (i := 3) rfl, h.b2.free 3, h.b2.cell (i := 4) rfl, h.b2.free 4⟩
  have HZ := Lib.hid hZ; clear hZ
  have HAll := Lib.hid hAll
  have hD : Below w2.heap.size w2 w2.drew := below_drew1 (Below.refl _ w2)
  have c0 := (hAll w2 (Below.refl _ _)).1
  clear hAll
  go_wp2_with fail
  have hp1 := Hp1.out
  go_region_held3 (fun V => V.cell? ⟨w.heap.size, 0, none⟩ = some (.int .i64 op) ∧ V.cell? ⟨w.heap.size, 1, none⟩ = some (.int .i64 a) ∧ V.cell? ⟨w.heap.size, 2, none⟩ = some (.int .i64 b) ∧ V.cell? ⟨w.heap.size, 3, none⟩ = some (.int .i64 c) ∧ V.cell? ⟨w.heap.size, 4, none⟩ = some (.int .i64 imm) ∧ V.cell? ⟨w.heap.size + 1, 0, none⟩ = some (.int .u64 x.x0) ∧ V.cell? ⟨w.heap.size + 1, 1, none⟩ = some (.int .u64 x.x1) ∧ V.cell? ⟨w.heap.size + 1, 2, none⟩ = some (.int .u64 x.x2) ∧ V.cell? ⟨w.heap.size + 1, 3, none⟩ = some (.int .u64 x.x3) ∧ V.cell? ⟨w.heap.size + 1, 4, none⟩ = some (.int .u64 x.x4) ∧ V.cell? ⟨w.heap.size + 1, 5, none⟩ = some (.int .u64 x.x5) ∧ V.cell? ⟨w.heap.size + 1, 6, none⟩ = some (.int .u64 x.x6) ∧ V.cell? ⟨w.heap.size + 1, 7, none⟩ = some (.int .u64 x.x7)) (first | with_reducible exact HAll.out _ hD | with_reducible exact HSt.out _ hD _ _ _ _ _) (first | (go_at_call 25; (with_reducible refine (HA.out _).mono ?_); rintro e V ⟨rfl, hE⟩; replace hD := hD.trans (hE.mono hD.size); obtain ⟨-, z0, f0, z1, f1, z2, f2, z3, f3, z4, f4⟩ := HZ.out _ hD))
  have hfin := (Hx.out.below hD).fin5 (Hb.out.trans (hD.mono Hb.out.size)) ⟨1, pc + 1, a, ad, 0⟩
  dsimp only at hfin
  clear Hx HAll HSt HZ hD HA Hth Hb
  generalize (((((V.setCell ⟨w.heap.size + 1 + 1, 0, none⟩ (.int .i64 (1))).setCell ⟨w.heap.size + 1 + 1, 1, none⟩ (.int .i64 (pc + 1))).setCell ⟨w.heap.size + 1 + 1, 2, none⟩ (.int .i64 (a))).setCell ⟨w.heap.size + 1 + 1, 3, none⟩ (.int .u64 (ad))).setCell ⟨w.heap.size + 1 + 1, 4, none⟩ (.int .u64 (0))) = W5 at hfin ⊢
  obtain ⟨hf1, hf2⟩ := hfin
  have Hf1 := Lib.hid hf1; clear hf1
  have Hf2 := Lib.hid hf2; clear hf2
  go_wp2
  exact bodyPost_ret (results_c rfl rfl (Tryz.loadEf ⟨1, pc + 1, a, ad, 0⟩ Hf1.out)) rfl ⟨rfl, Hf2.out⟩

set_option maxRecDepth 100000 in
set_option maxHeartbeats 2000000 in
theorem do_br (op : Int) (a b c imm : Int) (x : L8) (pc : Int) (w : World) (hF : FormsAt w) (h0 : 0 ≤ pc) (h1 : pc < 1024) (hl : legalP ⟨op, a, b, c, imm⟩ = true) (h2 : 13 ≤ op) (h10 : op ≤ 16) (z : Ef) (hA : ∀ W n, n = pc + 1 → Calls Tryz.prog 24 #[(In.mk op a b c imm).val, x.val, .int .i64 n] W fun e w' => e = .returned z.value ∧ Below W.heap.size W w') : Calls Tryz.prog 15 #[(In.mk op a b c imm).val, x.val, .int .i64 pc] w fun e w' => e = .returned (Ef.value z) ∧ Below w.heap.size w w' := by
  simp only [In.val, L8.val] at hA
  have HA := Lib.hid hA; clear hA
  have e1 : (op == 1) = false := by rw [beq_eq_false_iff_ne]; omega
  have e17 : (op == 17) = false := by rw [beq_eq_false_iff_ne]; omega
  have e18 : (op == 18) = false := by rw [beq_eq_false_iff_ne]; omega
  have e11 : (op == 11) = false := by rw [beq_eq_false_iff_ne]; omega
  have e12 : (op == 12) = false := by rw [beq_eq_false_iff_ne]; omega
  have hLg := fun W hW => legal_any ⟨op, a, b, c, imm⟩ W hW
  rw [hl] at hLg
  have HLg := Lib.hid hLg; clear hLg hl
  have HF := Lib.hid hF; clear hF
  have hbx := bx3_new w ⟨op, a, b, c, imm⟩ x
  have hbw : Below w.heap.size w (((w.alloc (.cells (In.cells ⟨op, a, b, c, imm⟩).toArray 51)).alloc (.cells x.cells.toArray 43)).alloc (.cells Ef.zero.cells.toArray 48)) := ((((Below.refl _ w).alloc (Nat.le_refl _) _).alloc (by simp) _).alloc (by simp; omega) _)
  have Hbx := Lib.hid hbx; clear hbx
  have Hbw := Lib.hid hbw; clear hbw
  go_enter Tryz.func15, Tryz.ntmps15
  unfold In.val L8.val
  go_wp2_with (go_at_call 22; refine (HLg.out _ ?_).mono ?_; exact HF.out.below Hbw.out; rintro e w2 ⟨rfl, hb2⟩; refine Hid.out ?_)
  refine Lib.hid ?_
  have hb := Hbw.out.trans (hb2.mono Hbw.out.size)
  have hx := Hbx.out.below hb2
  have hF2 := HF.out.below hb
  clear hb2 Hbw Hbx
  have hth := hx.b2.there (o := 0) (n := 5) (Nat.le_refl _)
  have Hth := Lib.hid hth; clear hth
  have Hb := Lib.hid hb; clear hb
  have Hx := Lib.hid hx; clear hx
  have hAll : ∀ V, Below w2.heap.size w2 V → (V.cell? ⟨w.heap.size, 0, none⟩ = some (.int .i64 op) ∧ V.cell? ⟨w.heap.size, 1, none⟩ = some (.int .i64 a) ∧ V.cell? ⟨w.heap.size, 2, none⟩ = some (.int .i64 b) ∧ V.cell? ⟨w.heap.size, 3, none⟩ = some (.int .i64 c) ∧ V.cell? ⟨w.heap.size, 4, none⟩ = some (.int .i64 imm)
      ∧ V.cell? ⟨w.heap.size + 1, 0, none⟩ = some (.int .u64 x.x0) ∧ V.cell? ⟨w.heap.size + 1, 1, none⟩ = some (.int .u64 x.x1) ∧ V.cell? ⟨w.heap.size + 1, 2, none⟩ = some (.int .u64 x.x2) ∧ V.cell? ⟨w.heap.size + 1, 3, none⟩ = some (.int .u64 x.x3) ∧ V.cell? ⟨w.heap.size + 1, 4, none⟩ = some (.int .u64 x.x4) ∧ V.cell? ⟨w.heap.size + 1, 5, none⟩ = some (.int .u64 x.x5) ∧ V.cell? ⟨w.heap.size + 1, 6, none⟩ = some (.int .u64 x.x6) ∧ V.cell? ⟨w.heap.size + 1, 7, none⟩ = some (.int .u64 x.x7)) := fun V hV =>
    have h := Hx.out.below hV
    ⟨h.b0.cell (i := 0) rfl, h.b0.cell (i := 1) rfl, h.b0.cell (i := 2) rfl, h.b0.cell (i := 3) rfl, h.b0.cell (i := 4) rfl, h.b1.cell (i := 0) rfl, h.b1.cell (i := 1) rfl, h.b1.cell (i := 2) rfl, h.b1.cell (i := 3) rfl, h.b1.cell (i := 4) rfl, h.b1.cell (i := 5) rfl, h.b1.cell (i := 6) rfl, h.b1.cell (i := 7) rfl⟩
  have HAll := Lib.hid hAll
  obtain ⟨c0, c1, c2, c3, c4, d0, d1, d2, d3, d4, d5, d6, d7⟩ := hAll w2 (Below.refl _ _)
  clear hAll Hth
  go_wp2_with (go_at_call 24; refine (HA.out _ _ rfl).mono ?_; rintro e V ⟨rfl, hD⟩; refine Hid.out ?_)
  all_goals
    refine Lib.hid ?_
    have hx3 := Hx.out.below hD
    have hbb := Hb.out.trans (hD.mono Hb.out.size)
    have Hth := Lib.hid (hx3.b2.there (o := 0) (n := 5) (Nat.le_refl _))
    have Hx3 := Lib.hid hx3; clear hx3
    have Hbb := Lib.hid hbb; clear hbb
    go_wp2_with (refine wpList_store_mid rfl 48 (.tmp 6) (.tmp 64) rfl (w.heap.size + 2) 0 (Ef.cells z).toArray rfl rfl ?_ Tryz.sizeEf (oneEf _) ?_; exact Hth.out; change wpList _ _ _ _ _ (V.setCells (w.heap.size + 2) 0 (Ef.cells z)))
    exact bodyPost_ret (results_c rfl rfl (Tryz.loadEf z (Hx3.out.fin rfl Hbb.out _).1)) rfl ⟨rfl, (Hx3.out.fin rfl Hbb.out _).2⟩

theorem do_any (i : In) (x : L8) (pc : Int) (w : World) (hF : FormsAt w) (hx : x.Ok) : Calls Tryz.prog 15 #[i.val, x.val, .int .i64 pc] w fun e w' => e = .returned (doP i x pc).value ∧ Below w.heap.size w w' := by
  cases hl : legalP i with
  | false =>
    have hd : doP i x pc = Ef.zero := by simp [doP, hl]
    rw [hd]; exact do_illegal i.op i.a i.b i.c i.imm x pc w hF hl
  | true =>
    by_cases h0 : pc < 0
    · have hd : doP i x pc = Ef.zero := by simp [doP, h0]
      rw [hd]; exact do_low i.op i.a i.b i.c i.imm x pc w hF hl h0
    · by_cases h1 : 1024 ≤ pc
      · have hd : doP i x pc = Ef.zero := by simp [doP, h1]
        rw [hd]; exact do_high i.op i.a i.b i.c i.imm x pc w hF hl (by omega) h1
      · obtain ⟨hop, hk⟩ := legal_regs hl
        have hbr := fun W n => branch_any i x n W hl
        have hvl := fun W => value_any i x W hx hl
        have had := fun W => addr_any i x W
        have hno : ¬ (legalP i = false ∨ pc < 0 ∨ 1024 ≤ pc) := by simp [hl]; omega
        rw [doP, if_neg hno]
        clear hno
        obtain ⟨op, a, b, c, imm⟩ := i
        simp only at hop hvl ⊢
        have h0' : 0 ≤ pc := by omega
        have h1' : pc < 1024 := by omega
        by_cases k1 : op = 1
        · subst k1; exact do_1 a b c imm x pc w hF h0' h1' hl
        · by_cases k17 : op = 17
          · subst k17; exact do_17 a b c imm x pc w hF h0' h1' hl
          · by_cases k18 : op = 18
            · subst k18; exact do_18 a b c imm x pc w hF h0' h1' hl
            · by_cases k11 : op = 11
              · subst k11
                obtain ⟨r, hr, h8⟩ := hk 2 (show 2 ∈ regPl (mask 11) by decide)
                exact do_11 a b c imm x pc w hF h0' h1' hl _ (fun W => had W r hr h8)
              · by_cases k12 : op = 12
                · subst k12
                  obtain ⟨r, hr, h8⟩ := hk 2 (show 2 ∈ regPl (mask 12) by decide)
                  obtain ⟨s, hs, h9⟩ := hk 1 (show 1 ∈ regPl (mask 12) by decide)
                  have := do_12 a b c imm x pc w hF h0' h1' hl s hs h9 _ (fun W => had W r hr h8)
                  rw [if_neg (by decide), if_neg (by decide), if_neg (by decide), if_neg (by decide), if_pos rfl]
                  have e : a.toNat = s := by have : a = s := hs; omega
                  rw [e]; exact this
                · rw [if_neg k1, if_neg k17, if_neg k18, if_neg k11, if_neg k12]
                  by_cases kb : op = 13 ∨ op = 14 ∨ op = 15 ∨ op = 16
                  · rw [if_pos kb]
                    exact do_br op a b c imm x pc w hF h0' h1' hl (by omega) (by omega) _ (fun W n hn => by subst hn; exact hbr W _)
                  · rw [if_neg kb]
                    exact do_set op a b c imm x pc w hF h0' h1' hl (by omega) (by omega) _ (fun W => hvl W (by omega) (by omega))

end Go.Proofs.YtehnailokgoekaaGreatDoor
