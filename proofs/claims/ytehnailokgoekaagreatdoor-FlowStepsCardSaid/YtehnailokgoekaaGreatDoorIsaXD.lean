/- Do: what an instruction asks for. Conditions: those stated in each theorem. -/
import Derived.Test.YtehnailokgoekaaGreatDoorIsaXC
import Derived.Deep.RegionHeld3
import Derived.StillTailTactics
import Derived.IntWalk
namespace Go.Proofs.YtehnailokgoekaaGreatDoor
open Go.RowKit Go.BigFrame

theorem oneEf (e : Ef) : (e.cells.toArray).all (·.oneCell') = true := by simp [Ef.cells, Value.oneCell']
theorem Tryz.sizeEf : (Tryz.prog.info? 48).map (·.size) = some 5 := by kernel_rfl
theorem Tryz.loadEf {w : World} {b : Nat} (e : Ef) (h : Holds w b 48 e.cells) : (loadVar 48 ⟨b, 0, none⟩).run Tryz.prog w = .ok e.value w :=
  run_loadVar_mid w b 0 48 e.cells _ h.full Tryz.underlying48 rfl Tryz.sizeEf

/-- Do's three boxes. -/
structure Bx3 (w : World) (N : Nat) (i : In) (x : L8) : Prop where
  b0 : Holds w N 51 i.cells
  b1 : Holds w (N + 1) 43 x.cells
  b2 : Holds w (N + 2) 48 Ef.zero.cells
theorem Bx3.below {w w' : World} {N : Nat} {i : In} {x : L8} (h : Bx3 w N i x) (hb : Below w.heap.size w w') : Bx3 w' N i x := ⟨h.b0.below hb, h.b1.below hb, h.b2.below hb⟩
theorem bx3_new (w : World) (i : In) (x : L8) : Bx3 (((w.alloc (.cells i.cells.toArray 51)).alloc (.cells x.cells.toArray 43)).alloc (.cells Ef.zero.cells.toArray 48)) w.heap.size i x :=
  ⟨((Holds.new w _ _).alloc _).alloc _, (newAt (by simp) _ _).alloc _, newAt (by simp) _ _⟩

/-- Behind the last store: the box holds what is answered. -/
theorem Bx3.fin {w w' : World} {N : Nat} {i : In} {x : L8} (h : Bx3 w' N i x) (hN : N = w.heap.size) (hb : Below w.heap.size w w') (e : Ef) : Holds (w'.setCells (N + 2) 0 e.cells) (N + 2) 48 e.cells ∧ Below w.heap.size w (w'.setCells (N + 2) 0 e.cells) :=
  ⟨h.b2.sets e.cells 0, below_cells (by omega) _ _ _ hb⟩

set_option maxRecDepth 100000 in
set_option maxHeartbeats 2000000 in
theorem do_1 (a b c imm : Int) (x : L8) (pc : Int) (w : World) (hF : FormsAt w) (h0 : 0 ≤ pc) (h1 : pc < 1024) (hl : legalP ⟨1, a, b, c, imm⟩ = true) : Calls Tryz.prog 15 #[(In.mk 1 a b c imm).val, x.val, .int .i64 pc] w fun e w' => e = .returned (Ef.value ⟨7, pc + 1, 0, 0, 0⟩) ∧ Below w.heap.size w w' := by
  have hLg := fun W hW => legal_any ⟨1, a, b, c, imm⟩ W hW
  rw [hl] at hLg
  have HLg := Lib.hid hLg; clear hLg hl
  have HF := Lib.hid hF; clear hF
  have hbx := bx3_new w ⟨1, a, b, c, imm⟩ x
  have hbw : Below w.heap.size w (((w.alloc (.cells (In.cells ⟨1, a, b, c, imm⟩).toArray 51)).alloc (.cells x.cells.toArray 43)).alloc (.cells Ef.zero.cells.toArray 48)) := ((((Below.refl _ w).alloc (Nat.le_refl _) _).alloc (by simp) _).alloc (by simp; omega) _)
  have Hbx := Lib.hid hbx; clear hbx
  have Hbw := Lib.hid hbw; clear hbw
  go_enter Tryz.func15, Tryz.ntmps15
  unfold In.val L8.val
  go_wp2_with (go_at_call 22; refine (HLg.out _ ?_).mono ?_; exact HF.out.below Hbw.out; rintro e w2 ⟨rfl, hb2⟩; refine Hid.out ?_)
  refine Lib.hid ?_
  have hb := Hbw.out.trans (hb2.mono Hbw.out.size)
  have hx := Hbx.out.below hb2
  have hF2 := HF.out.below hb
  clear hb2 Hbw Hbx
  have hth := hx.b2.there (o := 0) (n := 5) (Nat.le_refl _)
  have Hth := Lib.hid hth; clear hth
  have Hb := Lib.hid hb; clear hb
  have Hx := Lib.hid hx; clear hx
  have c0 := Hx.out.b0.cell (i := 0) rfl
  go_wp2_with (refine wpList_store_mid rfl 48 (.tmp 6) (.tmp 27) rfl (w.heap.size + 2) 0 (Ef.cells ⟨7, pc + 1, 0, 0, 0⟩).toArray rfl rfl ?_ Tryz.sizeEf (oneEf _) ?_; exact Hth.out; change wpList _ _ _ _ _ (w2.setCells (w.heap.size + 2) 0 (Ef.cells ⟨7, pc + 1, 0, 0, 0⟩)))
  refine bodyPost_ret (results_c rfl rfl (Tryz.loadEf ⟨7, pc + 1, 0, 0, 0⟩ (Hx.out.fin rfl Hb.out _).1)) rfl ⟨rfl, (Hx.out.fin rfl Hb.out _).2⟩

set_option maxRecDepth 100000 in
set_option maxHeartbeats 2000000 in
theorem do_17 (a b c imm : Int) (x : L8) (pc : Int) (w : World) (hF : FormsAt w) (h0 : 0 ≤ pc) (h1 : pc < 1024) (hl : legalP ⟨17, a, b, c, imm⟩ = true) : Calls Tryz.prog 15 #[(In.mk 17 a b c imm).val, x.val, .int .i64 pc] w fun e w' => e = .returned (Ef.value ⟨5, pc + 1, 0, 0, 0⟩) ∧ Below w.heap.size w w' := by
  have hLg := fun W hW => legal_any ⟨17, a, b, c, imm⟩ W hW
  rw [hl] at hLg
  have HLg := Lib.hid hLg; clear hLg hl
  have HF := Lib.hid hF; clear hF
  have hbx := bx3_new w ⟨17, a, b, c, imm⟩ x
  have hbw : Below w.heap.size w (((w.alloc (.cells (In.cells ⟨17, a, b, c, imm⟩).toArray 51)).alloc (.cells x.cells.toArray 43)).alloc (.cells Ef.zero.cells.toArray 48)) := ((((Below.refl _ w).alloc (Nat.le_refl _) _).alloc (by simp) _).alloc (by simp; omega) _)
  have Hbx := Lib.hid hbx; clear hbx
  have Hbw := Lib.hid hbw; clear hbw
  go_enter Tryz.func15, Tryz.ntmps15
  unfold In.val L8.val
  go_wp2_with (go_at_call 22; refine (HLg.out _ ?_).mono ?_; exact HF.out.below Hbw.out; rintro e w2 ⟨rfl, hb2⟩; refine Hid.out ?_)
  refine Lib.hid ?_
  have hb := Hbw.out.trans (hb2.mono Hbw.out.size)
  have hx := Hbx.out.below hb2
  have hF2 := HF.out.below hb
  clear hb2 Hbw Hbx
  have hth := hx.b2.there (o := 0) (n := 5) (Nat.le_refl _)
  have Hth := Lib.hid hth; clear hth
  have Hb := Lib.hid hb; clear hb
  have Hx := Lib.hid hx; clear hx
  have c0 := Hx.out.b0.cell (i := 0) rfl
  go_wp2_with (refine wpList_store_mid rfl 48 (.tmp 6) (.tmp 31) rfl (w.heap.size + 2) 0 (Ef.cells ⟨5, pc + 1, 0, 0, 0⟩).toArray rfl rfl ?_ Tryz.sizeEf (oneEf _) ?_; exact Hth.out; change wpList _ _ _ _ _ (w2.setCells (w.heap.size + 2) 0 (Ef.cells ⟨5, pc + 1, 0, 0, 0⟩)))
  refine bodyPost_ret (results_c rfl rfl (Tryz.loadEf ⟨5, pc + 1, 0, 0, 0⟩ (Hx.out.fin rfl Hb.out _).1)) rfl ⟨rfl, (Hx.out.fin rfl Hb.out _).2⟩

set_option maxRecDepth 100000 in
set_option maxHeartbeats 2000000 in
theorem do_18 (a b c imm : Int) (x : L8) (pc : Int) (w : World) (hF : FormsAt w) (h0 : 0 ≤ pc) (h1 : pc < 1024) (hl : legalP ⟨18, a, b, c, imm⟩ = true) : Calls Tryz.prog 15 #[(In.mk 18 a b c imm).val, x.val, .int .i64 pc] w fun e w' => e = .returned (Ef.value ⟨6, pc + 1, 0, 0, 0⟩) ∧ Below w.heap.size w w' := by
  have hLg := fun W hW => legal_any ⟨18, a, b, c, imm⟩ W hW
  rw [hl] at hLg
  have HLg := Lib.hid hLg; clear hLg hl
  have HF := Lib.hid hF; clear hF
  have hbx := bx3_new w ⟨18, a, b, c, imm⟩ x
  have hbw : Below w.heap.size w (((w.alloc (.cells (In.cells ⟨18, a, b, c, imm⟩).toArray 51)).alloc (.cells x.cells.toArray 43)).alloc (.cells Ef.zero.cells.toArray 48)) := ((((Below.refl _ w).alloc (Nat.le_refl _) _).alloc (by simp) _).alloc (by simp; omega) _)
  have Hbx := Lib.hid hbx; clear hbx
  have Hbw := Lib.hid hbw; clear hbw
  go_enter Tryz.func15, Tryz.ntmps15
  unfold In.val L8.val
  go_wp2_with (go_at_call 22; refine (HLg.out _ ?_).mono ?_; exact HF.out.below Hbw.out; rintro e w2 ⟨rfl, hb2⟩; refine Hid.out ?_)
  refine Lib.hid ?_
  have hb := Hbw.out.trans (hb2.mono Hbw.out.size)
  have hx := Hbx.out.below hb2
  have hF2 := HF.out.below hb
  clear hb2 Hbw Hbx
  have hth := hx.b2.there (o := 0) (n := 5) (Nat.le_refl _)
  have Hth := Lib.hid hth; clear hth
  have Hb := Lib.hid hb; clear hb
  have Hx := Lib.hid hx; clear hx
  have c0 := Hx.out.b0.cell (i := 0) rfl
  go_wp2_with (refine wpList_store_mid rfl 48 (.tmp 6) (.tmp 35) rfl (w.heap.size + 2) 0 (Ef.cells ⟨6, pc + 1, 0, 0, 0⟩).toArray rfl rfl ?_ Tryz.sizeEf (oneEf _) ?_; exact Hth.out; change wpList _ _ _ _ _ (w2.setCells (w.heap.size + 2) 0 (Ef.cells ⟨6, pc + 1, 0, 0, 0⟩)))
  refine bodyPost_ret (results_c rfl rfl (Tryz.loadEf ⟨6, pc + 1, 0, 0, 0⟩ (Hx.out.fin rfl Hb.out _).1)) rfl ⟨rfl, (Hx.out.fin rfl Hb.out _).2⟩

theorem Bx3.fin5 {w w' : World} {i : In} {x : L8} (h : Bx3 w' w.heap.size i x) (hb : Below w.heap.size w w') (e : Ef) : Holds (((((w'.setCell ⟨w.heap.size + 1 + 1, 0, none⟩ (.int .i64 e.kind)).setCell ⟨w.heap.size + 1 + 1, 1, none⟩ (.int .i64 e.next)).setCell ⟨w.heap.size + 1 + 1, 2, none⟩ (.int .i64 e.reg)).setCell ⟨w.heap.size + 1 + 1, 3, none⟩ (.int .u64 e.val)).setCell ⟨w.heap.size + 1 + 1, 4, none⟩ (.int .u64 e.addr)) (w.heap.size + 1 + 1) 48 e.cells ∧ Below w.heap.size w (((((w'.setCell ⟨w.heap.size + 1 + 1, 0, none⟩ (.int .i64 e.kind)).setCell ⟨w.heap.size + 1 + 1, 1, none⟩ (.int .i64 e.next)).setCell ⟨w.heap.size + 1 + 1, 2, none⟩ (.int .i64 e.reg)).setCell ⟨w.heap.size + 1 + 1, 3, none⟩ (.int .u64 e.val)).setCell ⟨w.heap.size + 1 + 1, 4, none⟩ (.int .u64 e.addr)) := h.fin rfl hb e

set_option maxRecDepth 100000 in
set_option maxHeartbeats 2000000 in
theorem do_illegal (op : Int) (a b c imm : Int) (x : L8) (pc : Int) (w : World) (hF : FormsAt w) (hl : legalP ⟨op, a, b, c, imm⟩ = false) : Calls Tryz.prog 15 #[(In.mk op a b c imm).val, x.val, .int .i64 pc] w fun e w' => e = .returned (Ef.value Ef.zero) ∧ Below w.heap.size w w' := by
  have hLg := fun W hW => legal_any ⟨op, a, b, c, imm⟩ W hW
  rw [hl] at hLg
  have HLg := Lib.hid hLg; clear hLg hl
  have HF := Lib.hid hF; clear hF
  have hbx := bx3_new w ⟨op, a, b, c, imm⟩ x
  have hbw : Below w.heap.size w (((w.alloc (.cells (In.cells ⟨op, a, b, c, imm⟩).toArray 51)).alloc (.cells x.cells.toArray 43)).alloc (.cells Ef.zero.cells.toArray 48)) := ((((Below.refl _ w).alloc (Nat.le_refl _) _).alloc (by simp) _).alloc (by simp; omega) _)
  have Hbx := Lib.hid hbx; clear hbx
  have Hbw := Lib.hid hbw; clear hbw
  go_enter Tryz.func15, Tryz.ntmps15
  unfold In.val L8.val
  go_wp2_with (go_at_call 22; refine (HLg.out _ ?_).mono ?_; exact HF.out.below Hbw.out; rintro e w2 ⟨rfl, hb2⟩; refine Hid.out ?_)
  refine Lib.hid ?_
  have hb := Hbw.out.trans (hb2.mono Hbw.out.size)
  have hx := Hbx.out.below hb2
  have hF2 := HF.out.below hb
  clear hb2 Hbw Hbx
  have hth := hx.b2.there (o := 0) (n := 5) (Nat.le_refl _)
  have Hth := Lib.hid hth; clear hth
  have Hb := Lib.hid hb; clear hb
  have Hx := Lib.hid hx; clear hx
  go_wp2_with (refine wpList_store_mid rfl 48 (.tmp 6) (.tmp 19) rfl (w.heap.size + 2) 0 (Ef.cells Ef.zero).toArray rfl rfl ?_ Tryz.sizeEf (oneEf _) ?_; exact Hth.out; change wpList _ _ _ _ _ (w2.setCells (w.heap.size + 2) 0 (Ef.cells Ef.zero)))
  refine bodyPost_ret (results_c rfl rfl (Tryz.loadEf Ef.zero (Hx.out.fin rfl Hb.out _).1)) rfl ⟨rfl, (Hx.out.fin rfl Hb.out _).2⟩

set_option maxRecDepth 100000 in
set_option maxHeartbeats 2000000 in
theorem do_low (op : Int) (a b c imm : Int) (x : L8) (pc : Int) (w : World) (hF : FormsAt w) (hl : legalP ⟨op, a, b, c, imm⟩ = true) (h0 : pc < 0) : Calls Tryz.prog 15 #[(In.mk op a b c imm).val, x.val, .int .i64 pc] w fun e w' => e = .returned (Ef.value Ef.zero) ∧ Below w.heap.size w w' := by
  have hLg := fun W hW => legal_any ⟨op, a, b, c, imm⟩ W hW
  rw [hl] at hLg
  have HLg := Lib.hid hLg; clear hLg hl
  have HF := Lib.hid hF; clear hF
  have hbx := bx3_new w ⟨op, a, b, c, imm⟩ x
  have hbw : Below w.heap.size w (((w.alloc (.cells (In.cells ⟨op, a, b, c, imm⟩).toArray 51)).alloc (.cells x.cells.toArray 43)).alloc (.cells Ef.zero.cells.toArray 48)) := ((((Below.refl _ w).alloc (Nat.le_refl _) _).alloc (by simp) _).alloc (by simp; omega) _)
  have Hbx := Lib.hid hbx; clear hbx
  have Hbw := Lib.hid hbw; clear hbw
  go_enter Tryz.func15, Tryz.ntmps15
  unfold In.val L8.val
  go_wp2_with (go_at_call 22; refine (HLg.out _ ?_).mono ?_; exact HF.out.below Hbw.out; rintro e w2 ⟨rfl, hb2⟩; refine Hid.out ?_)
  refine Lib.hid ?_
  have hb := Hbw.out.trans (hb2.mono Hbw.out.size)
  have hx := Hbx.out.below hb2
  have hF2 := HF.out.below hb
  clear hb2 Hbw Hbx
  have hth := hx.b2.there (o := 0) (n := 5) (Nat.le_refl _)
  have Hth := Lib.hid hth; clear hth
  have Hb := Lib.hid hb; clear hb
  have Hx := Lib.hid hx; clear hx
  go_wp2_with (refine wpList_store_mid rfl 48 (.tmp 6) (.tmp 19) rfl (w.heap.size + 2) 0 (Ef.cells Ef.zero).toArray rfl rfl ?_ Tryz.sizeEf (oneEf _) ?_; exact Hth.out; change wpList _ _ _ _ _ (w2.setCells (w.heap.size + 2) 0 (Ef.cells Ef.zero)))
  refine bodyPost_ret (results_c rfl rfl (Tryz.loadEf Ef.zero (Hx.out.fin rfl Hb.out _).1)) rfl ⟨rfl, (Hx.out.fin rfl Hb.out _).2⟩

set_option maxRecDepth 100000 in
set_option maxHeartbeats 2000000 in
theorem do_high (op : Int) (a b c imm : Int) (x : L8) (pc : Int) (w : World) (hF : FormsAt w) (hl : legalP ⟨op, a, b, c, imm⟩ = true) (h0 : 0 ≤ pc) (h1 : 1024 ≤ pc) : Calls Tryz.prog 15 #[(In.mk op a b c imm).val, x.val, .int .i64 pc] w fun e w' => e = .returned (Ef.value Ef.zero) ∧ Below w.heap.size w w' := by
  have hLg := fun W hW => legal_any ⟨op, a, b, c, imm⟩ W hW
  rw [hl] at hLg
  have HLg := Lib.hid hLg; clear hLg hl
  have HF := Lib.hid hF; clear hF
  have hbx := bx3_new w ⟨op, a, b, c, imm⟩ x
  have hbw : Below w.heap.size w (((w.alloc (.cells (In.cells ⟨op, a, b, c, imm⟩).toArray 51)).alloc (.cells x.cells.toArray 43)).alloc (.cells Ef.zero.cells.toArray 48)) := ((((Below.refl _ w).alloc (Nat.le_refl _) _).alloc (by simp) _).alloc (by simp; omega) _)
  have Hbx := Lib.hid hbx; clear hbx
  have Hbw := Lib.hid hbw; clear hbw
  go_enter Tryz.func15, Tryz.ntmps15
  unfold In.val L8.val
  go_wp2_with (go_at_call 22; refine (HLg.out _ ?_).mono ?_; exact HF.out.below Hbw.out; rintro e w2 ⟨rfl, hb2⟩; refine Hid.out ?_)
  refine Lib.hid ?_
  have hb := Hbw.out.trans (hb2.mono Hbw.out.size)
  have hx := Hbx.out.below hb2
  have hF2 := HF.out.below hb
  clear hb2 Hbw Hbx
  have hth := hx.b2.there (o := 0) (n := 5) (Nat.le_refl _)
  have Hth := Lib.hid hth; clear hth
  have Hb := Lib.hid hb; clear hb
  have Hx := Lib.hid hx; clear hx
  go_wp2_with (refine wpList_store_mid rfl 48 (.tmp 6) (.tmp 19) rfl (w.heap.size + 2) 0 (Ef.cells Ef.zero).toArray rfl rfl ?_ Tryz.sizeEf (oneEf _) ?_; exact Hth.out; change wpList _ _ _ _ _ (w2.setCells (w.heap.size + 2) 0 (Ef.cells Ef.zero)))
  refine bodyPost_ret (results_c rfl rfl (Tryz.loadEf Ef.zero (Hx.out.fin rfl Hb.out _).1)) rfl ⟨rfl, (Hx.out.fin rfl Hb.out _).2⟩

end Go.Proofs.YtehnailokgoekaaGreatDoor
