/- The document's own Do: branches; any instruction. Conditions: those stated in each theorem. -/
import Derived.Test.YthjbcpgncnchoaaIsaT
import Derived.Deep.CutBlock
namespace Go.Proofs.Ythjbcpgncnchoaa
open Go.RowKit Go.BigFrame

set_option maxRecDepth 100000 in
set_option maxHeartbeats 4000000 in
theorem rdo_13 (a : Int) (b : Int) (c : Int) (imm : Int) (x : L8) (pc : Int) (w : World) (h0 : 0 ≤ pc) (h1 : pc < 1024) 
    (hS : ∀ W, Calls Try.prog 65 #[.int .i64 13] W fun e w' => e = .returned (.tuple #[.agg #[.string (wordS 13), .bool false, .bool false, .bool false, .bool true], .bool true]) ∧ Below W.heap.size W w')
    (hL : ∀ W, Calls Try.prog 39 #[(In.mk 13 a b c imm).val] W fun e w' => e = .returned (.bool true) ∧ Below W.heap.size W w') :
    Calls Try.prog 61 #[(In.mk 13 a b c imm).val, x.val, .int .i64 pc] w fun e w' => e = .returned (Ef.value (branchP (In.mk 13 a b c imm) x (pc + 1))) ∧ Below w.heap.size w w' := by
  simp only [In.val] at hL
  have HS := Lib.hid hS; clear hS
  have HL := Lib.hid hL; clear hL
  have hbx := bx3_new w (In.mk 13 a b c imm) x
  have hbw : Below w.heap.size w (((w.alloc (.cells (In.cells (In.mk 13 a b c imm)).toArray 40)).alloc (.cells x.cells.toArray 63)).alloc (.cells Ef.zero.cells.toArray 82)) := ((((Below.refl _ w).alloc (Nat.le_refl _) _).alloc (by simp) _).alloc (by simp; omega) _)
  have Hbx := Lib.hid hbx; clear hbx
  have Hbw := Lib.hid hbw; clear hbw
  go_enter Try.func61, Try.ntmps61
  unfold In.val L8.val
  go_wp2_with (go_at_call 65; refine (HS.out _).mono ?_; rintro e w2 ⟨rfl, hb2⟩; refine Hid.out ?_)
  refine Lib.hid ?_
  have hb := Hbw.out.trans (hb2.mono Hbw.out.size)
  have hx := Hbx.out.below hb2
  clear hb2 Hbw Hbx
  have Hb2 := Lib.hid hb; clear hb
  have Hx2 := Lib.hid hx; clear hx
  have b0 : ∀ o, Holds (w2.alloc o) w.heap.size 40 (In.cells (In.mk 13 a b c imm)) := fun o => Hx2.out.b0.alloc o
  have k0 := fun o => (b0 o).cell (i := 0) rfl
  have k1 := fun o => (b0 o).cell (i := 1) rfl
  have k2 := fun o => (b0 o).cell (i := 2) rfl
  have k3 := fun o => (b0 o).cell (i := 3) rfl
  have k4 := fun o => (b0 o).cell (i := 4) rfl
  clear b0
  go_wp2_with (go_at_call 39; refine (HL.out _).mono ?_; rintro e w3 ⟨rfl, hb3⟩; refine Hid.out ?_)
  refine Lib.hid ?_
  clear k0 k1 k2 k3 k4
  have hy : Below w2.heap.size w2 w3 := ((Below.refl _ w2).alloc (Nat.le_refl _) _).trans (hb3.mono (by simp))
  have hx3 := Hx2.out.below hy
  have hb := Hb2.out.trans (hy.mono Hb2.out.size)
  have hs : Holds w3 w2.heap.size 87 [.string (wordS 13), .bool false, .bool false, .bool false, .bool true] := (Holds.new w2 87 [.string (wordS 13), .bool false, .bool false, .bool false, .bool true]).below hb3
  clear hy hb3
  have Hx3 := Lib.hid hx3; clear hx3
  have Hb3 := Lib.hid hb; clear hb
  have k0 : ∀ o, (w3.alloc o).cell? ⟨w.heap.size, 0, none⟩ = _ := fun o => (Hx3.out.b0.alloc o).cell (i := 0) rfl
  have k1 : ∀ o, (w3.alloc o).cell? ⟨w.heap.size, 1, none⟩ = _ := fun o => (Hx3.out.b0.alloc o).cell (i := 1) rfl
  have k4 : ∀ o, (w3.alloc o).cell? ⟨w.heap.size, 4, none⟩ = _ := fun o => (Hx3.out.b0.alloc o).cell (i := 4) rfl
  have l1 := Hx3.out.b0.cell (i := 1) rfl
  have l2 := Hx3.out.b0.cell (i := 2) rfl
  have l3 := Hx3.out.b0.cell (i := 3) rfl
  have s1 := hs.cell (i := 1) rfl
  have s2 := hs.cell (i := 2) rfl
  have s3 := hs.cell (i := 3) rfl
  have Hth := Lib.hid fun o => ((Hx3.out.b2.alloc o).there (o := 0) (n := 5) (Nat.le_refl _))
  clear hs
  have hbr : goesP (In.mk 13 a b c imm) x = true := by simp [goesP]
  by_cases hi : imm < 0
  · have e : branchP (In.mk 13 a b c imm) x (pc + 1) = Ef.zero := by simp [branchP, hbr, hi]
    have He := Lib.hid e; clear e hbr
    go_upto_region 44 with fail
    go_wp2_with (refine wpList_store_mid rfl 82 (.tmp 6) (.tmp 185) rfl (w.heap.size + 2) 0 (Ef.cells Ef.zero).toArray rfl rfl ?_ Try.sizeEf (oneEf _) ?_; exact Hth.out _; change wpList _ _ _ _ _ (World.setCells (w3.alloc (.cells (Ef.cells ⟨2, imm, 0, 0, 0⟩).toArray 82)) (w.heap.size + 2) 0 (Ef.cells Ef.zero)))
    exact bodyPost_ret (results_c rfl rfl (Try.loadEf Ef.zero (setEf Hx3.out _ _))) rfl ⟨by rw [He.out], belEf Hb3.out _ _ (by omega) _⟩
  · by_cases hj : 1024 < imm
    · have e : branchP (In.mk 13 a b c imm) x (pc + 1) = Ef.zero := by simp [branchP, hbr, hj]
      have He := Lib.hid e; clear e hbr
      go_upto_region 44 with fail
      go_wp2_with (refine wpList_store_mid rfl 82 (.tmp 6) (.tmp 185) rfl (w.heap.size + 2) 0 (Ef.cells Ef.zero).toArray rfl rfl ?_ Try.sizeEf (oneEf _) ?_; exact Hth.out _; change wpList _ _ _ _ _ (World.setCells (w3.alloc (.cells (Ef.cells ⟨2, imm, 0, 0, 0⟩).toArray 82)) (w.heap.size + 2) 0 (Ef.cells Ef.zero)))
      exact bodyPost_ret (results_c rfl rfl (Try.loadEf Ef.zero (setEf Hx3.out _ _))) rfl ⟨by rw [He.out], belEf Hb3.out _ _ (by omega) _⟩
    · have e : branchP (In.mk 13 a b c imm) x (pc + 1) = ⟨2, imm, 0, 0, 0⟩ := by simp only [branchP, hbr]; rw [if_neg (by simp), if_neg (by omega)]
      have He := Lib.hid e; clear e hbr
      go_upto_region 49 with fail
      go_wp2_with (refine wpList_store_mid rfl 82 (.tmp 6) (.tmp 196) rfl (w.heap.size + 2) 0 (Ef.cells ⟨2, imm, 0, 0, 0⟩).toArray rfl rfl ?_ Try.sizeEf (oneEf _) ?_; exact Hth.out _; change wpList _ _ _ _ _ (World.setCells (w3.alloc (.cells (Ef.cells ⟨2, imm, 0, 0, 0⟩).toArray 82)) (w.heap.size + 2) 0 (Ef.cells ⟨2, imm, 0, 0, 0⟩)))
      exact bodyPost_ret (results_c rfl rfl (Try.loadEf ⟨2, imm, 0, 0, 0⟩ (setEf Hx3.out _ _))) rfl ⟨by rw [He.out], belEf Hb3.out _ _ (by omega) _⟩

set_option maxRecDepth 100000 in
set_option maxHeartbeats 4000000 in
theorem rdo_14 (r : Nat) (s : Nat) (c : Int) (imm : Int) (x : L8) (pc : Int) (w : World) (h0 : 0 ≤ pc) (h1 : pc < 1024) (hr : r < 8) (hs : s < 8) 
    (hS : ∀ W, Calls Try.prog 65 #[.int .i64 14] W fun e w' => e = .returned (.tuple #[.agg #[.string (wordS 14), .bool true, .bool true, .bool false, .bool true], .bool true]) ∧ Below W.heap.size W w')
    (hL : ∀ W, Calls Try.prog 39 #[(In.mk 14 r s c imm).val] W fun e w' => e = .returned (.bool true) ∧ Below W.heap.size W w') :
    Calls Try.prog 61 #[(In.mk 14 r s c imm).val, x.val, .int .i64 pc] w fun e w' => e = .returned (Ef.value (branchP (In.mk 14 r s c imm) x (pc + 1))) ∧ Below w.heap.size w w' := by
  simp only [In.val] at hL
  have HS := Lib.hid hS; clear hS
  have HL := Lib.hid hL; clear hL
  have hbx := bx3_new w (In.mk 14 r s c imm) x
  have hbw : Below w.heap.size w (((w.alloc (.cells (In.cells (In.mk 14 r s c imm)).toArray 40)).alloc (.cells x.cells.toArray 63)).alloc (.cells Ef.zero.cells.toArray 82)) := ((((Below.refl _ w).alloc (Nat.le_refl _) _).alloc (by simp) _).alloc (by simp; omega) _)
  have Hbx := Lib.hid hbx; clear hbx
  have Hbw := Lib.hid hbw; clear hbw
  go_enter Try.func61, Try.ntmps61
  unfold In.val L8.val
  go_wp2_with (go_at_call 65; refine (HS.out _).mono ?_; rintro e w2 ⟨rfl, hb2⟩; refine Hid.out ?_)
  refine Lib.hid ?_
  have hb := Hbw.out.trans (hb2.mono Hbw.out.size)
  have hx := Hbx.out.below hb2
  clear hb2 Hbw Hbx
  have Hb2 := Lib.hid hb; clear hb
  have Hx2 := Lib.hid hx; clear hx
  have b0 : ∀ o, Holds (w2.alloc o) w.heap.size 40 (In.cells (In.mk 14 r s c imm)) := fun o => Hx2.out.b0.alloc o
  have k0 := fun o => (b0 o).cell (i := 0) rfl
  have k1 := fun o => (b0 o).cell (i := 1) rfl
  have k2 := fun o => (b0 o).cell (i := 2) rfl
  have k3 := fun o => (b0 o).cell (i := 3) rfl
  have k4 := fun o => (b0 o).cell (i := 4) rfl
  clear b0
  go_wp2_with (go_at_call 39; refine (HL.out _).mono ?_; rintro e w3 ⟨rfl, hb3⟩; refine Hid.out ?_)
  refine Lib.hid ?_
  clear k0 k1 k2 k3 k4
  have hy : Below w2.heap.size w2 w3 := ((Below.refl _ w2).alloc (Nat.le_refl _) _).trans (hb3.mono (by simp))
  have hx3 := Hx2.out.below hy
  have hb := Hb2.out.trans (hy.mono Hb2.out.size)
  have hs : Holds w3 w2.heap.size 87 [.string (wordS 14), .bool true, .bool true, .bool false, .bool true] := (Holds.new w2 87 [.string (wordS 14), .bool true, .bool true, .bool false, .bool true]).below hb3
  clear hy hb3
  have Hx3 := Lib.hid hx3; clear hx3
  have Hb3 := Lib.hid hb; clear hb
  have k0 : ∀ o, (w3.alloc o).cell? ⟨w.heap.size, 0, none⟩ = _ := fun o => (Hx3.out.b0.alloc o).cell (i := 0) rfl
  have k1 : ∀ o, (w3.alloc o).cell? ⟨w.heap.size, 1, none⟩ = _ := fun o => (Hx3.out.b0.alloc o).cell (i := 1) rfl
  have k4 : ∀ o, (w3.alloc o).cell? ⟨w.heap.size, 4, none⟩ = _ := fun o => (Hx3.out.b0.alloc o).cell (i := 4) rfl
  have l1 := Hx3.out.b0.cell (i := 1) rfl
  have l2 := Hx3.out.b0.cell (i := 2) rfl
  have l3 := Hx3.out.b0.cell (i := 3) rfl
  have s1 := hs.cell (i := 1) rfl
  have s2 := hs.cell (i := 2) rfl
  have s3 := hs.cell (i := 3) rfl
  have Hth := Lib.hid fun o => ((Hx3.out.b2.alloc o).there (o := 0) (n := 5) (Nat.le_refl _))
  clear hs
  have gr := Hx3.out.b1.cell (L8.cell_get x hr)
  have zr : (0 : Int) ≤ r ∧ (r : Int) < 8 := by omega
  have gs := Hx3.out.b1.cell (L8.cell_get x hs)
  have zs : (0 : Int) ≤ s ∧ (s : Int) < 8 := by omega
  by_cases hc : x.get r = x.get s
  · have hcd : (x.get r == x.get s) = true := by simpa using hc
    have hbr : goesP (In.mk 14 r s c imm) x = true := by simp [goesP, hc]
    by_cases hi : imm < 0
    · have e : branchP (In.mk 14 r s c imm) x (pc + 1) = Ef.zero := by simp [branchP, hbr, hi]
      have He := Lib.hid e; clear e hbr
      go_upto_region 44 with fail
      go_wp2_with (refine wpList_store_mid rfl 82 (.tmp 6) (.tmp 185) rfl (w.heap.size + 2) 0 (Ef.cells Ef.zero).toArray rfl rfl ?_ Try.sizeEf (oneEf _) ?_; exact Hth.out _; change wpList _ _ _ _ _ (World.setCells (w3.alloc (.cells (Ef.cells ⟨2, imm, 0, 0, 0⟩).toArray 82)) (w.heap.size + 2) 0 (Ef.cells Ef.zero)))
      exact bodyPost_ret (results_c rfl rfl (Try.loadEf Ef.zero (setEf Hx3.out _ _))) rfl ⟨by rw [He.out], belEf Hb3.out _ _ (by omega) _⟩
    · by_cases hj : 1024 < imm
      · have e : branchP (In.mk 14 r s c imm) x (pc + 1) = Ef.zero := by simp [branchP, hbr, hj]
        have He := Lib.hid e; clear e hbr
        go_upto_region 44 with fail
        go_wp2_with (refine wpList_store_mid rfl 82 (.tmp 6) (.tmp 185) rfl (w.heap.size + 2) 0 (Ef.cells Ef.zero).toArray rfl rfl ?_ Try.sizeEf (oneEf _) ?_; exact Hth.out _; change wpList _ _ _ _ _ (World.setCells (w3.alloc (.cells (Ef.cells ⟨2, imm, 0, 0, 0⟩).toArray 82)) (w.heap.size + 2) 0 (Ef.cells Ef.zero)))
        exact bodyPost_ret (results_c rfl rfl (Try.loadEf Ef.zero (setEf Hx3.out _ _))) rfl ⟨by rw [He.out], belEf Hb3.out _ _ (by omega) _⟩
      · have e : branchP (In.mk 14 r s c imm) x (pc + 1) = ⟨2, imm, 0, 0, 0⟩ := by simp only [branchP, hbr]; rw [if_neg (by simp), if_neg (by omega)]
        have He := Lib.hid e; clear e hbr
        go_upto_region 49 with fail
        go_wp2_with (refine wpList_store_mid rfl 82 (.tmp 6) (.tmp 196) rfl (w.heap.size + 2) 0 (Ef.cells ⟨2, imm, 0, 0, 0⟩).toArray rfl rfl ?_ Try.sizeEf (oneEf _) ?_; exact Hth.out _; change wpList _ _ _ _ _ (World.setCells (w3.alloc (.cells (Ef.cells ⟨2, imm, 0, 0, 0⟩).toArray 82)) (w.heap.size + 2) 0 (Ef.cells ⟨2, imm, 0, 0, 0⟩)))
        exact bodyPost_ret (results_c rfl rfl (Try.loadEf ⟨2, imm, 0, 0, 0⟩ (setEf Hx3.out _ _))) rfl ⟨by rw [He.out], belEf Hb3.out _ _ (by omega) _⟩
  · have hcd : (x.get r == x.get s) = false := by simpa using hc
    have e : branchP (In.mk 14 r s c imm) x (pc + 1) = ⟨2, pc + 1, 0, 0, 0⟩ := by simp [branchP, goesP, hc]
    have He := Lib.hid e; clear e
    go_upto_region 49 with fail
    go_wp2_with (refine wpList_store_mid rfl 82 (.tmp 6) (.tmp 196) rfl (w.heap.size + 2) 0 (Ef.cells ⟨2, pc + 1, 0, 0, 0⟩).toArray rfl rfl ?_ Try.sizeEf (oneEf _) ?_; exact Hth.out _; change wpList _ _ _ _ _ (World.setCells (w3.alloc (.cells (Ef.cells ⟨2, pc + 1, 0, 0, 0⟩).toArray 82)) (w.heap.size + 2) 0 (Ef.cells ⟨2, pc + 1, 0, 0, 0⟩)))
    exact bodyPost_ret (results_c rfl rfl (Try.loadEf ⟨2, pc + 1, 0, 0, 0⟩ (setEf Hx3.out _ _))) rfl ⟨by rw [He.out], belEf Hb3.out _ _ (by omega) _⟩

set_option maxRecDepth 100000 in
set_option maxHeartbeats 4000000 in
theorem rdo_15 (r : Nat) (s : Nat) (c : Int) (imm : Int) (x : L8) (pc : Int) (w : World) (h0 : 0 ≤ pc) (h1 : pc < 1024) (hr : r < 8) (hs : s < 8) 
    (hS : ∀ W, Calls Try.prog 65 #[.int .i64 15] W fun e w' => e = .returned (.tuple #[.agg #[.string (wordS 15), .bool true, .bool true, .bool false, .bool true], .bool true]) ∧ Below W.heap.size W w')
    (hL : ∀ W, Calls Try.prog 39 #[(In.mk 15 r s c imm).val] W fun e w' => e = .returned (.bool true) ∧ Below W.heap.size W w') :
    Calls Try.prog 61 #[(In.mk 15 r s c imm).val, x.val, .int .i64 pc] w fun e w' => e = .returned (Ef.value (branchP (In.mk 15 r s c imm) x (pc + 1))) ∧ Below w.heap.size w w' := by
  simp only [In.val] at hL
  have HS := Lib.hid hS; clear hS
  have HL := Lib.hid hL; clear hL
  have hbx := bx3_new w (In.mk 15 r s c imm) x
  have hbw : Below w.heap.size w (((w.alloc (.cells (In.cells (In.mk 15 r s c imm)).toArray 40)).alloc (.cells x.cells.toArray 63)).alloc (.cells Ef.zero.cells.toArray 82)) := ((((Below.refl _ w).alloc (Nat.le_refl _) _).alloc (by simp) _).alloc (by simp; omega) _)
  have Hbx := Lib.hid hbx; clear hbx
  have Hbw := Lib.hid hbw; clear hbw
  go_enter Try.func61, Try.ntmps61
  unfold In.val L8.val
  go_wp2_with (go_at_call 65; refine (HS.out _).mono ?_; rintro e w2 ⟨rfl, hb2⟩; refine Hid.out ?_)
  refine Lib.hid ?_
  have hb := Hbw.out.trans (hb2.mono Hbw.out.size)
  have hx := Hbx.out.below hb2
  clear hb2 Hbw Hbx
  have Hb2 := Lib.hid hb; clear hb
  have Hx2 := Lib.hid hx; clear hx
  have b0 : ∀ o, Holds (w2.alloc o) w.heap.size 40 (In.cells (In.mk 15 r s c imm)) := fun o => Hx2.out.b0.alloc o
  have k0 := fun o => (b0 o).cell (i := 0) rfl
  have k1 := fun o => (b0 o).cell (i := 1) rfl
  have k2 := fun o => (b0 o).cell (i := 2) rfl
  have k3 := fun o => (b0 o).cell (i := 3) rfl
  have k4 := fun o => (b0 o).cell (i := 4) rfl
  clear b0
  go_wp2_with (go_at_call 39; refine (HL.out _).mono ?_; rintro e w3 ⟨rfl, hb3⟩; refine Hid.out ?_)
  refine Lib.hid ?_
  clear k0 k1 k2 k3 k4
  have hy : Below w2.heap.size w2 w3 := ((Below.refl _ w2).alloc (Nat.le_refl _) _).trans (hb3.mono (by simp))
  have hx3 := Hx2.out.below hy
  have hb := Hb2.out.trans (hy.mono Hb2.out.size)
  have hs : Holds w3 w2.heap.size 87 [.string (wordS 15), .bool true, .bool true, .bool false, .bool true] := (Holds.new w2 87 [.string (wordS 15), .bool true, .bool true, .bool false, .bool true]).below hb3
  clear hy hb3
  have Hx3 := Lib.hid hx3; clear hx3
  have Hb3 := Lib.hid hb; clear hb
  have k0 : ∀ o, (w3.alloc o).cell? ⟨w.heap.size, 0, none⟩ = _ := fun o => (Hx3.out.b0.alloc o).cell (i := 0) rfl
  have k1 : ∀ o, (w3.alloc o).cell? ⟨w.heap.size, 1, none⟩ = _ := fun o => (Hx3.out.b0.alloc o).cell (i := 1) rfl
  have k4 : ∀ o, (w3.alloc o).cell? ⟨w.heap.size, 4, none⟩ = _ := fun o => (Hx3.out.b0.alloc o).cell (i := 4) rfl
  have l1 := Hx3.out.b0.cell (i := 1) rfl
  have l2 := Hx3.out.b0.cell (i := 2) rfl
  have l3 := Hx3.out.b0.cell (i := 3) rfl
  have s1 := hs.cell (i := 1) rfl
  have s2 := hs.cell (i := 2) rfl
  have s3 := hs.cell (i := 3) rfl
  have Hth := Lib.hid fun o => ((Hx3.out.b2.alloc o).there (o := 0) (n := 5) (Nat.le_refl _))
  clear hs
  have gr := Hx3.out.b1.cell (L8.cell_get x hr)
  have zr : (0 : Int) ≤ r ∧ (r : Int) < 8 := by omega
  have gs := Hx3.out.b1.cell (L8.cell_get x hs)
  have zs : (0 : Int) ≤ s ∧ (s : Int) < 8 := by omega
  by_cases hc : x.get r ≠ x.get s
  · have hcd : (x.get r != x.get s) = true := by simpa using hc
    have hbr : goesP (In.mk 15 r s c imm) x = true := by simp [goesP, hc]
    by_cases hi : imm < 0
    · have e : branchP (In.mk 15 r s c imm) x (pc + 1) = Ef.zero := by simp [branchP, hbr, hi]
      have He := Lib.hid e; clear e hbr
      go_upto_region 44 with fail
      go_wp2_with (refine wpList_store_mid rfl 82 (.tmp 6) (.tmp 185) rfl (w.heap.size + 2) 0 (Ef.cells Ef.zero).toArray rfl rfl ?_ Try.sizeEf (oneEf _) ?_; exact Hth.out _; change wpList _ _ _ _ _ (World.setCells (w3.alloc (.cells (Ef.cells ⟨2, imm, 0, 0, 0⟩).toArray 82)) (w.heap.size + 2) 0 (Ef.cells Ef.zero)))
      exact bodyPost_ret (results_c rfl rfl (Try.loadEf Ef.zero (setEf Hx3.out _ _))) rfl ⟨by rw [He.out], belEf Hb3.out _ _ (by omega) _⟩
    · by_cases hj : 1024 < imm
      · have e : branchP (In.mk 15 r s c imm) x (pc + 1) = Ef.zero := by simp [branchP, hbr, hj]
        have He := Lib.hid e; clear e hbr
        go_upto_region 44 with fail
        go_wp2_with (refine wpList_store_mid rfl 82 (.tmp 6) (.tmp 185) rfl (w.heap.size + 2) 0 (Ef.cells Ef.zero).toArray rfl rfl ?_ Try.sizeEf (oneEf _) ?_; exact Hth.out _; change wpList _ _ _ _ _ (World.setCells (w3.alloc (.cells (Ef.cells ⟨2, imm, 0, 0, 0⟩).toArray 82)) (w.heap.size + 2) 0 (Ef.cells Ef.zero)))
        exact bodyPost_ret (results_c rfl rfl (Try.loadEf Ef.zero (setEf Hx3.out _ _))) rfl ⟨by rw [He.out], belEf Hb3.out _ _ (by omega) _⟩
      · have e : branchP (In.mk 15 r s c imm) x (pc + 1) = ⟨2, imm, 0, 0, 0⟩ := by simp only [branchP, hbr]; rw [if_neg (by simp), if_neg (by omega)]
        have He := Lib.hid e; clear e hbr
        go_upto_region 49 with fail
        go_wp2_with (refine wpList_store_mid rfl 82 (.tmp 6) (.tmp 196) rfl (w.heap.size + 2) 0 (Ef.cells ⟨2, imm, 0, 0, 0⟩).toArray rfl rfl ?_ Try.sizeEf (oneEf _) ?_; exact Hth.out _; change wpList _ _ _ _ _ (World.setCells (w3.alloc (.cells (Ef.cells ⟨2, imm, 0, 0, 0⟩).toArray 82)) (w.heap.size + 2) 0 (Ef.cells ⟨2, imm, 0, 0, 0⟩)))
        exact bodyPost_ret (results_c rfl rfl (Try.loadEf ⟨2, imm, 0, 0, 0⟩ (setEf Hx3.out _ _))) rfl ⟨by rw [He.out], belEf Hb3.out _ _ (by omega) _⟩
  · have hcd : (x.get r != x.get s) = false := by simpa using hc
    have e : branchP (In.mk 15 r s c imm) x (pc + 1) = ⟨2, pc + 1, 0, 0, 0⟩ := by simp [branchP, goesP, hc]
    have He := Lib.hid e; clear e
    go_upto_region 49 with fail
    go_wp2_with (refine wpList_store_mid rfl 82 (.tmp 6) (.tmp 196) rfl (w.heap.size + 2) 0 (Ef.cells ⟨2, pc + 1, 0, 0, 0⟩).toArray rfl rfl ?_ Try.sizeEf (oneEf _) ?_; exact Hth.out _; change wpList _ _ _ _ _ (World.setCells (w3.alloc (.cells (Ef.cells ⟨2, pc + 1, 0, 0, 0⟩).toArray 82)) (w.heap.size + 2) 0 (Ef.cells ⟨2, pc + 1, 0, 0, 0⟩)))
    exact bodyPost_ret (results_c rfl rfl (Try.loadEf ⟨2, pc + 1, 0, 0, 0⟩ (setEf Hx3.out _ _))) rfl ⟨by rw [He.out], belEf Hb3.out _ _ (by omega) _⟩

set_option maxRecDepth 100000 in
set_option maxHeartbeats 4000000 in
theorem rdo_16 (r : Nat) (s : Nat) (c : Int) (imm : Int) (x : L8) (pc : Int) (w : World) (h0 : 0 ≤ pc) (h1 : pc < 1024) (hr : r < 8) (hs : s < 8) 
    (hS : ∀ W, Calls Try.prog 65 #[.int .i64 16] W fun e w' => e = .returned (.tuple #[.agg #[.string (wordS 16), .bool true, .bool true, .bool false, .bool true], .bool true]) ∧ Below W.heap.size W w')
    (hL : ∀ W, Calls Try.prog 39 #[(In.mk 16 r s c imm).val] W fun e w' => e = .returned (.bool true) ∧ Below W.heap.size W w') :
    Calls Try.prog 61 #[(In.mk 16 r s c imm).val, x.val, .int .i64 pc] w fun e w' => e = .returned (Ef.value (branchP (In.mk 16 r s c imm) x (pc + 1))) ∧ Below w.heap.size w w' := by
  simp only [In.val] at hL
  have HS := Lib.hid hS; clear hS
  have HL := Lib.hid hL; clear hL
  have hbx := bx3_new w (In.mk 16 r s c imm) x
  have hbw : Below w.heap.size w (((w.alloc (.cells (In.cells (In.mk 16 r s c imm)).toArray 40)).alloc (.cells x.cells.toArray 63)).alloc (.cells Ef.zero.cells.toArray 82)) := ((((Below.refl _ w).alloc (Nat.le_refl _) _).alloc (by simp) _).alloc (by simp; omega) _)
  have Hbx := Lib.hid hbx; clear hbx
  have Hbw := Lib.hid hbw; clear hbw
  go_enter Try.func61, Try.ntmps61
  unfold In.val L8.val
  go_wp2_with (go_at_call 65; refine (HS.out _).mono ?_; rintro e w2 ⟨rfl, hb2⟩; refine Hid.out ?_)
  refine Lib.hid ?_
  have hb := Hbw.out.trans (hb2.mono Hbw.out.size)
  have hx := Hbx.out.below hb2
  clear hb2 Hbw Hbx
  have Hb2 := Lib.hid hb; clear hb
  have Hx2 := Lib.hid hx; clear hx
  have b0 : ∀ o, Holds (w2.alloc o) w.heap.size 40 (In.cells (In.mk 16 r s c imm)) := fun o => Hx2.out.b0.alloc o
  have k0 := fun o => (b0 o).cell (i := 0) rfl
  have k1 := fun o => (b0 o).cell (i := 1) rfl
  have k2 := fun o => (b0 o).cell (i := 2) rfl
  have k3 := fun o => (b0 o).cell (i := 3) rfl
  have k4 := fun o => (b0 o).cell (i := 4) rfl
  clear b0
  go_wp2_with (go_at_call 39; refine (HL.out _).mono ?_; rintro e w3 ⟨rfl, hb3⟩; refine Hid.out ?_)
  refine Lib.hid ?_
  clear k0 k1 k2 k3 k4
  have hy : Below w2.heap.size w2 w3 := ((Below.refl _ w2).alloc (Nat.le_refl _) _).trans (hb3.mono (by simp))
  have hx3 := Hx2.out.below hy
  have hb := Hb2.out.trans (hy.mono Hb2.out.size)
  have hs : Holds w3 w2.heap.size 87 [.string (wordS 16), .bool true, .bool true, .bool false, .bool true] := (Holds.new w2 87 [.string (wordS 16), .bool true, .bool true, .bool false, .bool true]).below hb3
  clear hy hb3
  have Hx3 := Lib.hid hx3; clear hx3
  have Hb3 := Lib.hid hb; clear hb
  have k0 : ∀ o, (w3.alloc o).cell? ⟨w.heap.size, 0, none⟩ = _ := fun o => (Hx3.out.b0.alloc o).cell (i := 0) rfl
  have k1 : ∀ o, (w3.alloc o).cell? ⟨w.heap.size, 1, none⟩ = _ := fun o => (Hx3.out.b0.alloc o).cell (i := 1) rfl
  have k4 : ∀ o, (w3.alloc o).cell? ⟨w.heap.size, 4, none⟩ = _ := fun o => (Hx3.out.b0.alloc o).cell (i := 4) rfl
  have l1 := Hx3.out.b0.cell (i := 1) rfl
  have l2 := Hx3.out.b0.cell (i := 2) rfl
  have l3 := Hx3.out.b0.cell (i := 3) rfl
  have s1 := hs.cell (i := 1) rfl
  have s2 := hs.cell (i := 2) rfl
  have s3 := hs.cell (i := 3) rfl
  have Hth := Lib.hid fun o => ((Hx3.out.b2.alloc o).there (o := 0) (n := 5) (Nat.le_refl _))
  clear hs
  have gr := Hx3.out.b1.cell (L8.cell_get x hr)
  have zr : (0 : Int) ≤ r ∧ (r : Int) < 8 := by omega
  have gs := Hx3.out.b1.cell (L8.cell_get x hs)
  have zs : (0 : Int) ≤ s ∧ (s : Int) < 8 := by omega
  by_cases hc : x.get r < x.get s
  · have hcd : decide (x.get r < x.get s) = true := by simpa using hc
    have hbr : goesP (In.mk 16 r s c imm) x = true := by simp [goesP, hc]
    by_cases hi : imm < 0
    · have e : branchP (In.mk 16 r s c imm) x (pc + 1) = Ef.zero := by simp [branchP, hbr, hi]
      have He := Lib.hid e; clear e hbr
      go_upto_region 44 with fail
      go_wp2_with (refine wpList_store_mid rfl 82 (.tmp 6) (.tmp 185) rfl (w.heap.size + 2) 0 (Ef.cells Ef.zero).toArray rfl rfl ?_ Try.sizeEf (oneEf _) ?_; exact Hth.out _; change wpList _ _ _ _ _ (World.setCells (w3.alloc (.cells (Ef.cells ⟨2, imm, 0, 0, 0⟩).toArray 82)) (w.heap.size + 2) 0 (Ef.cells Ef.zero)))
      exact bodyPost_ret (results_c rfl rfl (Try.loadEf Ef.zero (setEf Hx3.out _ _))) rfl ⟨by rw [He.out], belEf Hb3.out _ _ (by omega) _⟩
    · by_cases hj : 1024 < imm
      · have e : branchP (In.mk 16 r s c imm) x (pc + 1) = Ef.zero := by simp [branchP, hbr, hj]
        have He := Lib.hid e; clear e hbr
        go_upto_region 44 with fail
        go_wp2_with (refine wpList_store_mid rfl 82 (.tmp 6) (.tmp 185) rfl (w.heap.size + 2) 0 (Ef.cells Ef.zero).toArray rfl rfl ?_ Try.sizeEf (oneEf _) ?_; exact Hth.out _; change wpList _ _ _ _ _ (World.setCells (w3.alloc (.cells (Ef.cells ⟨2, imm, 0, 0, 0⟩).toArray 82)) (w.heap.size + 2) 0 (Ef.cells Ef.zero)))
        exact bodyPost_ret (results_c rfl rfl (Try.loadEf Ef.zero (setEf Hx3.out _ _))) rfl ⟨by rw [He.out], belEf Hb3.out _ _ (by omega) _⟩
      · have e : branchP (In.mk 16 r s c imm) x (pc + 1) = ⟨2, imm, 0, 0, 0⟩ := by simp only [branchP, hbr]; rw [if_neg (by simp), if_neg (by omega)]
        have He := Lib.hid e; clear e hbr
        go_upto_region 49 with fail
        go_wp2_with (refine wpList_store_mid rfl 82 (.tmp 6) (.tmp 196) rfl (w.heap.size + 2) 0 (Ef.cells ⟨2, imm, 0, 0, 0⟩).toArray rfl rfl ?_ Try.sizeEf (oneEf _) ?_; exact Hth.out _; change wpList _ _ _ _ _ (World.setCells (w3.alloc (.cells (Ef.cells ⟨2, imm, 0, 0, 0⟩).toArray 82)) (w.heap.size + 2) 0 (Ef.cells ⟨2, imm, 0, 0, 0⟩)))
        exact bodyPost_ret (results_c rfl rfl (Try.loadEf ⟨2, imm, 0, 0, 0⟩ (setEf Hx3.out _ _))) rfl ⟨by rw [He.out], belEf Hb3.out _ _ (by omega) _⟩
  · have hcd : decide (x.get r < x.get s) = false := by simpa using hc
    have e : branchP (In.mk 16 r s c imm) x (pc + 1) = ⟨2, pc + 1, 0, 0, 0⟩ := by simp [branchP, goesP, hc]
    have He := Lib.hid e; clear e
    go_upto_region 49 with fail
    go_wp2_with (refine wpList_store_mid rfl 82 (.tmp 6) (.tmp 196) rfl (w.heap.size + 2) 0 (Ef.cells ⟨2, pc + 1, 0, 0, 0⟩).toArray rfl rfl ?_ Try.sizeEf (oneEf _) ?_; exact Hth.out _; change wpList _ _ _ _ _ (World.setCells (w3.alloc (.cells (Ef.cells ⟨2, pc + 1, 0, 0, 0⟩).toArray 82)) (w.heap.size + 2) 0 (Ef.cells ⟨2, pc + 1, 0, 0, 0⟩)))
    exact bodyPost_ret (results_c rfl rfl (Try.loadEf ⟨2, pc + 1, 0, 0, 0⟩ (setEf Hx3.out _ _))) rfl ⟨by rw [He.out], belEf Hb3.out _ _ (by omega) _⟩

set_option maxRecDepth 100000 in
set_option maxHeartbeats 4000000 in
theorem rdo_illegal (op a b c imm : Int) (s : ByteArray) (A B C I : Bool) (x : L8) (pc : Int) (w : World) 
    (hS : ∀ W, Calls Try.prog 65 #[.int .i64 op] W fun e w' => e = .returned (.tuple #[.agg #[.string s, .bool A, .bool B, .bool C, .bool I], .bool true]) ∧ Below W.heap.size W w')
    (hL : ∀ W, Calls Try.prog 39 #[(In.mk op a b c imm).val] W fun e w' => e = .returned (.bool false) ∧ Below W.heap.size W w') :
    Calls Try.prog 61 #[(In.mk op a b c imm).val, x.val, .int .i64 pc] w fun e w' => e = .returned (Ef.value Ef.zero) ∧ Below w.heap.size w w' := by
  simp only [In.val] at hL
  have HS := Lib.hid hS; clear hS
  have HL := Lib.hid hL; clear hL
  have hbx := bx3_new w (In.mk op a b c imm) x
  have hbw : Below w.heap.size w (((w.alloc (.cells (In.cells (In.mk op a b c imm)).toArray 40)).alloc (.cells x.cells.toArray 63)).alloc (.cells Ef.zero.cells.toArray 82)) := ((((Below.refl _ w).alloc (Nat.le_refl _) _).alloc (by simp) _).alloc (by simp; omega) _)
  have Hbx := Lib.hid hbx; clear hbx
  have Hbw := Lib.hid hbw; clear hbw
  go_enter Try.func61, Try.ntmps61
  unfold In.val L8.val
  go_wp2_with (go_at_call 65; refine (HS.out _).mono ?_; rintro e w2 ⟨rfl, hb2⟩; refine Hid.out ?_)
  refine Lib.hid ?_
  have hb := Hbw.out.trans (hb2.mono Hbw.out.size)
  have hx := Hbx.out.below hb2
  clear hb2 Hbw Hbx
  have Hb2 := Lib.hid hb; clear hb
  have Hx2 := Lib.hid hx; clear hx
  have b0 : ∀ o, Holds (w2.alloc o) w.heap.size 40 (In.cells (In.mk op a b c imm)) := fun o => Hx2.out.b0.alloc o
  have k0 := fun o => (b0 o).cell (i := 0) rfl
  have k1 := fun o => (b0 o).cell (i := 1) rfl
  have k2 := fun o => (b0 o).cell (i := 2) rfl
  have k3 := fun o => (b0 o).cell (i := 3) rfl
  have k4 := fun o => (b0 o).cell (i := 4) rfl
  clear b0
  go_wp2_with (go_at_call 39; refine (HL.out _).mono ?_; rintro e w3 ⟨rfl, hb3⟩; refine Hid.out ?_)
  refine Lib.hid ?_
  clear k0 k1 k2 k3 k4
  have hy : Below w2.heap.size w2 w3 := ((Below.refl _ w2).alloc (Nat.le_refl _) _).trans (hb3.mono (by simp))
  have hx3 := Hx2.out.below hy
  have hb := Hb2.out.trans (hy.mono Hb2.out.size)
  clear hy hb3
  have Hx3 := Lib.hid hx3; clear hx3
  have Hb3 := Lib.hid hb; clear hb
  have Hth := Lib.hid (Hx3.out.b2.there (o := 0) (n := 5) (Nat.le_refl _))
  go_wp2_with (refine wpList_store_mid rfl 82 (.tmp 6) (.tmp 34) rfl (w.heap.size + 2) 0 (Ef.cells Ef.zero).toArray rfl rfl ?_ Try.sizeEf (oneEf _) ?_; exact Hth.out; change wpList _ _ _ _ _ (World.setCells w3 (w.heap.size + 2) 0 (Ef.cells Ef.zero)))
  exact bodyPost_ret (results_c rfl rfl (Try.loadEf Ef.zero (Hx3.out.b2.sets _ 0))) rfl ⟨rfl, below_cells (by omega) _ _ _ Hb3.out⟩

set_option maxRecDepth 100000 in
set_option maxHeartbeats 4000000 in
theorem rdo_low (op a b c imm : Int) (s : ByteArray) (A B C I : Bool) (x : L8) (pc : Int) (w : World) (h0 : pc < 0)
    (hS : ∀ W, Calls Try.prog 65 #[.int .i64 op] W fun e w' => e = .returned (.tuple #[.agg #[.string s, .bool A, .bool B, .bool C, .bool I], .bool true]) ∧ Below W.heap.size W w')
    (hL : ∀ W, Calls Try.prog 39 #[(In.mk op a b c imm).val] W fun e w' => e = .returned (.bool true) ∧ Below W.heap.size W w') :
    Calls Try.prog 61 #[(In.mk op a b c imm).val, x.val, .int .i64 pc] w fun e w' => e = .returned (Ef.value Ef.zero) ∧ Below w.heap.size w w' := by
  simp only [In.val] at hL
  have HS := Lib.hid hS; clear hS
  have HL := Lib.hid hL; clear hL
  have hbx := bx3_new w (In.mk op a b c imm) x
  have hbw : Below w.heap.size w (((w.alloc (.cells (In.cells (In.mk op a b c imm)).toArray 40)).alloc (.cells x.cells.toArray 63)).alloc (.cells Ef.zero.cells.toArray 82)) := ((((Below.refl _ w).alloc (Nat.le_refl _) _).alloc (by simp) _).alloc (by simp; omega) _)
  have Hbx := Lib.hid hbx; clear hbx
  have Hbw := Lib.hid hbw; clear hbw
  go_enter Try.func61, Try.ntmps61
  unfold In.val L8.val
  go_wp2_with (go_at_call 65; refine (HS.out _).mono ?_; rintro e w2 ⟨rfl, hb2⟩; refine Hid.out ?_)
  refine Lib.hid ?_
  have hb := Hbw.out.trans (hb2.mono Hbw.out.size)
  have hx := Hbx.out.below hb2
  clear hb2 Hbw Hbx
  have Hb2 := Lib.hid hb; clear hb
  have Hx2 := Lib.hid hx; clear hx
  have b0 : ∀ o, Holds (w2.alloc o) w.heap.size 40 (In.cells (In.mk op a b c imm)) := fun o => Hx2.out.b0.alloc o
  have k0 := fun o => (b0 o).cell (i := 0) rfl
  have k1 := fun o => (b0 o).cell (i := 1) rfl
  have k2 := fun o => (b0 o).cell (i := 2) rfl
  have k3 := fun o => (b0 o).cell (i := 3) rfl
  have k4 := fun o => (b0 o).cell (i := 4) rfl
  clear b0
  go_wp2_with (go_at_call 39; refine (HL.out _).mono ?_; rintro e w3 ⟨rfl, hb3⟩; refine Hid.out ?_)
  refine Lib.hid ?_
  clear k0 k1 k2 k3 k4
  have hy : Below w2.heap.size w2 w3 := ((Below.refl _ w2).alloc (Nat.le_refl _) _).trans (hb3.mono (by simp))
  have hx3 := Hx2.out.below hy
  have hb := Hb2.out.trans (hy.mono Hb2.out.size)
  clear hy hb3
  have Hx3 := Lib.hid hx3; clear hx3
  have Hb3 := Lib.hid hb; clear hb
  have Hth := Lib.hid (Hx3.out.b2.there (o := 0) (n := 5) (Nat.le_refl _))
  go_wp2_with (refine wpList_store_mid rfl 82 (.tmp 6) (.tmp 34) rfl (w.heap.size + 2) 0 (Ef.cells Ef.zero).toArray rfl rfl ?_ Try.sizeEf (oneEf _) ?_; exact Hth.out; change wpList _ _ _ _ _ (World.setCells w3 (w.heap.size + 2) 0 (Ef.cells Ef.zero)))
  exact bodyPost_ret (results_c rfl rfl (Try.loadEf Ef.zero (Hx3.out.b2.sets _ 0))) rfl ⟨rfl, below_cells (by omega) _ _ _ Hb3.out⟩

set_option maxRecDepth 100000 in
set_option maxHeartbeats 4000000 in
theorem rdo_high (op a b c imm : Int) (s : ByteArray) (A B C I : Bool) (x : L8) (pc : Int) (w : World) (h0 : 0 ≤ pc) (h1 : 1024 ≤ pc)
    (hS : ∀ W, Calls Try.prog 65 #[.int .i64 op] W fun e w' => e = .returned (.tuple #[.agg #[.string s, .bool A, .bool B, .bool C, .bool I], .bool true]) ∧ Below W.heap.size W w')
    (hL : ∀ W, Calls Try.prog 39 #[(In.mk op a b c imm).val] W fun e w' => e = .returned (.bool true) ∧ Below W.heap.size W w') :
    Calls Try.prog 61 #[(In.mk op a b c imm).val, x.val, .int .i64 pc] w fun e w' => e = .returned (Ef.value Ef.zero) ∧ Below w.heap.size w w' := by
  simp only [In.val] at hL
  have HS := Lib.hid hS; clear hS
  have HL := Lib.hid hL; clear hL
  have hbx := bx3_new w (In.mk op a b c imm) x
  have hbw : Below w.heap.size w (((w.alloc (.cells (In.cells (In.mk op a b c imm)).toArray 40)).alloc (.cells x.cells.toArray 63)).alloc (.cells Ef.zero.cells.toArray 82)) := ((((Below.refl _ w).alloc (Nat.le_refl _) _).alloc (by simp) _).alloc (by simp; omega) _)
  have Hbx := Lib.hid hbx; clear hbx
  have Hbw := Lib.hid hbw; clear hbw
  go_enter Try.func61, Try.ntmps61
  unfold In.val L8.val
  go_wp2_with (go_at_call 65; refine (HS.out _).mono ?_; rintro e w2 ⟨rfl, hb2⟩; refine Hid.out ?_)
  refine Lib.hid ?_
  have hb := Hbw.out.trans (hb2.mono Hbw.out.size)
  have hx := Hbx.out.below hb2
  clear hb2 Hbw Hbx
  have Hb2 := Lib.hid hb; clear hb
  have Hx2 := Lib.hid hx; clear hx
  have b0 : ∀ o, Holds (w2.alloc o) w.heap.size 40 (In.cells (In.mk op a b c imm)) := fun o => Hx2.out.b0.alloc o
  have k0 := fun o => (b0 o).cell (i := 0) rfl
  have k1 := fun o => (b0 o).cell (i := 1) rfl
  have k2 := fun o => (b0 o).cell (i := 2) rfl
  have k3 := fun o => (b0 o).cell (i := 3) rfl
  have k4 := fun o => (b0 o).cell (i := 4) rfl
  clear b0
  go_wp2_with (go_at_call 39; refine (HL.out _).mono ?_; rintro e w3 ⟨rfl, hb3⟩; refine Hid.out ?_)
  refine Lib.hid ?_
  clear k0 k1 k2 k3 k4
  have hy : Below w2.heap.size w2 w3 := ((Below.refl _ w2).alloc (Nat.le_refl _) _).trans (hb3.mono (by simp))
  have hx3 := Hx2.out.below hy
  have hb := Hb2.out.trans (hy.mono Hb2.out.size)
  clear hy hb3
  have Hx3 := Lib.hid hx3; clear hx3
  have Hb3 := Lib.hid hb; clear hb
  have Hth := Lib.hid (Hx3.out.b2.there (o := 0) (n := 5) (Nat.le_refl _))
  go_wp2_with (refine wpList_store_mid rfl 82 (.tmp 6) (.tmp 34) rfl (w.heap.size + 2) 0 (Ef.cells Ef.zero).toArray rfl rfl ?_ Try.sizeEf (oneEf _) ?_; exact Hth.out; change wpList _ _ _ _ _ (World.setCells w3 (w.heap.size + 2) 0 (Ef.cells Ef.zero)))
  exact bodyPost_ret (results_c rfl rfl (Try.loadEf Ef.zero (Hx3.out.b2.sets _ 0))) rfl ⟨rfl, below_cells (by omega) _ _ _ Hb3.out⟩

set_option maxRecDepth 100000 in
set_option maxHeartbeats 4000000 in
theorem rdo_none (op a b c imm : Int) (x : L8) (pc : Int) (w : World) 
    (hS : ∀ W, Calls Try.prog 65 #[.int .i64 op] W fun e w' => e = .returned (.tuple #[.agg #[.string ⟨#[]⟩, .bool false, .bool false, .bool false, .bool false], .bool false]) ∧ Below W.heap.size W w')
    (hL : ∀ W, Calls Try.prog 39 #[(In.mk op a b c imm).val] W fun e w' => e = .returned (.bool false) ∧ Below W.heap.size W w') :
    Calls Try.prog 61 #[(In.mk op a b c imm).val, x.val, .int .i64 pc] w fun e w' => e = .returned (Ef.value Ef.zero) ∧ Below w.heap.size w w' := by
  simp only [In.val] at hL
  have HS := Lib.hid hS; clear hS
  have HL := Lib.hid hL; clear hL
  have hbx := bx3_new w (In.mk op a b c imm) x
  have hbw : Below w.heap.size w (((w.alloc (.cells (In.cells (In.mk op a b c imm)).toArray 40)).alloc (.cells x.cells.toArray 63)).alloc (.cells Ef.zero.cells.toArray 82)) := ((((Below.refl _ w).alloc (Nat.le_refl _) _).alloc (by simp) _).alloc (by simp; omega) _)
  have Hbx := Lib.hid hbx; clear hbx
  have Hbw := Lib.hid hbw; clear hbw
  go_enter Try.func61, Try.ntmps61
  unfold In.val L8.val
  go_wp2_with (go_at_call 65; refine (HS.out _).mono ?_; rintro e w2 ⟨rfl, hb2⟩; refine Hid.out ?_)
  refine Lib.hid ?_
  have hb := Hbw.out.trans (hb2.mono Hbw.out.size)
  have hx := Hbx.out.below hb2
  clear hb2 Hbw Hbx
  have Hb2 := Lib.hid hb; clear hb
  have Hx2 := Lib.hid hx; clear hx
  have hy : Below w2.heap.size w2 (w2.alloc (.cells #[.string ⟨#[]⟩, .bool false, .bool false, .bool false, .bool false] 87)) := (Below.refl _ w2).alloc (Nat.le_refl _) _
  have Hth := Lib.hid ((Hx2.out.below hy).b2.there (o := 0) (n := 5) (Nat.le_refl _))
  clear hy
  go_wp2_with (refine wpList_store_mid rfl 82 (.tmp 6) (.tmp 34) rfl (w.heap.size + 2) 0 (Ef.cells Ef.zero).toArray rfl rfl ?_ Try.sizeEf (oneEf _) ?_; exact Hth.out; change wpList _ _ _ _ _ (World.setCells (w2.alloc (.cells #[.string ⟨#[]⟩, .bool false, .bool false, .bool false, .bool false] 87)) (w.heap.size + 2) 0 (Ef.cells Ef.zero)))
  exact bodyPost_ret (results_c rfl rfl (Try.loadEf Ef.zero (setEf Hx2.out _ _))) rfl ⟨rfl, belEf Hb2.out _ _ (by omega) _⟩

end Go.Proofs.Ythjbcpgncnchoaa
