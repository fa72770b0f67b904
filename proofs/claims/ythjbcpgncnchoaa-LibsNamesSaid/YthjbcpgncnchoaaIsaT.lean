/- The document's own Do. Conditions: those stated in each theorem. -/
import Derived.Test.YthjbcpgncnchoaaIsaS
namespace Go.Proofs.Ythjbcpgncnchoaa
open Go.RowKit Go.BigFrame

theorem setEf {w3 : World} {N : Nat} {i : In} {x : L8} (h : Bx3 w3 N i x) (o : Obj) (e : Ef) : Holds ((w3.alloc o).setCells (N + 2) 0 e.cells) (N + 2) 82 e.cells := (h.b2.alloc o).sets e.cells 0
theorem belEf {w w3 : World} (h : Below w.heap.size w w3) (o : Obj) (N : Nat) (hN : w.heap.size ≤ N) (L : List Value) : Below w.heap.size w ((w3.alloc o).setCells N 0 L) := below_cells hN _ _ _ (h.alloc h.size o)

set_option maxRecDepth 100000 in
set_option maxHeartbeats 4000000 in
theorem rdo_1 (a : Int) (b : Int) (c : Int) (imm : Int) (x : L8) (pc : Int) (w : World) (h0 : 0 ≤ pc) (h1 : pc < 1024) 
    (hS : ∀ W, Calls Try.prog 65 #[.int .i64 1] W fun e w' => e = .returned (.tuple #[.agg #[.string (wordS 1), .bool false, .bool false, .bool false, .bool false], .bool true]) ∧ Below W.heap.size W w')
    (hL : ∀ W, Calls Try.prog 39 #[(In.mk 1 a b c imm).val] W fun e w' => e = .returned (.bool true) ∧ Below W.heap.size W w') :
    Calls Try.prog 61 #[(In.mk 1 a b c imm).val, x.val, .int .i64 pc] w fun e w' => e = .returned (Ef.value ⟨7, pc + 1, 0, 0, 0⟩) ∧ Below w.heap.size w w' := by
  simp only [In.val] at hL
  have HS := Lib.hid hS; clear hS
  have HL := Lib.hid hL; clear hL
  have hbx := bx3_new w (In.mk 1 a b c imm) x
  have hbw : Below w.heap.size w (((w.alloc (.cells (In.cells (In.mk 1 a b c imm)).toArray 40)).alloc (.cells x.cells.toArray 63)).alloc (.cells Ef.zero.cells.toArray 82)) := ((((Below.refl _ w).alloc (Nat.le_refl _) _).alloc (by simp) _).alloc (by simp; omega) _)
  have Hbx := Lib.hid hbx; clear hbx
  have Hbw := Lib.hid hbw; clear hbw
  go_enter Try.func61, Try.ntmps61
  unfold In.val L8.val
  go_wp2_with (go_at_call 65; refine (HS.out _).mono ?_; rintro e w2 ⟨rfl, hb2⟩; refine Hid.out ?_)
  refine Lib.hid ?_
  have hb := Hbw.out.trans (hb2.mono Hbw.out.size)
  have hx := Hbx.out.below hb2
  clear hb2 Hbw Hbx
  have Hb2 := Lib.hid hb; clear hb
  have Hx2 := Lib.hid hx; clear hx
  have b0 : ∀ o, Holds (w2.alloc o) w.heap.size 40 (In.cells (In.mk 1 a b c imm)) := fun o => Hx2.out.b0.alloc o
  have k0 := fun o => (b0 o).cell (i := 0) rfl
  have k1 := fun o => (b0 o).cell (i := 1) rfl
  have k2 := fun o => (b0 o).cell (i := 2) rfl
  have k3 := fun o => (b0 o).cell (i := 3) rfl
  have k4 := fun o => (b0 o).cell (i := 4) rfl
  clear b0
  go_wp2_with (go_at_call 39; refine (HL.out _).mono ?_; rintro e w3 ⟨rfl, hb3⟩; refine Hid.out ?_)
  refine Lib.hid ?_
  clear k0 k1 k2 k3 k4
  have hy : Below w2.heap.size w2 w3 := ((Below.refl _ w2).alloc (Nat.le_refl _) _).trans (hb3.mono (by simp))
  have hx3 := Hx2.out.below hy
  have hb := Hb2.out.trans (hy.mono Hb2.out.size)
  have hs : Holds w3 w2.heap.size 87 [.string (wordS 1), .bool false, .bool false, .bool false, .bool false] := (Holds.new w2 87 [.string (wordS 1), .bool false, .bool false, .bool false, .bool false]).below hb3
  clear hy hb3
  have Hx3 := Lib.hid hx3; clear hx3
  have Hb3 := Lib.hid hb; clear hb
  have k0 : ∀ o, (w3.alloc o).cell? ⟨w.heap.size, 0, none⟩ = _ := fun o => (Hx3.out.b0.alloc o).cell (i := 0) rfl
  have k1 : ∀ o, (w3.alloc o).cell? ⟨w.heap.size, 1, none⟩ = _ := fun o => (Hx3.out.b0.alloc o).cell (i := 1) rfl
  have k4 : ∀ o, (w3.alloc o).cell? ⟨w.heap.size, 4, none⟩ = _ := fun o => (Hx3.out.b0.alloc o).cell (i := 4) rfl
  have l1 := Hx3.out.b0.cell (i := 1) rfl
  have l2 := Hx3.out.b0.cell (i := 2) rfl
  have l3 := Hx3.out.b0.cell (i := 3) rfl
  have s1 := hs.cell (i := 1) rfl
  have s2 := hs.cell (i := 2) rfl
  have s3 := hs.cell (i := 3) rfl
  have Hth := Lib.hid fun o => ((Hx3.out.b2.alloc o).there (o := 0) (n := 5) (Nat.le_refl _))
  clear hs
  go_wp2_with ((refine wpList_store_mid rfl 82 (.tmp 6) (.tmp 196) rfl (w.heap.size + 2) 0 (Ef.cells ⟨7, pc + 1, 0, 0, 0⟩).toArray rfl rfl ?_ Try.sizeEf (oneEf _) ?_; exact Hth.out _; change wpList _ _ _ _ _ (World.setCells (w3.alloc (.cells (Ef.cells ⟨7, pc + 1, 0, 0, 0⟩).toArray 82)) (w.heap.size + 2) 0 (Ef.cells ⟨7, pc + 1, 0, 0, 0⟩))))
  exact bodyPost_ret (results_c rfl rfl (Try.loadEf ⟨7, pc + 1, 0, 0, 0⟩ (setEf Hx3.out _ _))) rfl ⟨rfl, belEf Hb3.out _ _ (by omega) _⟩

set_option maxRecDepth 100000 in
set_option maxHeartbeats 4000000 in
theorem rdo_17 (a : Int) (b : Int) (c : Int) (imm : Int) (x : L8) (pc : Int) (w : World) (h0 : 0 ≤ pc) (h1 : pc < 1024) 
    (hS : ∀ W, Calls Try.prog 65 #[.int .i64 17] W fun e w' => e = .returned (.tuple #[.agg #[.string (wordS 17), .bool false, .bool false, .bool false, .bool false], .bool true]) ∧ Below W.heap.size W w')
    (hL : ∀ W, Calls Try.prog 39 #[(In.mk 17 a b c imm).val] W fun e w' => e = .returned (.bool true) ∧ Below W.heap.size W w') :
    Calls Try.prog 61 #[(In.mk 17 a b c imm).val, x.val, .int .i64 pc] w fun e w' => e = .returned (Ef.value ⟨5, pc + 1, 0, 0, 0⟩) ∧ Below w.heap.size w w' := by
  simp only [In.val] at hL
  have HS := Lib.hid hS; clear hS
  have HL := Lib.hid hL; clear hL
  have hbx := bx3_new w (In.mk 17 a b c imm) x
  have hbw : Below w.heap.size w (((w.alloc (.cells (In.cells (In.mk 17 a b c imm)).toArray 40)).alloc (.cells x.cells.toArray 63)).alloc (.cells Ef.zero.cells.toArray 82)) := ((((Below.refl _ w).alloc (Nat.le_refl _) _).alloc (by simp) _).alloc (by simp; omega) _)
  have Hbx := Lib.hid hbx; clear hbx
  have Hbw := Lib.hid hbw; clear hbw
  go_enter Try.func61, Try.ntmps61
  unfold In.val L8.val
  go_wp2_with (go_at_call 65; refine (HS.out _).mono ?_; rintro e w2 ⟨rfl, hb2⟩; refine Hid.out ?_)
  refine Lib.hid ?_
  have hb := Hbw.out.trans (hb2.mono Hbw.out.size)
  have hx := Hbx.out.below hb2
  clear hb2 Hbw Hbx
  have Hb2 := Lib.hid hb; clear hb
  have Hx2 := Lib.hid hx; clear hx
  have b0 : ∀ o, Holds (w2.alloc o) w.heap.size 40 (In.cells (In.mk 17 a b c imm)) := fun o => Hx2.out.b0.alloc o
  have k0 := fun o => (b0 o).cell (i := 0) rfl
  have k1 := fun o => (b0 o).cell (i := 1) rfl
  have k2 := fun o => (b0 o).cell (i := 2) rfl
  have k3 := fun o => (b0 o).cell (i := 3) rfl
  have k4 := fun o => (b0 o).cell (i := 4) rfl
  clear b0
  go_wp2_with (go_at_call 39; refine (HL.out _).mono ?_; rintro e w3 ⟨rfl, hb3⟩; refine Hid.out ?_)
  refine Lib.hid ?_
  clear k0 k1 k2 k3 k4
  have hy : Below w2.heap.size w2 w3 := ((Below.refl _ w2).alloc (Nat.le_refl _) _).trans (hb3.mono (by simp))
  have hx3 := Hx2.out.below hy
  have hb := Hb2.out.trans (hy.mono Hb2.out.size)
  have hs : Holds w3 w2.heap.size 87 [.string (wordS 17), .bool false, .bool false, .bool false, .bool false] := (Holds.new w2 87 [.string (wordS 17), .bool false, .bool false, .bool false, .bool false]).below hb3
  clear hy hb3
  have Hx3 := Lib.hid hx3; clear hx3
  have Hb3 := Lib.hid hb; clear hb
  have k0 : ∀ o, (w3.alloc o).cell? ⟨w.heap.size, 0, none⟩ = _ := fun o => (Hx3.out.b0.alloc o).cell (i := 0) rfl
  have k1 : ∀ o, (w3.alloc o).cell? ⟨w.heap.size, 1, none⟩ = _ := fun o => (Hx3.out.b0.alloc o).cell (i := 1) rfl
  have k4 : ∀ o, (w3.alloc o).cell? ⟨w.heap.size, 4, none⟩ = _ := fun o => (Hx3.out.b0.alloc o).cell (i := 4) rfl
  have l1 := Hx3.out.b0.cell (i := 1) rfl
  have l2 := Hx3.out.b0.cell (i := 2) rfl
  have l3 := Hx3.out.b0.cell (i := 3) rfl
  have s1 := hs.cell (i := 1) rfl
  have s2 := hs.cell (i := 2) rfl
  have s3 := hs.cell (i := 3) rfl
  have Hth := Lib.hid fun o => ((Hx3.out.b2.alloc o).there (o := 0) (n := 5) (Nat.le_refl _))
  clear hs
  go_wp2_with ((refine wpList_store_mid rfl 82 (.tmp 6) (.tmp 196) rfl (w.heap.size + 2) 0 (Ef.cells ⟨5, pc + 1, 0, 0, 0⟩).toArray rfl rfl ?_ Try.sizeEf (oneEf _) ?_; exact Hth.out _; change wpList _ _ _ _ _ (World.setCells (w3.alloc (.cells (Ef.cells ⟨5, pc + 1, 0, 0, 0⟩).toArray 82)) (w.heap.size + 2) 0 (Ef.cells ⟨5, pc + 1, 0, 0, 0⟩))))
  exact bodyPost_ret (results_c rfl rfl (Try.loadEf ⟨5, pc + 1, 0, 0, 0⟩ (setEf Hx3.out _ _))) rfl ⟨rfl, belEf Hb3.out _ _ (by omega) _⟩

set_option maxRecDepth 100000 in
set_option maxHeartbeats 4000000 in
theorem rdo_18 (a : Int) (b : Int) (c : Int) (imm : Int) (x : L8) (pc : Int) (w : World) (h0 : 0 ≤ pc) (h1 : pc < 1024) 
    (hS : ∀ W, Calls Try.prog 65 #[.int .i64 18] W fun e w' => e = .returned (.tuple #[.agg #[.string (wordS 18), .bool false, .bool false, .bool false, .bool false], .bool true]) ∧ Below W.heap.size W w')
    (hL : ∀ W, Calls Try.prog 39 #[(In.mk 18 a b c imm).val] W fun e w' => e = .returned (.bool true) ∧ Below W.heap.size W w') :
    Calls Try.prog 61 #[(In.mk 18 a b c imm).val, x.val, .int .i64 pc] w fun e w' => e = .returned (Ef.value ⟨6, pc + 1, 0, 0, 0⟩) ∧ Below w.heap.size w w' := by
  simp only [In.val] at hL
  have HS := Lib.hid hS; clear hS
  have HL := Lib.hid hL; clear hL
  have hbx := bx3_new w (In.mk 18 a b c imm) x
  have hbw : Below w.heap.size w (((w.alloc (.cells (In.cells (In.mk 18 a b c imm)).toArray 40)).alloc (.cells x.cells.toArray 63)).alloc (.cells Ef.zero.cells.toArray 82)) := ((((Below.refl _ w).alloc (Nat.le_refl _) _).alloc (by simp) _).alloc (by simp; omega) _)
  have Hbx := Lib.hid hbx; clear hbx
  have Hbw := Lib.hid hbw; clear hbw
  go_enter Try.func61, Try.ntmps61
  unfold In.val L8.val
  go_wp2_with (go_at_call 65; refine (HS.out _).mono ?_; rintro e w2 ⟨rfl, hb2⟩; refine Hid.out ?_)
  refine Lib.hid ?_
  have hb := Hbw.out.trans (hb2.mono Hbw.out.size)
  have hx := Hbx.out.below hb2
  clear hb2 Hbw Hbx
  have Hb2 := Lib.hid hb; clear hb
  have Hx2 := Lib.hid hx; clear hx
  have b0 : ∀ o, Holds (w2.alloc o) w.heap.size 40 (In.cells (In.mk 18 a b c imm)) := fun o => Hx2.out.b0.alloc o
  have k0 := fun o => (b0 o).cell (i := 0) rfl
  have k1 := fun o => (b0 o).cell (i := 1) rfl
  have k2 := fun o => (b0 o).cell (i := 2) rfl
  have k3 := fun o => (b0 o).cell (i := 3) rfl
  have k4 := fun o => (b0 o).cell (i := 4) rfl
  clear b0
  go_wp2_with (go_at_call 39; refine (HL.out _).mono ?_; rintro e w3 ⟨rfl, hb3⟩; refine Hid.out ?_)
  refine Lib.hid ?_
  clear k0 k1 k2 k3 k4
  have hy : Below w2.heap.size w2 w3 := ((Below.refl _ w2).alloc (Nat.le_refl _) _).trans (hb3.mono (by simp))
  have hx3 := Hx2.out.below hy
  have hb := Hb2.out.trans (hy.mono Hb2.out.size)
  have hs : Holds w3 w2.heap.size 87 [.string (wordS 18), .bool false, .bool false, .bool false, .bool false] := (Holds.new w2 87 [.string (wordS 18), .bool false, .bool false, .bool false, .bool false]).below hb3
  clear hy hb3
  have Hx3 := Lib.hid hx3; clear hx3
  have Hb3 := Lib.hid hb; clear hb
  have k0 : ∀ o, (w3.alloc o).cell? ⟨w.heap.size, 0, none⟩ = _ := fun o => (Hx3.out.b0.alloc o).cell (i := 0) rfl
  have k1 : ∀ o, (w3.alloc o).cell? ⟨w.heap.size, 1, none⟩ = _ := fun o => (Hx3.out.b0.alloc o).cell (i := 1) rfl
  have k4 : ∀ o, (w3.alloc o).cell? ⟨w.heap.size, 4, none⟩ = _ := fun o => (Hx3.out.b0.alloc o).cell (i := 4) rfl
  have l1 := Hx3.out.b0.cell (i := 1) rfl
  have l2 := Hx3.out.b0.cell (i := 2) rfl
  have l3 := Hx3.out.b0.cell (i := 3) rfl
  have s1 := hs.cell (i := 1) rfl
  have s2 := hs.cell (i := 2) rfl
  have s3 := hs.cell (i := 3) rfl
  have Hth := Lib.hid fun o => ((Hx3.out.b2.alloc o).there (o := 0) (n := 5) (Nat.le_refl _))
  clear hs
  go_wp2_with ((refine wpList_store_mid rfl 82 (.tmp 6) (.tmp 196) rfl (w.heap.size + 2) 0 (Ef.cells ⟨6, pc + 1, 0, 0, 0⟩).toArray rfl rfl ?_ Try.sizeEf (oneEf _) ?_; exact Hth.out _; change wpList _ _ _ _ _ (World.setCells (w3.alloc (.cells (Ef.cells ⟨6, pc + 1, 0, 0, 0⟩).toArray 82)) (w.heap.size + 2) 0 (Ef.cells ⟨6, pc + 1, 0, 0, 0⟩))))
  exact bodyPost_ret (results_c rfl rfl (Try.loadEf ⟨6, pc + 1, 0, 0, 0⟩ (setEf Hx3.out _ _))) rfl ⟨rfl, belEf Hb3.out _ _ (by omega) _⟩

set_option maxRecDepth 100000 in
set_option maxHeartbeats 4000000 in
theorem rdo_2 (r : Nat) (b : Int) (c : Int) (imm : Int) (x : L8) (pc : Int) (w : World) (h0 : 0 ≤ pc) (h1 : pc < 1024) (hr : r < 8) 
    (hS : ∀ W, Calls Try.prog 65 #[.int .i64 2] W fun e w' => e = .returned (.tuple #[.agg #[.string (wordS 2), .bool true, .bool false, .bool false, .bool true], .bool true]) ∧ Below W.heap.size W w')
    (hL : ∀ W, Calls Try.prog 39 #[(In.mk 2 r b c imm).val] W fun e w' => e = .returned (.bool true) ∧ Below W.heap.size W w') :
    Calls Try.prog 61 #[(In.mk 2 r b c imm).val, x.val, .int .i64 pc] w fun e w' => e = .returned (Ef.value ⟨1, pc + 1, r, IntKind.u64.wrap imm, 0⟩) ∧ Below w.heap.size w w' := by
  simp only [In.val] at hL
  have HS := Lib.hid hS; clear hS
  have HL := Lib.hid hL; clear hL
  have hbx := bx3_new w (In.mk 2 r b c imm) x
  have hbw : Below w.heap.size w (((w.alloc (.cells (In.cells (In.mk 2 r b c imm)).toArray 40)).alloc (.cells x.cells.toArray 63)).alloc (.cells Ef.zero.cells.toArray 82)) := ((((Below.refl _ w).alloc (Nat.le_refl _) _).alloc (by simp) _).alloc (by simp; omega) _)
  have Hbx := Lib.hid hbx; clear hbx
  have Hbw := Lib.hid hbw; clear hbw
  go_enter Try.func61, Try.ntmps61
  unfold In.val L8.val
  go_wp2_with (go_at_call 65; refine (HS.out _).mono ?_; rintro e w2 ⟨rfl, hb2⟩; refine Hid.out ?_)
  refine Lib.hid ?_
  have hb := Hbw.out.trans (hb2.mono Hbw.out.size)
  have hx := Hbx.out.below hb2
  clear hb2 Hbw Hbx
  have Hb2 := Lib.hid hb; clear hb
  have Hx2 := Lib.hid hx; clear hx
  have b0 : ∀ o, Holds (w2.alloc o) w.heap.size 40 (In.cells (In.mk 2 r b c imm)) := fun o => Hx2.out.b0.alloc o
  have k0 := fun o => (b0 o).cell (i := 0) rfl
  have k1 := fun o => (b0 o).cell (i := 1) rfl
  have k2 := fun o => (b0 o).cell (i := 2) rfl
  have k3 := fun o => (b0 o).cell (i := 3) rfl
  have k4 := fun o => (b0 o).cell (i := 4) rfl
  clear b0
  go_wp2_with (go_at_call 39; refine (HL.out _).mono ?_; rintro e w3 ⟨rfl, hb3⟩; refine Hid.out ?_)
  refine Lib.hid ?_
  clear k0 k1 k2 k3 k4
  have hy : Below w2.heap.size w2 w3 := ((Below.refl _ w2).alloc (Nat.le_refl _) _).trans (hb3.mono (by simp))
  have hx3 := Hx2.out.below hy
  have hb := Hb2.out.trans (hy.mono Hb2.out.size)
  have hs : Holds w3 w2.heap.size 87 [.string (wordS 2), .bool true, .bool false, .bool false, .bool true] := (Holds.new w2 87 [.string (wordS 2), .bool true, .bool false, .bool false, .bool true]).below hb3
  clear hy hb3
  have Hx3 := Lib.hid hx3; clear hx3
  have Hb3 := Lib.hid hb; clear hb
  have k0 : ∀ o, (w3.alloc o).cell? ⟨w.heap.size, 0, none⟩ = _ := fun o => (Hx3.out.b0.alloc o).cell (i := 0) rfl
  have k1 : ∀ o, (w3.alloc o).cell? ⟨w.heap.size, 1, none⟩ = _ := fun o => (Hx3.out.b0.alloc o).cell (i := 1) rfl
  have k4 : ∀ o, (w3.alloc o).cell? ⟨w.heap.size, 4, none⟩ = _ := fun o => (Hx3.out.b0.alloc o).cell (i := 4) rfl
  have l1 := Hx3.out.b0.cell (i := 1) rfl
  have l2 := Hx3.out.b0.cell (i := 2) rfl
  have l3 := Hx3.out.b0.cell (i := 3) rfl
  have s1 := hs.cell (i := 1) rfl
  have s2 := hs.cell (i := 2) rfl
  have s3 := hs.cell (i := 3) rfl
  have Hth := Lib.hid fun o => ((Hx3.out.b2.alloc o).there (o := 0) (n := 5) (Nat.le_refl _))
  clear hs
  have gr := Hx3.out.b1.cell (L8.cell_get x hr)
  have zr : (0 : Int) ≤ r ∧ (r : Int) < 8 := by omega
  go_wp2_with ((refine wpList_store_mid rfl 82 (.tmp 6) (.tmp 196) rfl (w.heap.size + 2) 0 (Ef.cells ⟨1, pc + 1, r, IntKind.u64.wrap imm, 0⟩).toArray rfl rfl ?_ Try.sizeEf (oneEf _) ?_; exact Hth.out _; change wpList _ _ _ _ _ (World.setCells (w3.alloc (.cells (Ef.cells ⟨1, pc + 1, r, IntKind.u64.wrap imm, 0⟩).toArray 82)) (w.heap.size + 2) 0 (Ef.cells ⟨1, pc + 1, r, IntKind.u64.wrap imm, 0⟩))))
  exact bodyPost_ret (results_c rfl rfl (Try.loadEf ⟨1, pc + 1, r, IntKind.u64.wrap imm, 0⟩ (setEf Hx3.out _ _))) rfl ⟨rfl, belEf Hb3.out _ _ (by omega) _⟩

set_option maxRecDepth 100000 in
set_option maxHeartbeats 4000000 in
theorem rdo_3 (r : Nat) (s : Nat) (c : Int) (imm : Int) (x : L8) (pc : Int) (w : World) (h0 : 0 ≤ pc) (h1 : pc < 1024) (hr : r < 8) (hs : s < 8) 
    (hS : ∀ W, Calls Try.prog 65 #[.int .i64 3] W fun e w' => e = .returned (.tuple #[.agg #[.string (wordS 3), .bool true, .bool true, .bool false, .bool false], .bool true]) ∧ Below W.heap.size W w')
    (hL : ∀ W, Calls Try.prog 39 #[(In.mk 3 r s c imm).val] W fun e w' => e = .returned (.bool true) ∧ Below W.heap.size W w') :
    Calls Try.prog 61 #[(In.mk 3 r s c imm).val, x.val, .int .i64 pc] w fun e w' => e = .returned (Ef.value ⟨1, pc + 1, r, x.get s, 0⟩) ∧ Below w.heap.size w w' := by
  simp only [In.val] at hL
  have HS := Lib.hid hS; clear hS
  have HL := Lib.hid hL; clear hL
  have hbx := bx3_new w (In.mk 3 r s c imm) x
  have hbw : Below w.heap.size w (((w.alloc (.cells (In.cells (In.mk 3 r s c imm)).toArray 40)).alloc (.cells x.cells.toArray 63)).alloc (.cells Ef.zero.cells.toArray 82)) := ((((Below.refl _ w).alloc (Nat.le_refl _) _).alloc (by simp) _).alloc (by simp; omega) _)
  have Hbx := Lib.hid hbx; clear hbx
  have Hbw := Lib.hid hbw; clear hbw
  go_enter Try.func61, Try.ntmps61
  unfold In.val L8.val
  go_wp2_with (go_at_call 65; refine (HS.out _).mono ?_; rintro e w2 ⟨rfl, hb2⟩; refine Hid.out ?_)
  refine Lib.hid ?_
  have hb := Hbw.out.trans (hb2.mono Hbw.out.size)
  have hx := Hbx.out.below hb2
  clear hb2 Hbw Hbx
  have Hb2 := Lib.hid hb; clear hb
  have Hx2 := Lib.hid hx; clear hx
  have b0 : ∀ o, Holds (w2.alloc o) w.heap.size 40 (In.cells (In.mk 3 r s c imm)) := fun o => Hx2.out.b0.alloc o
  have k0 := fun o => (b0 o).cell (i := 0) rfl
  have k1 := fun o => (b0 o).cell (i := 1) rfl
  have k2 := fun o => (b0 o).cell (i := 2) rfl
  have k3 := fun o => (b0 o).cell (i := 3) rfl
  have k4 := fun o => (b0 o).cell (i := 4) rfl
  clear b0
  go_wp2_with (go_at_call 39; refine (HL.out _).mono ?_; rintro e w3 ⟨rfl, hb3⟩; refine Hid.out ?_)
  refine Lib.hid ?_
  clear k0 k1 k2 k3 k4
  have hy : Below w2.heap.size w2 w3 := ((Below.refl _ w2).alloc (Nat.le_refl _) _).trans (hb3.mono (by simp))
  have hx3 := Hx2.out.below hy
  have hb := Hb2.out.trans (hy.mono Hb2.out.size)
  have hs : Holds w3 w2.heap.size 87 [.string (wordS 3), .bool true, .bool true, .bool false, .bool false] := (Holds.new w2 87 [.string (wordS 3), .bool true, .bool true, .bool false, .bool false]).below hb3
  clear hy hb3
  have Hx3 := Lib.hid hx3; clear hx3
  have Hb3 := Lib.hid hb; clear hb
  have k0 : ∀ o, (w3.alloc o).cell? ⟨w.heap.size, 0, none⟩ = _ := fun o => (Hx3.out.b0.alloc o).cell (i := 0) rfl
  have k1 : ∀ o, (w3.alloc o).cell? ⟨w.heap.size, 1, none⟩ = _ := fun o => (Hx3.out.b0.alloc o).cell (i := 1) rfl
  have k4 : ∀ o, (w3.alloc o).cell? ⟨w.heap.size, 4, none⟩ = _ := fun o => (Hx3.out.b0.alloc o).cell (i := 4) rfl
  have l1 := Hx3.out.b0.cell (i := 1) rfl
  have l2 := Hx3.out.b0.cell (i := 2) rfl
  have l3 := Hx3.out.b0.cell (i := 3) rfl
  have s1 := hs.cell (i := 1) rfl
  have s2 := hs.cell (i := 2) rfl
  have s3 := hs.cell (i := 3) rfl
  have Hth := Lib.hid fun o => ((Hx3.out.b2.alloc o).there (o := 0) (n := 5) (Nat.le_refl _))
  clear hs
  have gr := Hx3.out.b1.cell (L8.cell_get x hr)
  have zr : (0 : Int) ≤ r ∧ (r : Int) < 8 := by omega
  have gs := Hx3.out.b1.cell (L8.cell_get x hs)
  have zs : (0 : Int) ≤ s ∧ (s : Int) < 8 := by omega
  go_wp2_with ((refine wpList_store_mid rfl 82 (.tmp 6) (.tmp 196) rfl (w.heap.size + 2) 0 (Ef.cells ⟨1, pc + 1, r, x.get s, 0⟩).toArray rfl rfl ?_ Try.sizeEf (oneEf _) ?_; exact Hth.out _; change wpList _ _ _ _ _ (World.setCells (w3.alloc (.cells (Ef.cells ⟨1, pc + 1, r, x.get s, 0⟩).toArray 82)) (w.heap.size + 2) 0 (Ef.cells ⟨1, pc + 1, r, x.get s, 0⟩))))
  exact bodyPost_ret (results_c rfl rfl (Try.loadEf ⟨1, pc + 1, r, x.get s, 0⟩ (setEf Hx3.out _ _))) rfl ⟨rfl, belEf Hb3.out _ _ (by omega) _⟩

set_option maxRecDepth 100000 in
set_option maxHeartbeats 4000000 in
theorem rdo_4 (r : Nat) (s : Nat) (t : Nat) (imm : Int) (x : L8) (pc : Int) (w : World) (h0 : 0 ≤ pc) (h1 : pc < 1024) (hr : r < 8) (hs : s < 8) (ht : t < 8) 
    (hS : ∀ W, Calls Try.prog 65 #[.int .i64 4] W fun e w' => e = .returned (.tuple #[.agg #[.string (wordS 4), .bool true, .bool true, .bool true, .bool false], .bool true]) ∧ Below W.heap.size W w')
    (hL : ∀ W, Calls Try.prog 39 #[(In.mk 4 r s t imm).val] W fun e w' => e = .returned (.bool true) ∧ Below W.heap.size W w') :
    Calls Try.prog 61 #[(In.mk 4 r s t imm).val, x.val, .int .i64 pc] w fun e w' => e = .returned (Ef.value ⟨1, pc + 1, r, IntKind.u64.wrap (x.get s + x.get t), 0⟩) ∧ Below w.heap.size w w' := by
  simp only [In.val] at hL
  have HS := Lib.hid hS; clear hS
  have HL := Lib.hid hL; clear hL
  have hbx := bx3_new w (In.mk 4 r s t imm) x
  have hbw : Below w.heap.size w (((w.alloc (.cells (In.cells (In.mk 4 r s t imm)).toArray 40)).alloc (.cells x.cells.toArray 63)).alloc (.cells Ef.zero.cells.toArray 82)) := ((((Below.refl _ w).alloc (Nat.le_refl _) _).alloc (by simp) _).alloc (by simp; omega) _)
  have Hbx := Lib.hid hbx; clear hbx
  have Hbw := Lib.hid hbw; clear hbw
  go_enter Try.func61, Try.ntmps61
  unfold In.val L8.val
  go_wp2_with (go_at_call 65; refine (HS.out _).mono ?_; rintro e w2 ⟨rfl, hb2⟩; refine Hid.out ?_)
  refine Lib.hid ?_
  have hb := Hbw.out.trans (hb2.mono Hbw.out.size)
  have hx := Hbx.out.below hb2
  clear hb2 Hbw Hbx
  have Hb2 := Lib.hid hb; clear hb
  have Hx2 := Lib.hid hx; clear hx
  have b0 : ∀ o, Holds (w2.alloc o) w.heap.size 40 (In.cells (In.mk 4 r s t imm)) := fun o => Hx2.out.b0.alloc o
  have k0 := fun o => (b0 o).cell (i := 0) rfl
  have k1 := fun o => (b0 o).cell (i := 1) rfl
  have k2 := fun o => (b0 o).cell (i := 2) rfl
  have k3 := fun o => (b0 o).cell (i := 3) rfl
  have k4 := fun o => (b0 o).cell (i := 4) rfl
  clear b0
  go_wp2_with (go_at_call 39; refine (HL.out _).mono ?_; rintro e w3 ⟨rfl, hb3⟩; refine Hid.out ?_)
  refine Lib.hid ?_
  clear k0 k1 k2 k3 k4
  have hy : Below w2.heap.size w2 w3 := ((Below.refl _ w2).alloc (Nat.le_refl _) _).trans (hb3.mono (by simp))
  have hx3 := Hx2.out.below hy
  have hb := Hb2.out.trans (hy.mono Hb2.out.size)
  have hs : Holds w3 w2.heap.size 87 [.string (wordS 4), .bool true, .bool true, .bool true, .bool false] := (Holds.new w2 87 [.string (wordS 4), .bool true, .bool true, .bool true, .bool false]).below hb3
  clear hy hb3
  have Hx3 := Lib.hid hx3; clear hx3
  have Hb3 := Lib.hid hb; clear hb
  have k0 : ∀ o, (w3.alloc o).cell? ⟨w.heap.size, 0, none⟩ = _ := fun o => (Hx3.out.b0.alloc o).cell (i := 0) rfl
  have k1 : ∀ o, (w3.alloc o).cell? ⟨w.heap.size, 1, none⟩ = _ := fun o => (Hx3.out.b0.alloc o).cell (i := 1) rfl
  have k4 : ∀ o, (w3.alloc o).cell? ⟨w.heap.size, 4, none⟩ = _ := fun o => (Hx3.out.b0.alloc o).cell (i := 4) rfl
  have l1 := Hx3.out.b0.cell (i := 1) rfl
  have l2 := Hx3.out.b0.cell (i := 2) rfl
  have l3 := Hx3.out.b0.cell (i := 3) rfl
  have s1 := hs.cell (i := 1) rfl
  have s2 := hs.cell (i := 2) rfl
  have s3 := hs.cell (i := 3) rfl
  have Hth := Lib.hid fun o => ((Hx3.out.b2.alloc o).there (o := 0) (n := 5) (Nat.le_refl _))
  clear hs
  have gr := Hx3.out.b1.cell (L8.cell_get x hr)
  have zr : (0 : Int) ≤ r ∧ (r : Int) < 8 := by omega
  have gs := Hx3.out.b1.cell (L8.cell_get x hs)
  have zs : (0 : Int) ≤ s ∧ (s : Int) < 8 := by omega
  have gt := Hx3.out.b1.cell (L8.cell_get x ht)
  have zt : (0 : Int) ≤ t ∧ (t : Int) < 8 := by omega
  go_wp2_with ((refine wpList_store_mid rfl 82 (.tmp 6) (.tmp 196) rfl (w.heap.size + 2) 0 (Ef.cells ⟨1, pc + 1, r, IntKind.u64.wrap (x.get s + x.get t), 0⟩).toArray rfl rfl ?_ Try.sizeEf (oneEf _) ?_; exact Hth.out _; change wpList _ _ _ _ _ (World.setCells (w3.alloc (.cells (Ef.cells ⟨1, pc + 1, r, IntKind.u64.wrap (x.get s + x.get t), 0⟩).toArray 82)) (w.heap.size + 2) 0 (Ef.cells ⟨1, pc + 1, r, IntKind.u64.wrap (x.get s + x.get t), 0⟩))))
  exact bodyPost_ret (results_c rfl rfl (Try.loadEf ⟨1, pc + 1, r, IntKind.u64.wrap (x.get s + x.get t), 0⟩ (setEf Hx3.out _ _))) rfl ⟨rfl, belEf Hb3.out _ _ (by omega) _⟩

set_option maxRecDepth 100000 in
set_option maxHeartbeats 4000000 in
theorem rdo_5 (r : Nat) (s : Nat) (t : Nat) (imm : Int) (x : L8) (pc : Int) (w : World) (h0 : 0 ≤ pc) (h1 : pc < 1024) (hr : r < 8) (hs : s < 8) (ht : t < 8) 
    (hS : ∀ W, Calls Try.prog 65 #[.int .i64 5] W fun e w' => e = .returned (.tuple #[.agg #[.string (wordS 5), .bool true, .bool true, .bool true, .bool false], .bool true]) ∧ Below W.heap.size W w')
    (hL : ∀ W, Calls Try.prog 39 #[(In.mk 5 r s t imm).val] W fun e w' => e = .returned (.bool true) ∧ Below W.heap.size W w') :
    Calls Try.prog 61 #[(In.mk 5 r s t imm).val, x.val, .int .i64 pc] w fun e w' => e = .returned (Ef.value ⟨1, pc + 1, r, IntKind.u64.wrap (x.get s - x.get t), 0⟩) ∧ Below w.heap.size w w' := by
  simp only [In.val] at hL
  have HS := Lib.hid hS; clear hS
  have HL := Lib.hid hL; clear hL
  have hbx := bx3_new w (In.mk 5 r s t imm) x
  have hbw : Below w.heap.size w (((w.alloc (.cells (In.cells (In.mk 5 r s t imm)).toArray 40)).alloc (.cells x.cells.toArray 63)).alloc (.cells Ef.zero.cells.toArray 82)) := ((((Below.refl _ w).alloc (Nat.le_refl _) _).alloc (by simp) _).alloc (by simp; omega) _)
  have Hbx := Lib.hid hbx; clear hbx
  have Hbw := Lib.hid hbw; clear hbw
  go_enter Try.func61, Try.ntmps61
  unfold In.val L8.val
  go_wp2_with (go_at_call 65; refine (HS.out _).mono ?_; rintro e w2 ⟨rfl, hb2⟩; refine Hid.out ?_)
  refine Lib.hid ?_
  have hb := Hbw.out.trans (hb2.mono Hbw.out.size)
  have hx := Hbx.out.below hb2
  clear hb2 Hbw Hbx
  have Hb2 := Lib.hid hb; clear hb
  have Hx2 := Lib.hid hx; clear hx
  have b0 : ∀ o, Holds (w2.alloc o) w.heap.size 40 (In.cells (In.mk 5 r s t imm)) := fun o => Hx2.out.b0.alloc o
  have k0 := fun o => (b0 o).cell (i := 0) rfl
  have k1 := fun o => (b0 o).cell (i := 1) rfl
  have k2 := fun o => (b0 o).cell (i := 2) rfl
  have k3 := fun o => (b0 o).cell (i := 3) rfl
  have k4 := fun o => (b0 o).cell (i := 4) rfl
  clear b0
  go_wp2_with (go_at_call 39; refine (HL.out _).mono ?_; rintro e w3 ⟨rfl, hb3⟩; refine Hid.out ?_)
  refine Lib.hid ?_
  clear k0 k1 k2 k3 k4
  have hy : Below w2.heap.size w2 w3 := ((Below.refl _ w2).alloc (Nat.le_refl _) _).trans (hb3.mono (by simp))
  have hx3 := Hx2.out.below hy
  have hb := Hb2.out.trans (hy.mono Hb2.out.size)
  have hs : Holds w3 w2.heap.size 87 [.string (wordS 5), .bool true, .bool true, .bool true, .bool false] := (Holds.new w2 87 [.string (wordS 5), .bool true, .bool true, .bool true, .bool false]).below hb3
  clear hy hb3
  have Hx3 := Lib.hid hx3; clear hx3
  have Hb3 := Lib.hid hb; clear hb
  have k0 : ∀ o, (w3.alloc o).cell? ⟨w.heap.size, 0, none⟩ = _ := fun o => (Hx3.out.b0.alloc o).cell (i := 0) rfl
  have k1 : ∀ o, (w3.alloc o).cell? ⟨w.heap.size, 1, none⟩ = _ := fun o => (Hx3.out.b0.alloc o).cell (i := 1) rfl
  have k4 : ∀ o, (w3.alloc o).cell? ⟨w.heap.size, 4, none⟩ = _ := fun o => (Hx3.out.b0.alloc o).cell (i := 4) rfl
  have l1 := Hx3.out.b0.cell (i := 1) rfl
  have l2 := Hx3.out.b0.cell (i := 2) rfl
  have l3 := Hx3.out.b0.cell (i := 3) rfl
  have s1 := hs.cell (i := 1) rfl
  have s2 := hs.cell (i := 2) rfl
  have s3 := hs.cell (i := 3) rfl
  have Hth := Lib.hid fun o => ((Hx3.out.b2.alloc o).there (o := 0) (n := 5) (Nat.le_refl _))
  clear hs
  have gr := Hx3.out.b1.cell (L8.cell_get x hr)
  have zr : (0 : Int) ≤ r ∧ (r : Int) < 8 := by omega
  have gs := Hx3.out.b1.cell (L8.cell_get x hs)
  have zs : (0 : Int) ≤ s ∧ (s : Int) < 8 := by omega
  have gt := Hx3.out.b1.cell (L8.cell_get x ht)
  have zt : (0 : Int) ≤ t ∧ (t : Int) < 8 := by omega
  go_wp2_with ((refine wpList_store_mid rfl 82 (.tmp 6) (.tmp 196) rfl (w.heap.size + 2) 0 (Ef.cells ⟨1, pc + 1, r, IntKind.u64.wrap (x.get s - x.get t), 0⟩).toArray rfl rfl ?_ Try.sizeEf (oneEf _) ?_; exact Hth.out _; change wpList _ _ _ _ _ (World.setCells (w3.alloc (.cells (Ef.cells ⟨1, pc + 1, r, IntKind.u64.wrap (x.get s - x.get t), 0⟩).toArray 82)) (w.heap.size + 2) 0 (Ef.cells ⟨1, pc + 1, r, IntKind.u64.wrap (x.get s - x.get t), 0⟩))))
  exact bodyPost_ret (results_c rfl rfl (Try.loadEf ⟨1, pc + 1, r, IntKind.u64.wrap (x.get s - x.get t), 0⟩ (setEf Hx3.out _ _))) rfl ⟨rfl, belEf Hb3.out _ _ (by omega) _⟩

set_option maxRecDepth 100000 in
set_option maxHeartbeats 4000000 in
theorem rdo_6 (r : Nat) (s : Nat) (t : Nat) (imm : Int) (x : L8) (pc : Int) (w : World) (h0 : 0 ≤ pc) (h1 : pc < 1024) (hr : r < 8) (hs : s < 8) (ht : t < 8) 
    (hS : ∀ W, Calls Try.prog 65 #[.int .i64 6] W fun e w' => e = .returned (.tuple #[.agg #[.string (wordS 6), .bool true, .bool true, .bool true, .bool false], .bool true]) ∧ Below W.heap.size W w')
    (hL : ∀ W, Calls Try.prog 39 #[(In.mk 6 r s t imm).val] W fun e w' => e = .returned (.bool true) ∧ Below W.heap.size W w') :
    Calls Try.prog 61 #[(In.mk 6 r s t imm).val, x.val, .int .i64 pc] w fun e w' => e = .returned (Ef.value ⟨1, pc + 1, r, IntKind.u64.wrap (x.get s * x.get t), 0⟩) ∧ Below w.heap.size w w' := by
  simp only [In.val] at hL
  have HS := Lib.hid hS; clear hS
  have HL := Lib.hid hL; clear hL
  have hbx := bx3_new w (In.mk 6 r s t imm) x
  have hbw : Below w.heap.size w (((w.alloc (.cells (In.cells (In.mk 6 r s t imm)).toArray 40)).alloc (.cells x.cells.toArray 63)).alloc (.cells Ef.zero.cells.toArray 82)) := ((((Below.refl _ w).alloc (Nat.le_refl _) _).alloc (by simp) _).alloc (by simp; omega) _)
  have Hbx := Lib.hid hbx; clear hbx
  have Hbw := Lib.hid hbw; clear hbw
  go_enter Try.func61, Try.ntmps61
  unfold In.val L8.val
  go_wp2_with (go_at_call 65; refine (HS.out _).mono ?_; rintro e w2 ⟨rfl, hb2⟩; refine Hid.out ?_)
  refine Lib.hid ?_
  have hb := Hbw.out.trans (hb2.mono Hbw.out.size)
  have hx := Hbx.out.below hb2
  clear hb2 Hbw Hbx
  have Hb2 := Lib.hid hb; clear hb
  have Hx2 := Lib.hid hx; clear hx
  have b0 : ∀ o, Holds (w2.alloc o) w.heap.size 40 (In.cells (In.mk 6 r s t imm)) := fun o => Hx2.out.b0.alloc o
  have k0 := fun o => (b0 o).cell (i := 0) rfl
  have k1 := fun o => (b0 o).cell (i := 1) rfl
  have k2 := fun o => (b0 o).cell (i := 2) rfl
  have k3 := fun o => (b0 o).cell (i := 3) rfl
  have k4 := fun o => (b0 o).cell (i := 4) rfl
  clear b0
  go_wp2_with (go_at_call 39; refine (HL.out _).mono ?_; rintro e w3 ⟨rfl, hb3⟩; refine Hid.out ?_)
  refine Lib.hid ?_
  clear k0 k1 k2 k3 k4
  have hy : Below w2.heap.size w2 w3 := ((Below.refl _ w2).alloc (Nat.le_refl _) _).trans (hb3.mono (by simp))
  have hx3 := Hx2.out.below hy
  have hb := Hb2.out.trans (hy.mono Hb2.out.size)
  have hs : Holds w3 w2.heap.size 87 [.string (wordS 6), .bool true, .bool true, .bool true, .bool false] := (Holds.new w2 87 [.string (wordS 6), .bool true, .bool true, .bool true, .bool false]).below hb3
  clear hy hb3
  have Hx3 := Lib.hid hx3; clear hx3
  have Hb3 := Lib.hid hb; clear hb
  have k0 : ∀ o, (w3.alloc o).cell? ⟨w.heap.size, 0, none⟩ = _ := fun o => (Hx3.out.b0.alloc o).cell (i := 0) rfl
  have k1 : ∀ o, (w3.alloc o).cell? ⟨w.heap.size, 1, none⟩ = _ := fun o => (Hx3.out.b0.alloc o).cell (i := 1) rfl
  have k4 : ∀ o, (w3.alloc o).cell? ⟨w.heap.size, 4, none⟩ = _ := fun o => (Hx3.out.b0.alloc o).cell (i := 4) rfl
  have l1 := Hx3.out.b0.cell (i := 1) rfl
  have l2 := Hx3.out.b0.cell (i := 2) rfl
  have l3 := Hx3.out.b0.cell (i := 3) rfl
  have s1 := hs.cell (i := 1) rfl
  have s2 := hs.cell (i := 2) rfl
  have s3 := hs.cell (i := 3) rfl
  have Hth := Lib.hid fun o => ((Hx3.out.b2.alloc o).there (o := 0) (n := 5) (Nat.le_refl _))
  clear hs
  have gr := Hx3.out.b1.cell (L8.cell_get x hr)
  have zr : (0 : Int) ≤ r ∧ (r : Int) < 8 := by omega
  have gs := Hx3.out.b1.cell (L8.cell_get x hs)
  have zs : (0 : Int) ≤ s ∧ (s : Int) < 8 := by omega
  have gt := Hx3.out.b1.cell (L8.cell_get x ht)
  have zt : (0 : Int) ≤ t ∧ (t : Int) < 8 := by omega
  go_wp2_with ((refine wpList_store_mid rfl 82 (.tmp 6) (.tmp 196) rfl (w.heap.size + 2) 0 (Ef.cells ⟨1, pc + 1, r, IntKind.u64.wrap (x.get s * x.get t), 0⟩).toArray rfl rfl ?_ Try.sizeEf (oneEf _) ?_; exact Hth.out _; change wpList _ _ _ _ _ (World.setCells (w3.alloc (.cells (Ef.cells ⟨1, pc + 1, r, IntKind.u64.wrap (x.get s * x.get t), 0⟩).toArray 82)) (w.heap.size + 2) 0 (Ef.cells ⟨1, pc + 1, r, IntKind.u64.wrap (x.get s * x.get t), 0⟩))))
  exact bodyPost_ret (results_c rfl rfl (Try.loadEf ⟨1, pc + 1, r, IntKind.u64.wrap (x.get s * x.get t), 0⟩ (setEf Hx3.out _ _))) rfl ⟨rfl, belEf Hb3.out _ _ (by omega) _⟩

set_option maxRecDepth 100000 in
set_option maxHeartbeats 4000000 in
theorem rdo_7 (r : Nat) (s : Nat) (t : Nat) (imm : Int) (x : L8) (pc : Int) (w : World) (h0 : 0 ≤ pc) (h1 : pc < 1024) (hr : r < 8) (hs : s < 8) (ht : t < 8) 
    (hS : ∀ W, Calls Try.prog 65 #[.int .i64 7] W fun e w' => e = .returned (.tuple #[.agg #[.string (wordS 7), .bool true, .bool true, .bool true, .bool false], .bool true]) ∧ Below W.heap.size W w')
    (hL : ∀ W, Calls Try.prog 39 #[(In.mk 7 r s t imm).val] W fun e w' => e = .returned (.bool true) ∧ Below W.heap.size W w') :
    Calls Try.prog 61 #[(In.mk 7 r s t imm).val, x.val, .int .i64 pc] w fun e w' => e = .returned (Ef.value ⟨1, pc + 1, r, Go.bits .and .u64 (x.get s) (x.get t), 0⟩) ∧ Below w.heap.size w w' := by
  simp only [In.val] at hL
  have HS := Lib.hid hS; clear hS
  have HL := Lib.hid hL; clear hL
  have hbx := bx3_new w (In.mk 7 r s t imm) x
  have hbw : Below w.heap.size w (((w.alloc (.cells (In.cells (In.mk 7 r s t imm)).toArray 40)).alloc (.cells x.cells.toArray 63)).alloc (.cells Ef.zero.cells.toArray 82)) := ((((Below.refl _ w).alloc (Nat.le_refl _) _).alloc (by simp) _).alloc (by simp; omega) _)
  have Hbx := Lib.hid hbx; clear hbx
  have Hbw := Lib.hid hbw; clear hbw
  go_enter Try.func61, Try.ntmps61
  unfold In.val L8.val
  go_wp2_with (go_at_call 65; refine (HS.out _).mono ?_; rintro e w2 ⟨rfl, hb2⟩; refine Hid.out ?_)
  refine Lib.hid ?_
  have hb := Hbw.out.trans (hb2.mono Hbw.out.size)
  have hx := Hbx.out.below hb2
  clear hb2 Hbw Hbx
  have Hb2 := Lib.hid hb; clear hb
  have Hx2 := Lib.hid hx; clear hx
  have b0 : ∀ o, Holds (w2.alloc o) w.heap.size 40 (In.cells (In.mk 7 r s t imm)) := fun o => Hx2.out.b0.alloc o
  have k0 := fun o => (b0 o).cell (i := 0) rfl
  have k1 := fun o => (b0 o).cell (i := 1) rfl
  have k2 := fun o => (b0 o).cell (i := 2) rfl
  have k3 := fun o => (b0 o).cell (i := 3) rfl
  have k4 := fun o => (b0 o).cell (i := 4) rfl
  clear b0
  go_wp2_with (go_at_call 39; refine (HL.out _).mono ?_; rintro e w3 ⟨rfl, hb3⟩; refine Hid.out ?_)
  refine Lib.hid ?_
  clear k0 k1 k2 k3 k4
  have hy : Below w2.heap.size w2 w3 := ((Below.refl _ w2).alloc (Nat.le_refl _) _).trans (hb3.mono (by simp))
  have hx3 := Hx2.out.below hy
  have hb := Hb2.out.trans (hy.mono Hb2.out.size)
  have hs : Holds w3 w2.heap.size 87 [.string (wordS 7), .bool true, .bool true, .bool true, .bool false] := (Holds.new w2 87 [.string (wordS 7), .bool true, .bool true, .bool true, .bool false]).below hb3
  clear hy hb3
  have Hx3 := Lib.hid hx3; clear hx3
  have Hb3 := Lib.hid hb; clear hb
  have k0 : ∀ o, (w3.alloc o).cell? ⟨w.heap.size, 0, none⟩ = _ := fun o => (Hx3.out.b0.alloc o).cell (i := 0) rfl
  have k1 : ∀ o, (w3.alloc o).cell? ⟨w.heap.size, 1, none⟩ = _ := fun o => (Hx3.out.b0.alloc o).cell (i := 1) rfl
  have k4 : ∀ o, (w3.alloc o).cell? ⟨w.heap.size, 4, none⟩ = _ := fun o => (Hx3.out.b0.alloc o).cell (i := 4) rfl
  have l1 := Hx3.out.b0.cell (i := 1) rfl
  have l2 := Hx3.out.b0.cell (i := 2) rfl
  have l3 := Hx3.out.b0.cell (i := 3) rfl
  have s1 := hs.cell (i := 1) rfl
  have s2 := hs.cell (i := 2) rfl
  have s3 := hs.cell (i := 3) rfl
  have Hth := Lib.hid fun o => ((Hx3.out.b2.alloc o).there (o := 0) (n := 5) (Nat.le_refl _))
  clear hs
  have gr := Hx3.out.b1.cell (L8.cell_get x hr)
  have zr : (0 : Int) ≤ r ∧ (r : Int) < 8 := by omega
  have gs := Hx3.out.b1.cell (L8.cell_get x hs)
  have zs : (0 : Int) ≤ s ∧ (s : Int) < 8 := by omega
  have gt := Hx3.out.b1.cell (L8.cell_get x ht)
  have zt : (0 : Int) ≤ t ∧ (t : Int) < 8 := by omega
  go_wp2_with ((refine wpList_store_mid rfl 82 (.tmp 6) (.tmp 196) rfl (w.heap.size + 2) 0 (Ef.cells ⟨1, pc + 1, r, Go.bits .and .u64 (x.get s) (x.get t), 0⟩).toArray rfl rfl ?_ Try.sizeEf (oneEf _) ?_; exact Hth.out _; change wpList _ _ _ _ _ (World.setCells (w3.alloc (.cells (Ef.cells ⟨1, pc + 1, r, Go.bits .and .u64 (x.get s) (x.get t), 0⟩).toArray 82)) (w.heap.size + 2) 0 (Ef.cells ⟨1, pc + 1, r, Go.bits .and .u64 (x.get s) (x.get t), 0⟩))))
  exact bodyPost_ret (results_c rfl rfl (Try.loadEf ⟨1, pc + 1, r, Go.bits .and .u64 (x.get s) (x.get t), 0⟩ (setEf Hx3.out _ _))) rfl ⟨rfl, belEf Hb3.out _ _ (by omega) _⟩

set_option maxRecDepth 100000 in
set_option maxHeartbeats 4000000 in
theorem rdo_8 (r : Nat) (s : Nat) (t : Nat) (imm : Int) (x : L8) (pc : Int) (w : World) (h0 : 0 ≤ pc) (h1 : pc < 1024) (hr : r < 8) (hs : s < 8) (ht : t < 8) 
    (hS : ∀ W, Calls Try.prog 65 #[.int .i64 8] W fun e w' => e = .returned (.tuple #[.agg #[.string (wordS 8), .bool true, .bool true, .bool true, .bool false], .bool true]) ∧ Below W.heap.size W w')
    (hL : ∀ W, Calls Try.prog 39 #[(In.mk 8 r s t imm).val] W fun e w' => e = .returned (.bool true) ∧ Below W.heap.size W w') :
    Calls Try.prog 61 #[(In.mk 8 r s t imm).val, x.val, .int .i64 pc] w fun e w' => e = .returned (Ef.value ⟨1, pc + 1, r, Go.bits .xor .u64 (x.get s) (x.get t), 0⟩) ∧ Below w.heap.size w w' := by
  simp only [In.val] at hL
  have HS := Lib.hid hS; clear hS
  have HL := Lib.hid hL; clear hL
  have hbx := bx3_new w (In.mk 8 r s t imm) x
  have hbw : Below w.heap.size w (((w.alloc (.cells (In.cells (In.mk 8 r s t imm)).toArray 40)).alloc (.cells x.cells.toArray 63)).alloc (.cells Ef.zero.cells.toArray 82)) := ((((Below.refl _ w).alloc (Nat.le_refl _) _).alloc (by simp) _).alloc (by simp; omega) _)
  have Hbx := Lib.hid hbx; clear hbx
  have Hbw := Lib.hid hbw; clear hbw
  go_enter Try.func61, Try.ntmps61
  unfold In.val L8.val
  go_wp2_with (go_at_call 65; refine (HS.out _).mono ?_; rintro e w2 ⟨rfl, hb2⟩; refine Hid.out ?_)
  refine Lib.hid ?_
  have hb := Hbw.out.trans (hb2.mono Hbw.out.size)
  have hx := Hbx.out.below hb2
  clear hb2 Hbw Hbx
  have Hb2 := Lib.hid hb; clear hb
  have Hx2 := Lib.hid hx; clear hx
  have b0 : ∀ o, Holds (w2.alloc o) w.heap.size 40 (In.cells (In.mk 8 r s t imm)) := fun o => Hx2.out.b0.alloc o
  have k0 := fun o => (b0 o).cell (i := 0) rfl
  have k1 := fun o => (b0 o).cell (i := 1) rfl
  have k2 := fun o => (b0 o).cell (i := 2) rfl
  have k3 := fun o => (b0 o).cell (i := 3) rfl
  have k4 := fun o => (b0 o).cell (i := 4) rfl
  clear b0
  go_wp2_with (go_at_call 39; refine (HL.out _).mono ?_; rintro e w3 ⟨rfl, hb3⟩; refine Hid.out ?_)
  refine Lib.hid ?_
  clear k0 k1 k2 k3 k4
  have hy : Below w2.heap.size w2 w3 := ((Below.refl _ w2).alloc (Nat.le_refl _) _).trans (hb3.mono (by simp))
  have hx3 := Hx2.out.below hy
  have hb := Hb2.out.trans (hy.mono Hb2.out.size)
  have hs : Holds w3 w2.heap.size 87 [.string (wordS 8), .bool true, .bool true, .bool true, .bool false] := (Holds.new w2 87 [.string (wordS 8), .bool true, .bool true, .bool true, .bool false]).below hb3
  clear hy hb3
  have Hx3 := Lib.hid hx3; clear hx3
  have Hb3 := Lib.hid hb; clear hb
  have k0 : ∀ o, (w3.alloc o).cell? ⟨w.heap.size, 0, none⟩ = _ := fun o => (Hx3.out.b0.alloc o).cell (i := 0) rfl
  have k1 : ∀ o, (w3.alloc o).cell? ⟨w.heap.size, 1, none⟩ = _ := fun o => (Hx3.out.b0.alloc o).cell (i := 1) rfl
  have k4 : ∀ o, (w3.alloc o).cell? ⟨w.heap.size, 4, none⟩ = _ := fun o => (Hx3.out.b0.alloc o).cell (i := 4) rfl
  have l1 := Hx3.out.b0.cell (i := 1) rfl
  have l2 := Hx3.out.b0.cell (i := 2) rfl
  have l3 := Hx3.out.b0.cell (i := 3) rfl
  have s1 := hs.cell (i := 1) rfl
  have s2 := hs.cell (i := 2) rfl
  have s3 := hs.cell (i := 3) rfl
  have Hth := Lib.hid fun o => ((Hx3.out.b2.alloc o).there (o := 0) (n := 5) (Nat.le_refl _))
  clear hs
  have gr := Hx3.out.b1.cell (L8.cell_get x hr)
  have zr : (0 : Int) ≤ r ∧ (r : Int) < 8 := by omega
  have gs := Hx3.out.b1.cell (L8.cell_get x hs)
  have zs : (0 : Int) ≤ s ∧ (s : Int) < 8 := by omega
  have gt := Hx3.out.b1.cell (L8.cell_get x ht)
  have zt : (0 : Int) ≤ t ∧ (t : Int) < 8 := by omega
  go_wp2_with ((refine wpList_store_mid rfl 82 (.tmp 6) (.tmp 196) rfl (w.heap.size + 2) 0 (Ef.cells ⟨1, pc + 1, r, Go.bits .xor .u64 (x.get s) (x.get t), 0⟩).toArray rfl rfl ?_ Try.sizeEf (oneEf _) ?_; exact Hth.out _; change wpList _ _ _ _ _ (World.setCells (w3.alloc (.cells (Ef.cells ⟨1, pc + 1, r, Go.bits .xor .u64 (x.get s) (x.get t), 0⟩).toArray 82)) (w.heap.size + 2) 0 (Ef.cells ⟨1, pc + 1, r, Go.bits .xor .u64 (x.get s) (x.get t), 0⟩))))
  exact bodyPost_ret (results_c rfl rfl (Try.loadEf ⟨1, pc + 1, r, Go.bits .xor .u64 (x.get s) (x.get t), 0⟩ (setEf Hx3.out _ _))) rfl ⟨rfl, belEf Hb3.out _ _ (by omega) _⟩

set_option maxRecDepth 100000 in
set_option maxHeartbeats 4000000 in
theorem rdo_9 (r : Nat) (s : Nat) (t : Nat) (imm : Int) (x : L8) (pc : Int) (w : World) (h0 : 0 ≤ pc) (h1 : pc < 1024) (hr : r < 8) (hs : s < 8) (ht : t < 8) (hx : x.Ok) 
    (hS : ∀ W, Calls Try.prog 65 #[.int .i64 9] W fun e w' => e = .returned (.tuple #[.agg #[.string (wordS 9), .bool true, .bool true, .bool true, .bool false], .bool true]) ∧ Below W.heap.size W w')
    (hL : ∀ W, Calls Try.prog 39 #[(In.mk 9 r s t imm).val] W fun e w' => e = .returned (.bool true) ∧ Below W.heap.size W w') :
    Calls Try.prog 61 #[(In.mk 9 r s t imm).val, x.val, .int .i64 pc] w fun e w' => e = .returned (Ef.value ⟨1, pc + 1, r, IntKind.u64.wrap (x.get s * 2 ^ (x.get t % 64).toNat), 0⟩) ∧ Below w.heap.size w w' := by
  have HSH := Lib.hid (show ∀ W, Calls Try.prog 99 #[.int .u64 (x.get s), .int .u64 (x.get t), .bool true] W fun e w' => e = .returned (.int .u64 (IntKind.u64.wrap (x.get s * 2 ^ (x.get t % 64).toNat))) ∧ W = w' from fun W => shifted_any (x.get s) (x.get t) true W (hx s hs) (hx t ht))
  clear hx
  simp only [In.val] at hL
  have HS := Lib.hid hS; clear hS
  have HL := Lib.hid hL; clear hL
  have hbx := bx3_new w (In.mk 9 r s t imm) x
  have hbw : Below w.heap.size w (((w.alloc (.cells (In.cells (In.mk 9 r s t imm)).toArray 40)).alloc (.cells x.cells.toArray 63)).alloc (.cells Ef.zero.cells.toArray 82)) := ((((Below.refl _ w).alloc (Nat.le_refl _) _).alloc (by simp) _).alloc (by simp; omega) _)
  have Hbx := Lib.hid hbx; clear hbx
  have Hbw := Lib.hid hbw; clear hbw
  go_enter Try.func61, Try.ntmps61
  unfold In.val L8.val
  go_wp2_with (go_at_call 65; refine (HS.out _).mono ?_; rintro e w2 ⟨rfl, hb2⟩; refine Hid.out ?_)
  refine Lib.hid ?_
  have hb := Hbw.out.trans (hb2.mono Hbw.out.size)
  have hx := Hbx.out.below hb2
  clear hb2 Hbw Hbx
  have Hb2 := Lib.hid hb; clear hb
  have Hx2 := Lib.hid hx; clear hx
  have b0 : ∀ o, Holds (w2.alloc o) w.heap.size 40 (In.cells (In.mk 9 r s t imm)) := fun o => Hx2.out.b0.alloc o
  have k0 := fun o => (b0 o).cell (i := 0) rfl
  have k1 := fun o => (b0 o).cell (i := 1) rfl
  have k2 := fun o => (b0 o).cell (i := 2) rfl
  have k3 := fun o => (b0 o).cell (i := 3) rfl
  have k4 := fun o => (b0 o).cell (i := 4) rfl
  clear b0
  go_wp2_with (go_at_call 39; refine (HL.out _).mono ?_; rintro e w3 ⟨rfl, hb3⟩; refine Hid.out ?_)
  refine Lib.hid ?_
  clear k0 k1 k2 k3 k4
  have hy : Below w2.heap.size w2 w3 := ((Below.refl _ w2).alloc (Nat.le_refl _) _).trans (hb3.mono (by simp))
  have hx3 := Hx2.out.below hy
  have hb := Hb2.out.trans (hy.mono Hb2.out.size)
  have hs : Holds w3 w2.heap.size 87 [.string (wordS 9), .bool true, .bool true, .bool true, .bool false] := (Holds.new w2 87 [.string (wordS 9), .bool true, .bool true, .bool true, .bool false]).below hb3
  clear hy hb3
  have Hx3 := Lib.hid hx3; clear hx3
  have Hb3 := Lib.hid hb; clear hb
  have k0 : ∀ o, (w3.alloc o).cell? ⟨w.heap.size, 0, none⟩ = _ := fun o => (Hx3.out.b0.alloc o).cell (i := 0) rfl
  have k1 : ∀ o, (w3.alloc o).cell? ⟨w.heap.size, 1, none⟩ = _ := fun o => (Hx3.out.b0.alloc o).cell (i := 1) rfl
  have k4 : ∀ o, (w3.alloc o).cell? ⟨w.heap.size, 4, none⟩ = _ := fun o => (Hx3.out.b0.alloc o).cell (i := 4) rfl
  have l1 := Hx3.out.b0.cell (i := 1) rfl
  have l2 := Hx3.out.b0.cell (i := 2) rfl
  have l3 := Hx3.out.b0.cell (i := 3) rfl
  have s1 := hs.cell (i := 1) rfl
  have s2 := hs.cell (i := 2) rfl
  have s3 := hs.cell (i := 3) rfl
  have Hth := Lib.hid fun o => ((Hx3.out.b2.alloc o).there (o := 0) (n := 5) (Nat.le_refl _))
  clear hs
  have gr := Hx3.out.b1.cell (L8.cell_get x hr)
  have zr : (0 : Int) ≤ r ∧ (r : Int) < 8 := by omega
  have gs := Hx3.out.b1.cell (L8.cell_get x hs)
  have zs : (0 : Int) ≤ s ∧ (s : Int) < 8 := by omega
  have gt := Hx3.out.b1.cell (L8.cell_get x ht)
  have zt : (0 : Int) ≤ t ∧ (t : Int) < 8 := by omega
  go_wp2_with (first | (go_at_call 99; refine (HSH.out _).mono ?_; rintro e w4 ⟨rfl, rfl⟩) | (refine wpList_store_mid rfl 82 (.tmp 6) (.tmp 196) rfl (w.heap.size + 2) 0 (Ef.cells ⟨1, pc + 1, r, IntKind.u64.wrap (x.get s * 2 ^ (x.get t % 64).toNat), 0⟩).toArray rfl rfl ?_ Try.sizeEf (oneEf _) ?_; exact Hth.out _; change wpList _ _ _ _ _ (World.setCells (w3.alloc (.cells (Ef.cells ⟨1, pc + 1, r, IntKind.u64.wrap (x.get s * 2 ^ (x.get t % 64).toNat), 0⟩).toArray 82)) (w.heap.size + 2) 0 (Ef.cells ⟨1, pc + 1, r, IntKind.u64.wrap (x.get s * 2 ^ (x.get t % 64).toNat), 0⟩))))
  exact bodyPost_ret (results_c rfl rfl (Try.loadEf ⟨1, pc + 1, r, IntKind.u64.wrap (x.get s * 2 ^ (x.get t % 64).toNat), 0⟩ (setEf Hx3.out _ _))) rfl ⟨rfl, belEf Hb3.out _ _ (by omega) _⟩

set_option maxRecDepth 100000 in
set_option maxHeartbeats 4000000 in
theorem rdo_10 (r : Nat) (s : Nat) (t : Nat) (imm : Int) (x : L8) (pc : Int) (w : World) (h0 : 0 ≤ pc) (h1 : pc < 1024) (hr : r < 8) (hs : s < 8) (ht : t < 8) (hx : x.Ok) 
    (hS : ∀ W, Calls Try.prog 65 #[.int .i64 10] W fun e w' => e = .returned (.tuple #[.agg #[.string (wordS 10), .bool true, .bool true, .bool true, .bool false], .bool true]) ∧ Below W.heap.size W w')
    (hL : ∀ W, Calls Try.prog 39 #[(In.mk 10 r s t imm).val] W fun e w' => e = .returned (.bool true) ∧ Below W.heap.size W w') :
    Calls Try.prog 61 #[(In.mk 10 r s t imm).val, x.val, .int .i64 pc] w fun e w' => e = .returned (Ef.value ⟨1, pc + 1, r, x.get s / 2 ^ (x.get t % 64).toNat, 0⟩) ∧ Below w.heap.size w w' := by
  have HSH := Lib.hid (show ∀ W, Calls Try.prog 99 #[.int .u64 (x.get s), .int .u64 (x.get t), .bool false] W fun e w' => e = .returned (.int .u64 (x.get s / 2 ^ (x.get t % 64).toNat)) ∧ W = w' from fun W => shifted_any (x.get s) (x.get t) false W (hx s hs) (hx t ht))
  clear hx
  simp only [In.val] at hL
  have HS := Lib.hid hS; clear hS
  have HL := Lib.hid hL; clear hL
  have hbx := bx3_new w (In.mk 10 r s t imm) x
  have hbw : Below w.heap.size w (((w.alloc (.cells (In.cells (In.mk 10 r s t imm)).toArray 40)).alloc (.cells x.cells.toArray 63)).alloc (.cells Ef.zero.cells.toArray 82)) := ((((Below.refl _ w).alloc (Nat.le_refl _) _).alloc (by simp) _).alloc (by simp; omega) _)
  have Hbx := Lib.hid hbx; clear hbx
  have Hbw := Lib.hid hbw; clear hbw
  go_enter Try.func61, Try.ntmps61
  unfold In.val L8.val
  go_wp2_with (go_at_call 65; refine (HS.out _).mono ?_; rintro e w2 ⟨rfl, hb2⟩; refine Hid.out ?_)
  refine Lib.hid ?_
  have hb := Hbw.out.trans (hb2.mono Hbw.out.size)
  have hx := Hbx.out.below hb2
  clear hb2 Hbw Hbx
  have Hb2 := Lib.hid hb; clear hb
  have Hx2 := Lib.hid hx; clear hx
  have b0 : ∀ o, Holds (w2.alloc o) w.heap.size 40 (In.cells (In.mk 10 r s t imm)) := fun o => Hx2.out.b0.alloc o
  have k0 := fun o => (b0 o).cell (i := 0) rfl
  have k1 := fun o => (b0 o).cell (i := 1) rfl
  have k2 := fun o => (b0 o).cell (i := 2) rfl
  have k3 := fun o => (b0 o).cell (i := 3) rfl
  have k4 := fun o => (b0 o).cell (i := 4) rfl
  clear b0
  go_wp2_with (go_at_call 39; refine (HL.out _).mono ?_; rintro e w3 ⟨rfl, hb3⟩; refine Hid.out ?_)
  refine Lib.hid ?_
  clear k0 k1 k2 k3 k4
  have hy : Below w2.heap.size w2 w3 := ((Below.refl _ w2).alloc (Nat.le_refl _) _).trans (hb3.mono (by simp))
  have hx3 := Hx2.out.below hy
  have hb := Hb2.out.trans (hy.mono Hb2.out.size)
  have hs : Holds w3 w2.heap.size 87 [.string (wordS 10), .bool true, .bool true, .bool true, .bool false] := (Holds.new w2 87 [.string (wordS 10), .bool true, .bool true, .bool true, .bool false]).below hb3
  clear hy hb3
  have Hx3 := Lib.hid hx3; clear hx3
  have Hb3 := Lib.hid hb; clear hb
  have k0 : ∀ o, (w3.alloc o).cell? ⟨w.heap.size, 0, none⟩ = _ := fun o => (Hx3.out.b0.alloc o).cell (i := 0) rfl
  have k1 : ∀ o, (w3.alloc o).cell? ⟨w.heap.size, 1, none⟩ = _ := fun o => (Hx3.out.b0.alloc o).cell (i := 1) rfl
  have k4 : ∀ o, (w3.alloc o).cell? ⟨w.heap.size, 4, none⟩ = _ := fun o => (Hx3.out.b0.alloc o).cell (i := 4) rfl
  have l1 := Hx3.out.b0.cell (i := 1) rfl
  have l2 := Hx3.out.b0.cell (i := 2) rfl
  have l3 := Hx3.out.b0.cell (i := 3) rfl
  have s1 := hs.cell (i := 1) rfl
  have s2 := hs.cell (i := 2) rfl
  have s3 := hs.cell (i := 3) rfl
  have Hth := Lib.hid fun o => ((Hx3.out.b2.alloc o).there (o := 0) (n := 5) (Nat.le_refl _))
  clear hs
  have gr := Hx3.out.b1.cell (L8.cell_get x hr)
  have zr : (0 : Int) ≤ r ∧ (r : Int) < 8 := by omega
  have gs := Hx3.out.b1.cell (L8.cell_get x hs)
  have zs : (0 : Int) ≤ s ∧ (s : Int) < 8 := by omega
  have gt := Hx3.out.b1.cell (L8.cell_get x ht)
  have zt : (0 : Int) ≤ t ∧ (t : Int) < 8 := by omega
  go_wp2_with (first | (go_at_call 99; refine (HSH.out _).mono ?_; rintro e w4 ⟨rfl, rfl⟩) | (refine wpList_store_mid rfl 82 (.tmp 6) (.tmp 196) rfl (w.heap.size + 2) 0 (Ef.cells ⟨1, pc + 1, r, x.get s / 2 ^ (x.get t % 64).toNat, 0⟩).toArray rfl rfl ?_ Try.sizeEf (oneEf _) ?_; exact Hth.out _; change wpList _ _ _ _ _ (World.setCells (w3.alloc (.cells (Ef.cells ⟨1, pc + 1, r, x.get s / 2 ^ (x.get t % 64).toNat, 0⟩).toArray 82)) (w.heap.size + 2) 0 (Ef.cells ⟨1, pc + 1, r, x.get s / 2 ^ (x.get t % 64).toNat, 0⟩))))
  exact bodyPost_ret (results_c rfl rfl (Try.loadEf ⟨1, pc + 1, r, x.get s / 2 ^ (x.get t % 64).toNat, 0⟩ (setEf Hx3.out _ _))) rfl ⟨rfl, belEf Hb3.out _ _ (by omega) _⟩

set_option maxRecDepth 100000 in
set_option maxHeartbeats 4000000 in
theorem rdo_11 (r : Nat) (s : Nat) (c : Int) (imm : Int) (x : L8) (pc : Int) (w : World) (h0 : 0 ≤ pc) (h1 : pc < 1024) (hr : r < 8) (hs : s < 8) 
    (hS : ∀ W, Calls Try.prog 65 #[.int .i64 11] W fun e w' => e = .returned (.tuple #[.agg #[.string (wordS 11), .bool true, .bool true, .bool false, .bool true], .bool true]) ∧ Below W.heap.size W w')
    (hL : ∀ W, Calls Try.prog 39 #[(In.mk 11 r s c imm).val] W fun e w' => e = .returned (.bool true) ∧ Below W.heap.size W w') :
    Calls Try.prog 61 #[(In.mk 11 r s c imm).val, x.val, .int .i64 pc] w fun e w' => e = .returned (Ef.value ⟨3, pc + 1, r, 0, IntKind.u64.wrap (x.get s + IntKind.u64.wrap imm)⟩) ∧ Below w.heap.size w w' := by
  simp only [In.val] at hL
  have HS := Lib.hid hS; clear hS
  have HL := Lib.hid hL; clear hL
  have hbx := bx3_new w (In.mk 11 r s c imm) x
  have hbw : Below w.heap.size w (((w.alloc (.cells (In.cells (In.mk 11 r s c imm)).toArray 40)).alloc (.cells x.cells.toArray 63)).alloc (.cells Ef.zero.cells.toArray 82)) := ((((Below.refl _ w).alloc (Nat.le_refl _) _).alloc (by simp) _).alloc (by simp; omega) _)
  have Hbx := Lib.hid hbx; clear hbx
  have Hbw := Lib.hid hbw; clear hbw
  go_enter Try.func61, Try.ntmps61
  unfold In.val L8.val
  go_wp2_with (go_at_call 65; refine (HS.out _).mono ?_; rintro e w2 ⟨rfl, hb2⟩; refine Hid.out ?_)
  refine Lib.hid ?_
  have hb := Hbw.out.trans (hb2.mono Hbw.out.size)
  have hx := Hbx.out.below hb2
  clear hb2 Hbw Hbx
  have Hb2 := Lib.hid hb; clear hb
  have Hx2 := Lib.hid hx; clear hx
  have b0 : ∀ o, Holds (w2.alloc o) w.heap.size 40 (In.cells (In.mk 11 r s c imm)) := fun o => Hx2.out.b0.alloc o
  have k0 := fun o => (b0 o).cell (i := 0) rfl
  have k1 := fun o => (b0 o).cell (i := 1) rfl
  have k2 := fun o => (b0 o).cell (i := 2) rfl
  have k3 := fun o => (b0 o).cell (i := 3) rfl
  have k4 := fun o => (b0 o).cell (i := 4) rfl
  clear b0
  go_wp2_with (go_at_call 39; refine (HL.out _).mono ?_; rintro e w3 ⟨rfl, hb3⟩; refine Hid.out ?_)
  refine Lib.hid ?_
  clear k0 k1 k2 k3 k4
  have hy : Below w2.heap.size w2 w3 := ((Below.refl _ w2).alloc (Nat.le_refl _) _).trans (hb3.mono (by simp))
  have hx3 := Hx2.out.below hy
  have hb := Hb2.out.trans (hy.mono Hb2.out.size)
  have hs : Holds w3 w2.heap.size 87 [.string (wordS 11), .bool true, .bool true, .bool false, .bool true] := (Holds.new w2 87 [.string (wordS 11), .bool true, .bool true, .bool false, .bool true]).below hb3
  clear hy hb3
  have Hx3 := Lib.hid hx3; clear hx3
  have Hb3 := Lib.hid hb; clear hb
  have k0 : ∀ o, (w3.alloc o).cell? ⟨w.heap.size, 0, none⟩ = _ := fun o => (Hx3.out.b0.alloc o).cell (i := 0) rfl
  have k1 : ∀ o, (w3.alloc o).cell? ⟨w.heap.size, 1, none⟩ = _ := fun o => (Hx3.out.b0.alloc o).cell (i := 1) rfl
  have k4 : ∀ o, (w3.alloc o).cell? ⟨w.heap.size, 4, none⟩ = _ := fun o => (Hx3.out.b0.alloc o).cell (i := 4) rfl
  have l1 := Hx3.out.b0.cell (i := 1) rfl
  have l2 := Hx3.out.b0.cell (i := 2) rfl
  have l3 := Hx3.out.b0.cell (i := 3) rfl
  have s1 := hs.cell (i := 1) rfl
  have s2 := hs.cell (i := 2) rfl
  have s3 := hs.cell (i := 3) rfl
  have Hth := Lib.hid fun o => ((Hx3.out.b2.alloc o).there (o := 0) (n := 5) (Nat.le_refl _))
  clear hs
  have gr := Hx3.out.b1.cell (L8.cell_get x hr)
  have zr : (0 : Int) ≤ r ∧ (r : Int) < 8 := by omega
  have gs := Hx3.out.b1.cell (L8.cell_get x hs)
  have zs : (0 : Int) ≤ s ∧ (s : Int) < 8 := by omega
  go_wp2_with ((refine wpList_store_mid rfl 82 (.tmp 6) (.tmp 196) rfl (w.heap.size + 2) 0 (Ef.cells ⟨3, pc + 1, r, 0, IntKind.u64.wrap (x.get s + IntKind.u64.wrap imm)⟩).toArray rfl rfl ?_ Try.sizeEf (oneEf _) ?_; exact Hth.out _; change wpList _ _ _ _ _ (World.setCells (w3.alloc (.cells (Ef.cells ⟨3, pc + 1, r, 0, IntKind.u64.wrap (x.get s + IntKind.u64.wrap imm)⟩).toArray 82)) (w.heap.size + 2) 0 (Ef.cells ⟨3, pc + 1, r, 0, IntKind.u64.wrap (x.get s + IntKind.u64.wrap imm)⟩))))
  exact bodyPost_ret (results_c rfl rfl (Try.loadEf ⟨3, pc + 1, r, 0, IntKind.u64.wrap (x.get s + IntKind.u64.wrap imm)⟩ (setEf Hx3.out _ _))) rfl ⟨rfl, belEf Hb3.out _ _ (by omega) _⟩

set_option maxRecDepth 100000 in
set_option maxHeartbeats 4000000 in
theorem rdo_12 (r : Nat) (s : Nat) (c : Int) (imm : Int) (x : L8) (pc : Int) (w : World) (h0 : 0 ≤ pc) (h1 : pc < 1024) (hr : r < 8) (hs : s < 8) 
    (hS : ∀ W, Calls Try.prog 65 #[.int .i64 12] W fun e w' => e = .returned (.tuple #[.agg #[.string (wordS 12), .bool true, .bool true, .bool false, .bool true], .bool true]) ∧ Below W.heap.size W w')
    (hL : ∀ W, Calls Try.prog 39 #[(In.mk 12 r s c imm).val] W fun e w' => e = .returned (.bool true) ∧ Below W.heap.size W w') :
    Calls Try.prog 61 #[(In.mk 12 r s c imm).val, x.val, .int .i64 pc] w fun e w' => e = .returned (Ef.value ⟨4, pc + 1, 0, x.get r, IntKind.u64.wrap (x.get s + IntKind.u64.wrap imm)⟩) ∧ Below w.heap.size w w' := by
  simp only [In.val] at hL
  have HS := Lib.hid hS; clear hS
  have HL := Lib.hid hL; clear hL
  have hbx := bx3_new w (In.mk 12 r s c imm) x
  have hbw : Below w.heap.size w (((w.alloc (.cells (In.cells (In.mk 12 r s c imm)).toArray 40)).alloc (.cells x.cells.toArray 63)).alloc (.cells Ef.zero.cells.toArray 82)) := ((((Below.refl _ w).alloc (Nat.le_refl _) _).alloc (by simp) _).alloc (by simp; omega) _)
  have Hbx := Lib.hid hbx; clear hbx
  have Hbw := Lib.hid hbw; clear hbw
  go_enter Try.func61, Try.ntmps61
  unfold In.val L8.val
  go_wp2_with (go_at_call 65; refine (HS.out _).mono ?_; rintro e w2 ⟨rfl, hb2⟩; refine Hid.out ?_)
  refine Lib.hid ?_
  have hb := Hbw.out.trans (hb2.mono Hbw.out.size)
  have hx := Hbx.out.below hb2
  clear hb2 Hbw Hbx
  have Hb2 := Lib.hid hb; clear hb
  have Hx2 := Lib.hid hx; clear hx
  have b0 : ∀ o, Holds (w2.alloc o) w.heap.size 40 (In.cells (In.mk 12 r s c imm)) := fun o => Hx2.out.b0.alloc o
  have k0 := fun o => (b0 o).cell (i := 0) rfl
  have k1 := fun o => (b0 o).cell (i := 1) rfl
  have k2 := fun o => (b0 o).cell (i := 2) rfl
  have k3 := fun o => (b0 o).cell (i := 3) rfl
  have k4 := fun o => (b0 o).cell (i := 4) rfl
  clear b0
  go_wp2_with (go_at_call 39; refine (HL.out _).mono ?_; rintro e w3 ⟨rfl, hb3⟩; refine Hid.out ?_)
  refine Lib.hid ?_
  clear k0 k1 k2 k3 k4
  have hy : Below w2.heap.size w2 w3 := ((Below.refl _ w2).alloc (Nat.le_refl _) _).trans (hb3.mono (by simp))
  have hx3 := Hx2.out.below hy
  have hb := Hb2.out.trans (hy.mono Hb2.out.size)
  have hs : Holds w3 w2.heap.size 87 [.string (wordS 12), .bool true, .bool true, .bool false, .bool true] := (Holds.new w2 87 [.string (wordS 12), .bool true, .bool true, .bool false, .bool true]).below hb3
  clear hy hb3
  have Hx3 := Lib.hid hx3; clear hx3
  have Hb3 := Lib.hid hb; clear hb
  have k0 : ∀ o, (w3.alloc o).cell? ⟨w.heap.size, 0, none⟩ = _ := fun o => (Hx3.out.b0.alloc o).cell (i := 0) rfl
  have k1 : ∀ o, (w3.alloc o).cell? ⟨w.heap.size, 1, none⟩ = _ := fun o => (Hx3.out.b0.alloc o).cell (i := 1) rfl
  have k4 : ∀ o, (w3.alloc o).cell? ⟨w.heap.size, 4, none⟩ = _ := fun o => (Hx3.out.b0.alloc o).cell (i := 4) rfl
  have l1 := Hx3.out.b0.cell (i := 1) rfl
  have l2 := Hx3.out.b0.cell (i := 2) rfl
  have l3 := Hx3.out.b0.cell (i := 3) rfl
  have s1 := hs.cell (i := 1) rfl
  have s2 := hs.cell (i := 2) rfl
  have s3 := hs.cell (i := 3) rfl
  have Hth := Lib.hid fun o => ((Hx3.out.b2.alloc o).there (o := 0) (n := 5) (Nat.le_refl _))
  clear hs
  have gr := Hx3.out.b1.cell (L8.cell_get x hr)
  have zr : (0 : Int) ≤ r ∧ (r : Int) < 8 := by omega
  have gs := Hx3.out.b1.cell (L8.cell_get x hs)
  have zs : (0 : Int) ≤ s ∧ (s : Int) < 8 := by omega
  go_wp2_with ((refine wpList_store_mid rfl 82 (.tmp 6) (.tmp 196) rfl (w.heap.size + 2) 0 (Ef.cells ⟨4, pc + 1, 0, x.get r, IntKind.u64.wrap (x.get s + IntKind.u64.wrap imm)⟩).toArray rfl rfl ?_ Try.sizeEf (oneEf _) ?_; exact Hth.out _; change wpList _ _ _ _ _ (World.setCells (w3.alloc (.cells (Ef.cells ⟨4, pc + 1, 0, x.get r, IntKind.u64.wrap (x.get s + IntKind.u64.wrap imm)⟩).toArray 82)) (w.heap.size + 2) 0 (Ef.cells ⟨4, pc + 1, 0, x.get r, IntKind.u64.wrap (x.get s + IntKind.u64.wrap imm)⟩))))
  exact bodyPost_ret (results_c rfl rfl (Try.loadEf ⟨4, pc + 1, 0, x.get r, IntKind.u64.wrap (x.get s + IntKind.u64.wrap imm)⟩ (setEf Hx3.out _ _))) rfl ⟨rfl, belEf Hb3.out _ _ (by omega) _⟩

end Go.Proofs.Ythjbcpgncnchoaa
