/- The directory: a request is granted to be written. Conditions: those stated in each theorem. -/
import Derived.Test.YtnhainjdaafmiaaDoorDirI
namespace Go.Proofs.YtnhainjdaafmiaaDoor
open Go.RowKit

set_option maxRecDepth 100000 in
set_option maxHeartbeats 2000000 in
theorem grant_m (p m b L o n i c : Nat) (xs : List Int) (k : KnV) (d : L8) (w : World) (hp : w.cell? ⟨p, 0, none⟩ = some (.pointer (some ⟨m, 0, none⟩))) (hm : MemAt w m b n xs) (hk : known w L o k) (hbL : b ≠ L) (hmL : m ≠ L) (hpL : p ≠ L)
    (hc : k.under.core = c) (hl : k.under.line = i) (hi : i < n) (hkd : (k.under.kind == 1) = false) (hd : lineD xs i = d) :
    Calls Tryd.prog 61 #[.pointer (some ⟨p, 0, none⟩), .pointer (some ⟨L, o, none⟩)] w fun e w' => e = .returned (.agg (MsgV.cells ⟨15, c, i, d⟩).toArray) ∧ known w' L o { k with phase := 4, owner := c, sh := 0 } ∧ Only (fun _ => False) L o w w' := by
  have hlL := World.block_lt_of_cell? _ _ hk.c0
  have hka := hk.below (mbox_new w MsgV.zero).below (Nat.le_refl _)
  have a13 := hka.c13
  have g13 := hka.2 13
  have hks := hk.set 13 (.int .i64 4) { k with phase := 4 } (by omega) rfl
  have hos : Only (fun _ => False) L o w (w.setCell ⟨L, o + 13, none⟩ (.int .i64 4)) := (Only.refl _ L o w).set 13 (by omega) _
  have hps : (w.setCell ⟨L, o + 13, none⟩ (.int .i64 4)).cell? ⟨p, 0, none⟩ = some (.pointer (some ⟨m, 0, none⟩)) := by
    rw [World.cell?_of_block (a := ⟨p, 0, none⟩) (Below.heap_setCell w ⟨L, o + 13, none⟩ _ p hpL)]; exact hp
  have hms : MemAt (w.setCell ⟨L, o + 13, none⟩ (.int .i64 4)) m b n xs := by
    refine ⟨?_, hm.apart, hm.len, ?_⟩
    · rw [World.cell?_of_block (a := ⟨m, 0, none⟩) (Below.heap_setCell w ⟨L, o + 13, none⟩ _ m hmL)]; exact hm.head
    · rw [Below.heap_setCell w ⟨L, o + 13, none⟩ _ b hbL]; exact hm.row
  have hlp := World.block_lt_of_cell? _ _ hps
  have HB := Lib.hid (mbox_new (w.setCell ⟨L, o + 13, none⟩ (.int .i64 4)) MsgV.zero)
  have Hk1 := Lib.hid (hks.below HB.out.below (Nat.le_refl _))
  have Hp1 := Lib.hid (show ((w.setCell ⟨L, o + 13, none⟩ (.int .i64 4)).alloc (.cells MsgV.zero.cells.toArray 45)).cell? ⟨p, 0, none⟩ = some (.pointer (some ⟨m, 0, none⟩)) by rw [HB.out.below.cell (p := ⟨p, 0, none⟩) hlp]; exact hps)
  have Hm1 := Lib.hid (hms.alloc (.cells MsgV.zero.cells.toArray 45))
  have Ho1 := Lib.hid (hos.alloc (.cells MsgV.zero.cells.toArray 45))
  have HT1 := Lib.hid (there_new (w.setCell ⟨L, o + 13, none⟩ (.int .i64 4)) MsgV.zero.cells 45 11 rfl)
  have Hc := Lib.hid hc
  have Hl := Lib.hid hl
  have Hkd := Lib.hid hkd
  have Hsz := Lib.hid (show (w.setCell ⟨L, o + 13, none⟩ (.int .i64 4)).heap.size = w.heap.size by simp)
  clear hp hm hk hks hos hps hms hc hl hkd hka
  simp only [MsgV.cells, MsgV.zero, L8.zero] at a13 g13 HB Hk1 Ho1 Hm1 Hp1 HT1
  rw [show (w.setCell ⟨L, o + 13, none⟩ (.int .i64 4)).heap.size = w.heap.size by simp] at HT1
  go_enter Tryd.func61, Tryd.ntmps61
  go_wp2
  clear a13 g13
  have hsz1 : w.heap.size < ((w.setCell ⟨L, o + 13, none⟩ (.int .i64 4)).alloc (.cells #[.int .i64 0, .int .i64 0, .int .i64 0, .int .u64 0, .int .u64 0, .int .u64 0, .int .u64 0, .int .u64 0, .int .u64 0, .int .u64 0, .int .u64 0] 45)).heap.size := by simp
  generalize ((w.setCell ⟨L, o + 13, none⟩ (.int .i64 4)).alloc (.cells #[.int .i64 0, .int .i64 0, .int .i64 0, .int .u64 0, .int .u64 0, .int .u64 0, .int .u64 0, .int .u64 0, .int .u64 0, .int .u64 0, .int .u64 0] 45)) = W1 at *
  have hc2 : W1.cell? ⟨L, o + 2 + 2, none⟩ = some (.int .i64 i) := by rw [Hk1.out.c4]; exact congrArg (fun x => some (Value.int .i64 x)) Hl.out
  have hp1 := Hp1.out
  have hd2 : W1.drew.cell? ⟨L, o + 2 + 2, none⟩ = some (.int .i64 i) := hc2
  have hdp : W1.drew.cell? ⟨p, 0, none⟩ = some (.pointer (some ⟨m, 0, none⟩)) := hp1
  have HF : Hid (∀ V : World, Below W1.heap.size W1 V → V.cell? ⟨p, 0, none⟩ = some (.pointer (some ⟨m, 0, none⟩)) ∧ V.cell? ⟨L, o + 2 + 2, none⟩ = some (.int .i64 i)) := Lib.hid (fun V hb => ⟨by rw [hb.cell (p := ⟨p, 0, none⟩) (World.block_lt_of_cell? _ _ hp1)]; exact hp1, by rw [hb.cell (p := ⟨L, o + 2 + 2, none⟩) (World.block_lt_of_cell? _ _ hc2)]; exact hc2⟩)
  have bd : Below W1.heap.size W1 W1.drew := below_drew (Below.refl _ _)
  have ba : Below W1.heap.size W1 (W1.alloc (.cells #[.int .u64 0, .int .u64 0, .int .u64 0, .int .u64 0, .int .u64 0, .int .u64 0, .int .u64 0, .int .u64 0] 40)).drew := below_drew ((Below.refl _ _).alloc (Nat.le_refl _) _)
  have Hmd := Lib.hid (Hm1.out.below bd (World.block_lt_of_cell? _ _ Hm1.out.head) (lt_of_block Hm1.out.row))
  have Hma := Lib.hid (Hm1.out.below ba (World.block_lt_of_cell? _ _ Hm1.out.head) (lt_of_block Hm1.out.row))
  have Bd := Lib.hid bd
  have Ba := Lib.hid ba
  have hth : ∀ V : World, (V.alloc (.cells L8.zero.cells.toArray 40)).there V.heap.size 0 8 := there_line
  have hthA : ∀ V : World, Below (W1.alloc (.cells L8.zero.cells.toArray 40)).drew.heap.size (W1.alloc (.cells L8.zero.cells.toArray 40)).drew V → V.there W1.heap.size 0 8 ∧ V.rangeAt W1.heap.size 0 L8.zero.cells := fun V hb => ⟨there_block (there_line W1) (hb.block _ (show W1.heap.size < (W1.alloc _).heap.size by simp)), fun j v hv => by rw [World.cell?_of_block (a := ⟨W1.heap.size, 0 + j, none⟩) (hb.block _ (show W1.heap.size < (W1.alloc _).heap.size by simp))]; exact range_line W1 j v hv⟩
  simp only [L8.cells, L8.zero] at hth hthA
  have HthA := Lib.hid hthA; clear hthA
  clear hc2 hp1 hd2 hdp bd ba
  go_region_held3 (fun V => V.cell? ⟨p, 0, none⟩ = some (.pointer (some ⟨m, 0, none⟩)) ∧ V.cell? ⟨L, o + 2 + 2, none⟩ = some (.int .i64 i)) (first | with_reducible exact HF.out _ Bd.out | with_reducible exact HF.out _ Ba.out | with_reducible exact HF.out _ hb1 | with_reducible exact HF.out _ (hb1.alloc hb1.size _) | with_reducible exact HF.out _ (below_cells hb1.size _ _ _ (hb1.alloc hb1.size _)) | with_reducible exact HF.out _ ((((((((hb1.setCell (Nat.le_refl _) _).setCell (Nat.le_refl _) _).setCell (Nat.le_refl _) _).setCell (Nat.le_refl _) _).setCell (Nat.le_refl _) _).setCell (Nat.le_refl _) _).setCell (Nat.le_refl _) _).setCell (Nat.le_refl _) _)) (first | (go_at_call 40; (with_reducible refine (lget_line i m b n xs d hd _ Hmd.out hi).mono ?_); rintro e V ⟨rfl, hb⟩; have hb1 := Bd.out.trans hb; have hb2 := hb) | (go_at_call 40; (with_reducible refine (lget_line i m b n xs d hd _ Hma.out hi).mono ?_); rintro e V ⟨rfl, hb⟩; have hb1 := Ba.out.trans (hb.mono Ba.out.size); have hth2 := HthA.out V hb; have z0 := (hth2.1 0 (by omega)).2; have s0 := hth2.2 0 _ rfl; have z1 := (hth2.1 1 (by omega)).2; have s1 := hth2.2 1 _ rfl; have z2 := (hth2.1 2 (by omega)).2; have s2 := hth2.2 2 _ rfl; have z3 := (hth2.1 3 (by omega)).2; have s3 := hth2.2 3 _ rfl; have z4 := (hth2.1 4 (by omega)).2; have s4 := hth2.2 4 _ rfl; have z5 := (hth2.1 5 (by omega)).2; have s5 := hth2.2 5 _ rfl; have z6 := (hth2.1 6 (by omega)).2; have s6 := hth2.2 6 _ rfl; have z7 := (hth2.1 7 (by omega)).2; have s7 := hth2.2 7 _ rfl; simp only [Nat.zero_add] at s0 s1 s2 s3 s4 s5 s6 s7 z0 z1 z2 z3 z4 z5 z6 z7))
  change Exit.then _ _ _ _ (V.alloc (.cells d.cells.toArray 40))
  have hR := range_new V d
  have hbf : Below W1.heap.size W1 (V.alloc (.cells d.cells.toArray 40)) := hb1.alloc hb1.size _
  have hn0 : w.heap.size < V.heap.size := Nat.lt_of_lt_of_le hsz1 hb1.size
  clear hb1 hb2
  generalize V.alloc (.cells d.cells.toArray 40) = Wf at *
  generalize V.heap.size = n0 at *
  have HR := Lib.hid hR; clear hR
  have HF2 := Lib.hid (Hk1.out.below hbf (Nat.le_refl _))
  have HO2 := Lib.hid (Ho1.out.trans (Only.of_below hbf))
  have HT2 := Lib.hid (there_later HT1.out (hbf.block w.heap.size hsz1))
  rotate_left
  change Exit.then _ _ _ _ (V.setCells W1.heap.size 0 d.cells)
  have hR := World.rangeAt_setCells_same V W1.heap.size 0 d.cells hth2.1
  have hbf : Below W1.heap.size W1 (V.setCells W1.heap.size 0 d.cells) := below_cells (Nat.le_refl _) _ _ _ hb1
  clear hb1 hth2 s0 s1 s2 s3 s4 s5 s6 s7 z0 z1 z2 z3 z4 z5 z6 z7
  generalize V.setCells W1.heap.size 0 d.cells = Wf at *
  have HR := Lib.hid hR; clear hR
  have HF2 := Lib.hid (Hk1.out.below hbf (Nat.le_refl _))
  have HO2 := Lib.hid (Ho1.out.trans (Only.of_below hbf))
  have HT2 := Lib.hid (there_later HT1.out (hbf.block w.heap.size hsz1))
  have hn0 := hsz1
  generalize W1.heap.size = n0 at *
  all_goals
    clear hth HthA Hma Hmd HF Bd Ba HT1 HB Ho1 Hk1 Hm1 Hp1 hbf hsz1
    have c0 := HF2.out.c0
    have c1 := HF2.out.c1
    have c2 := HF2.out.c2
    have hcc : Wf.cell? ⟨L, o + 2 + 1, none⟩ = some (.int .i64 c) := by rw [HF2.out.c3]; exact congrArg (fun x => some (Value.int .i64 x)) Hc.out
    have hkd := Hkd.out
    have g0 := HF2.out.2 0
    have g1 := HF2.out.2 1
    rw [Nat.add_zero] at g0
    have k40 := HF2.out.set 0 (.int .i64 c) { k with phase := 4, owner := c } (by omega) rfl
    rw [Nat.add_zero] at k40
    have k4 := k40.set 1 (.int .u64 0) { k with phase := 4, owner := c, sh := 0 } (by omega) rfl
    have o4 := (HO2.out.set 0 (by omega) (.int .i64 c)).set 1 (by omega) (.int .u64 0)
    rw [Nat.add_zero] at o4
    have O4 := Lib.hid o4; clear o4
    have T4 := Lib.hid (show ((Wf.setCell ⟨L, o, none⟩ (.int .i64 c)).setCell ⟨L, o + 1, none⟩ (.int .u64 0)).there w.heap.size 0 11 from there_set (there_set HT2.out _ _) _ _)
    have r4 : ∀ (j : Nat) (v : Value), d.cells[j]? = some v → ((Wf.setCell ⟨L, o, none⟩ (.int .i64 c)).setCell ⟨L, o + 1, none⟩ (.int .u64 0)).cell? ⟨n0, j, none⟩ = some v := fun j v hv => by
      rw [World.cell?_setCell_other _ _ _ _ (by simp only [ne_eq, Addr.mk.injEq, not_and]; omega), World.cell?_setCell_other _ _ _ _ (by simp only [ne_eq, Addr.mk.injEq, not_and]; omega), ← HR.out j v hv, Nat.zero_add]
    have e0 := r4 0 _ rfl
    have e1 := r4 1 _ rfl
    have e2 := r4 2 _ rfl
    have e3 := r4 3 _ rfl
    have e4 := r4 4 _ rfl
    have e5 := r4 5 _ rfl
    have e6 := r4 6 _ rfl
    have e7 := r4 7 _ rfl
    have K4 := Lib.hid k4; clear k4 r4 k40
    clear HF2 HO2 HT2 HR
    go_wp2
    clear c0 c1 c2 g0 g1 hcc hkd
    generalize ((Wf.setCell ⟨L, o, none⟩ (.int .i64 c)).setCell ⟨L, o + 1, none⟩ (.int .u64 0)) = W4 at *
    have hcc : W4.cell? ⟨L, o + 2 + 1, none⟩ = some (.int .i64 c) := by rw [K4.out.c3]; exact congrArg (fun x => some (Value.int .i64 x)) Hc.out
    have hcl : W4.cell? ⟨L, o + 2 + 2, none⟩ = some (.int .i64 i) := by rw [K4.out.c4]; exact congrArg (fun x => some (Value.int .i64 x)) Hl.out
    go_still_tail 12, (by kernel_rfl)
    change wpList _ _ _ _ _ W4.drew
    have ht : W4.drew.there w.heap.size 0 11 := T4.out
    have hkf : known (W4.drew.setCells w.heap.size 0 (MsgV.cells ⟨15, c, i, d⟩)) L o { k with phase := 4, owner := c, sh := 0 } := K4.out.tch (C := (· = w.heap.size)) (Tch.setCells (C := (· = w.heap.size)) (.inl rfl) _ _ (Tch.refl _ W4).drew) (by omega)
    have hof : Only (fun _ => False) L o w (W4.drew.setCells w.heap.size 0 (MsgV.cells ⟨15, c, i, d⟩)) := O4.out.drew.cells (Nat.le_refl _) hlL _ _
    have hl := Tryd.load52 (w := W4.drew.setCells w.heap.size 0 (MsgV.cells ⟨15, c, i, d⟩)) ⟨15, c, i, d⟩ (range_set _ ht)
    have Ht := Lib.hid ht; clear ht
    have Hfin := Lib.hid (And.intro hkf hof); clear hkf hof
    have Hld := Lib.hid hl; clear hl
    clear hcc hcl e0 e1 e2 e3 e4 e5 e6 e7
    go_wp2_with (refine wpList_store_mid rfl 45 (.tmp 4) (.tmp 76) rfl w.heap.size 0 (MsgV.cells ⟨15, c, i, d⟩).toArray rfl rfl ?_ Tryd.size52 (oneMsg _) ?_; exact Ht.out)
    exact bodyPost_ret (results_c rfl rfl Hld.out) rfl ⟨rfl, Hfin.out⟩

end Go.Proofs.YtnhainjdaafmiaaDoor
