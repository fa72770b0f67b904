/- The directory: what is given back is heard. Conditions: those stated in each theorem. -/
import Derived.Test.YtnhainjdaafmiaaDoorDirQ
namespace Go.Proofs.YtnhainjdaafmiaaDoor
open Go.RowKit Go.BigFrame

section
variable {w w' : World} {lo p m b L o n : Nat} {xs xs' : List Int} {l l' : LV} {wv v : Value} {ms : List MsgV}
set_option maxRecDepth 100000 in
set_option maxHeartbeats 1000000 in
theorem recallAck_any (h : DK w lo p m b L o n xs l wv) {i : Nat} (hw : LWf i l) (hu : ReqOk i l.under) (hi : i < n) (x : MsgV) (hx0 : 0 ≤ x.core) (hx4 : x.core < 4) (hd : lineD (setL n xs x.line x.data) i = x.data) :
    Calls Tryd.prog 52 #[.pointer (some ⟨p, 0, none⟩), .pointer (some ⟨L, o, none⟩), .agg x.cells.toArray] w fun e w' => ∃ v, e = .returned v ∧ DPost w lo p m b L o n wv (setL n xs x.line x.data) (l.recallAck x).1 (l.recallAck x).2 v w' := by
  have x0' := hx0
  obtain ⟨c, hc⟩ : ∃ c : Nat, x.core = c := ⟨x.core.toNat, by omega⟩
  have HB := Lib.hid (mbox_new w x)
  have HW1 := Lib.hid (h.below HB.out.below)
  have HR := Lib.hid HB.out.row
  have HGB := Lib.hid (giveBack_any p m b L o n xs (l.kn wv) x _ HW1.out.hp HW1.out.mem HW1.out.kn h.bL h.mL)
  have HO1 := Lib.hid (Only.of_below (C := (· = b)) (L := L) (o := o) HB.out.below)
  have hbl := lt_of_block h.mem.row
  have hLl := h.lt
  have HX := Lib.hid (fun (W : World) (ho : Only (· = b) L o (w.alloc (.cells x.cells.toArray 45)) W) => show W.heap[w.heap.size]? = (w.alloc (.cells x.cells.toArray 45)).heap[w.heap.size]? from ho.tch.block w.heap.size (by simp) (by rintro (h | h) <;> omega))
  have HX1 := Lib.hid (show (w.alloc (.cells x.cells.toArray 45)).cell? ⟨w.heap.size, 1, none⟩ = some (.int .i64 c) by rw [← hc]; exact HB.out.c1)
  have HX2 := Lib.hid (show (w.alloc (.cells x.cells.toArray 45)).cell? ⟨w.heap.size, 2, none⟩ = some (.int .i64 x.line) from HB.out.c2)
  have hc4 : c < 4 := by omega
  have Hc := Lib.hid hc; clear hc
  have Hwt := Lib.hid (fun (g : Nat) (hg : wv.ownBlock = some g) => (owns_lt h.wait hg).2)
  have Hlp := Lib.hid (And.intro (World.block_lt_of_cell? _ _ h.hp) (And.intro (World.block_lt_of_cell? _ _ h.mem.head) h.gl))
  have hsz : w.heap.size < (w.alloc (.cells x.cells.toArray 45)).heap.size := by simp
  unfold LV.recallAck
  have hs := hw.sh
  by_cases hk : l.under.kind = 1
  · have e1 : l.given x = { l with owner := -1, sh := withS l.sh c } := by unfold LV.given; rw [if_pos hk, Hc.out, Int.toNat_natCast]
    rw [e1]
    have hwg : LWf i { l with owner := -1, sh := withS l.sh c } := ⟨by show (-1 : Int) ≤ -1; decide, by show (-1 : Int) < 4; decide, withS_lt _ hs _ hc4, hw.asked, hw.under, hw.ms, hw.apart⟩
    have HWG := Lib.hid hwg; clear hwg
    have HU := Lib.hid hu
    have Hd := Lib.hid hd
    have Hk := Lib.hid hk
    clear h hw hu hd hk e1 HB hx0 hx4 x0'
    go_enter Tryd.func52, Tryd.ntmps52
    go_wp2_with (first | (refine wpList_load_mid rfl 45 (.tmp 5) rfl w.heap.size 0 rfl x.cells _ ?_ Tryd.underlying45 rfl Tryd.size52 ?_; exact HR.out) | fail)
    refine HGB.out.mono ?_
    rintro e W2 ⟨rfl, hm2, hk2, ho2⟩
    have hD2 := HW1.out.memory (l' := { l with owner := -1 }) hm2 hk2 ho2 rfl
    have hb := HX.out W2 ho2
    have b1 : W2.cell? ⟨w.heap.size, 1, none⟩ = some (.int .i64 c) := by rw [World.cell?_of_block (a := ⟨w.heap.size, 1, none⟩) hb]; exact HX1.out
    have b2 : W2.cell? ⟨w.heap.size, 2, none⟩ = some (.int .i64 x.line) := by rw [World.cell?_of_block (a := ⟨w.heap.size, 2, none⟩) hb]; exact HX2.out
    have HO2 := Lib.hid (HO1.out.trans ho2)
    have hsz2 : w.heap.size < W2.heap.size := Nat.lt_of_lt_of_le hsz ho2.tch.size
    clear hm2 hk2 ho2 hb
    have k1 : W2.cell? ⟨L, o + 1, none⟩ = some (.int .u64 l.sh) := hD2.kn.c1
    have k2 : W2.cell? ⟨L, o + 2, none⟩ = some (.int .i64 1) := by rw [hD2.kn.c2]; exact congrArg (fun x => some (Value.int .i64 x)) Hk.out
    have f1 := hD2.kn.2 1
    have HD2 := Lib.hid hD2; clear hD2
    go_wp2
    go_still_tail 10, (by kernel_rfl)
    still_call ((with_any l.sh c W2.drew hs hc4).mono (fun _ _ h => ⟨h.1, h.2.symm⟩))
    repeat still_step
    refine wpStill_nil ?_
    change wpList _ _ _ _ _ W2.drew
    have hk3 : known (W2.setCell ⟨L, o + 1, none⟩ (.int .u64 (withS l.sh c))).drew L o ({ l with owner := -1, sh := withS l.sh c }.kn wv) := by
      have t := HD2.out.kn.set 1 (.int .u64 (withS l.sh c)) ({ l with owner := -1, sh := withS l.sh c }.kn wv) (by omega) rfl
      exact t
    have hO3 : Only (fun _ => False) L o W2 (W2.setCell ⟨L, o + 1, none⟩ (.int .u64 (withS l.sh c))).drew := ((Only.refl _ L o W2).set 1 (by omega) _).drew
    have HD3 := Lib.hid (HD2.out.step (l' := { l with owner := -1, sh := withS l.sh c }) hk3 hO3 rfl)
    have HO3 := Lib.hid (HO2.out.trans (hO3.mono (fun _ h => h.elim)))
    have HG := Lib.hid (grant_any HD3.out HWG.out HU.out hi x.data Hd.out)
    clear hk3 hO3
    go_wp2_with fail
    refine HG.out.mono ?_
    rintro e w' ⟨rfl, h4, h5⟩
    have hf := granted HD3.out x.data h4 h5
    have Hf := Lib.hid (DPost.after2 HO3.out hf); clear hf h4 h5
    generalize hg : (LV.grant { l with owner := -1, sh := withS l.sh c } x.data).2 = g at *
    obtain ⟨gk, gc, gl, gd⟩ := g
    have HG2 := Lib.hid hg; clear hg
    simp only [MsgV.cells] at Hf ⊢
    go_wp2
    go_ret
    exact ⟨_, rfl, by rw [HG2.out]; exact Hf.out⟩
  · have e1 : l.given x = { l with owner := -1 } := by unfold LV.given; rw [if_neg hk]
    rw [e1]
    have hwg : LWf i { l with owner := -1 } := ⟨by show (-1 : Int) ≤ -1; decide, by show (-1 : Int) < 4; decide, hs, hw.asked, hw.under, hw.ms, hw.apart⟩
    have hk' : (l.under.kind == 1) = false := by simpa using hk
    have HWG := Lib.hid hwg; clear hwg
    have HU := Lib.hid hu
    have Hd := Lib.hid hd
    clear h hw hu hd hk e1 HB hx0 hx4 x0'
    go_enter Tryd.func52, Tryd.ntmps52
    go_wp2_with (first | (refine wpList_load_mid rfl 45 (.tmp 5) rfl w.heap.size 0 rfl x.cells _ ?_ Tryd.underlying45 rfl Tryd.size52 ?_; exact HR.out) | fail)
    refine HGB.out.mono ?_
    rintro e W2 ⟨rfl, hm2, hk2, ho2⟩
    have hD2 := HW1.out.memory (l' := { l with owner := -1 }) hm2 hk2 ho2 rfl
    have hb := HX.out W2 ho2
    have b1 : W2.cell? ⟨w.heap.size, 1, none⟩ = some (.int .i64 c) := by rw [World.cell?_of_block (a := ⟨w.heap.size, 1, none⟩) hb]; exact HX1.out
    have b2 : W2.cell? ⟨w.heap.size, 2, none⟩ = some (.int .i64 x.line) := by rw [World.cell?_of_block (a := ⟨w.heap.size, 2, none⟩) hb]; exact HX2.out
    have HO2 := Lib.hid (HO1.out.trans ho2)
    have hsz2 : w.heap.size < W2.heap.size := Nat.lt_of_lt_of_le hsz ho2.tch.size
    clear hm2 hk2 ho2 hb
    have k2 : W2.cell? ⟨L, o + 2, none⟩ = some (.int .i64 l.under.kind) := hD2.kn.c2
    have HG := Lib.hid (grant_any hD2 HWG.out HU.out hi x.data Hd.out)
    have HD2 := Lib.hid hD2; clear hD2
    go_wp2_with fail
    refine HG.out.mono ?_
    rintro e w' ⟨rfl, h4, h5⟩
    have hf := granted HD2.out x.data h4 h5
    have Hf := Lib.hid (DPost.after2 HO2.out hf); clear hf h4 h5
    generalize hg : (LV.grant { l with owner := -1 } x.data).2 = g at *
    obtain ⟨gk, gc, gl, gd⟩ := g
    have HG2 := Lib.hid hg; clear hg
    simp only [MsgV.cells] at Hf ⊢
    go_wp2
    go_ret
    exact ⟨_, rfl, by rw [HG2.out]; exact Hf.out⟩

set_option maxRecDepth 100000 in
set_option maxHeartbeats 1000000 in
theorem put_any (h : DK w lo p m b L o n xs l wv) {i : Nat} (hw : LWf i l) (hu : l.phase = 2 → ReqOk i l.under) (hi : i < n) (x : MsgV) (hx0 : 0 ≤ x.core) (hx4 : x.core < 4) (hd : lineD (setL n xs x.line x.data) i = x.data) :
    Calls Tryd.prog 50 #[.pointer (some ⟨p, 0, none⟩), .pointer (some ⟨L, o, none⟩), .agg x.cells.toArray] w fun e w' => ∃ v, e = .returned v ∧ DPost w lo p m b L o n wv (setL n xs x.line x.data) (l.put x).1 (l.put x).2 v w' := by
  have x0' := hx0
  obtain ⟨c, hc⟩ : ∃ c : Nat, x.core = c := ⟨x.core.toNat, by omega⟩
  have HB := Lib.hid (mbox_new w x)
  have HW1 := Lib.hid (h.below HB.out.below)
  have HR := Lib.hid HB.out.row
  have HGB := Lib.hid (giveBack_any p m b L o n xs (l.kn wv) x _ HW1.out.hp HW1.out.mem HW1.out.kn h.bL h.mL)
  have HO1 := Lib.hid (Only.of_below (C := (· = b)) (L := L) (o := o) HB.out.below)
  have hbl := lt_of_block h.mem.row
  have hLl := h.lt
  have HX := Lib.hid (fun (W : World) (ho : Only (· = b) L o (w.alloc (.cells x.cells.toArray 45)) W) => show W.heap[w.heap.size]? = (w.alloc (.cells x.cells.toArray 45)).heap[w.heap.size]? from ho.tch.block w.heap.size (by simp) (by rintro (h | h) <;> omega))
  have HX1 := Lib.hid (show (w.alloc (.cells x.cells.toArray 45)).cell? ⟨w.heap.size, 1, none⟩ = some (.int .i64 c) by rw [← hc]; exact HB.out.c1)
  have HX2 := Lib.hid (show (w.alloc (.cells x.cells.toArray 45)).cell? ⟨w.heap.size, 2, none⟩ = some (.int .i64 x.line) from HB.out.c2)
  have hc4 : c < 4 := by omega
  have Hc := Lib.hid hc; clear hc
  have Hwt := Lib.hid (fun (g : Nat) (hg : wv.ownBlock = some g) => (owns_lt h.wait hg).2)
  have Hlp := Lib.hid (And.intro (World.block_lt_of_cell? _ _ h.hp) (And.intro (World.block_lt_of_cell? _ _ h.mem.head) h.gl))
  have hsz : w.heap.size < (w.alloc (.cells x.cells.toArray 45)).heap.size := by simp
  unfold LV.put
  have hs := hw.sh
  have e2 : putAck x = ⟨16, c, x.line, L8.zero⟩ := by unfold putAck; rw [Hc.out]
  rw [e2]
  have hwg : LWf i { l with owner := -1 } := ⟨by show (-1 : Int) ≤ -1; decide, by show (-1 : Int) < 4; decide, hs, hw.asked, hw.under, hw.ms, hw.apart⟩
  have HWG := Lib.hid hwg; clear hwg e2
  by_cases hk : l.phase = 2
  · rw [if_neg (by simp [hk])]
    have HU := Lib.hid (hu hk)
    have Hd := Lib.hid hd
    have Hk := Lib.hid hk
    clear h hw hu hd hk HB hx0 hx4 x0'
    go_enter Tryd.func50, Tryd.ntmps50
    go_wp2_with (first | (refine wpList_load_mid rfl 45 (.tmp 5) rfl w.heap.size 0 rfl x.cells _ ?_ Tryd.underlying45 rfl Tryd.size52 ?_; exact HR.out) | fail)
    refine HGB.out.mono ?_
    rintro e W2 ⟨rfl, hm2, hk2, ho2⟩
    have hD2 := HW1.out.memory (l' := { l with owner := -1 }) hm2 hk2 ho2 rfl
    have hb := HX.out W2 ho2
    have b1 : W2.cell? ⟨w.heap.size, 1, none⟩ = some (.int .i64 c) := by rw [World.cell?_of_block (a := ⟨w.heap.size, 1, none⟩) hb]; exact HX1.out
    have b2 : W2.cell? ⟨w.heap.size, 2, none⟩ = some (.int .i64 x.line) := by rw [World.cell?_of_block (a := ⟨w.heap.size, 2, none⟩) hb]; exact HX2.out
    have HO2 := Lib.hid (HO1.out.trans ho2)
    have hsz2 : w.heap.size < W2.heap.size := Nat.lt_of_lt_of_le hsz ho2.tch.size
    clear hm2 hk2 ho2 hb
    have k13 : W2.cell? ⟨L, o + 13, none⟩ = some (.int .i64 2) := by rw [hD2.kn.c13]; exact congrArg (fun x => some (Value.int .i64 x)) Hk.out
    have hb3 : Below W2.heap.size W2 (W2.alloc (.cells (MsgV.cells ⟨16, c, x.line, L8.zero⟩).toArray 45)) := (Below.refl _ W2).alloc (Nat.le_refl _) _
    have k13' : (W2.alloc (.cells (MsgV.cells ⟨16, c, x.line, L8.zero⟩).toArray 45)).cell? ⟨L, o + 13, none⟩ = some (.int .i64 2) := by rw [hb3.cell (p := ⟨L, o + 13, none⟩) (show L < W2.heap.size by omega)]; exact k13
    have HD3 := Lib.hid (hD2.below hb3)
    have HO3 := Lib.hid (HO2.out.trans (Only.of_below (L := L) (o := o) hb3))
    have HV3 := Lib.hid (dout_new (lo := w.heap.size) W2 ⟨16, c, x.line, L8.zero⟩ (by omega))
    have HG := Lib.hid (grant_any HD3.out HWG.out HU.out hi x.data Hd.out)
    clear hD2 hb3
    simp only [MsgV.cells, L8.zero] at k13' HD3 HO3 HV3 HG
    obtain ⟨i0, hi0, hz0, hz1, hz2⟩ := info_parts Tryd.infoMsg
    have HI := Lib.hid hi0; clear hi0
    have HZa := Lib.hid hz0; clear hz0
    have HZb := Lib.hid hz1; clear hz1
    have HZc := Lib.hid hz2; clear hz2
    go_wp2_with fail
    refine HG.out.mono ?_
    rintro e w4 ⟨rfl, h4, h5⟩
    have hD4 := HD3.out.step (l' := (LV.grant { l with owner := -1 } x.data).1) h4 h5 (by unfold LV.grant; split <;> rfl)
    have hO4 := HO3.out.trans (h5.mono (D := (· = b)) (fun _ h => h.elim))
    have hV4 : w4.ownsRow w.heap.size 45 11 (.slice (some ⟨W2.heap.size, 0, none⟩) 1 1) 1 ([MsgV.mk 16 c x.line L8.zero].flatMap MsgV.cells) := owns_same HV3.out (fun g hg => by
      cases hg
      exact h5.tch.block W2.heap.size (by simp) (by rintro (h | h); exact h; omega))
    have hsz4 : W2.heap.size < w4.heap.size := Nat.lt_of_lt_of_le (by simp) h5.tch.size
    have HD4 := Lib.hid hD4; clear hD4 h4
    have HO4 := Lib.hid hO4; clear hO4 h5
    have HV4 := Lib.hid hV4; clear hV4
    generalize hg : (LV.grant { l with owner := -1 } x.data).2 = g at *
    obtain ⟨gk, gc, gl, gd⟩ := g
    have HG2 := Lib.hid hg; clear hg
    simp only [MsgV.cells]
    have HN := Lib.hid (show ∀ j u, (MsgV.cells ⟨gk, gc, gl, gd⟩)[j]? = some u → (w4.alloc (.cells (MsgV.cells ⟨gk, gc, gl, gd⟩).toArray 45)).cell? ((⟨w4.heap.size, 0, none⟩ : Addr).add j) = some u from msg_cells w4 ⟨gk, gc, gl, gd⟩)
    simp only [MsgV.cells] at HN
    go_wp2_with (at_builtin; refine wpList_append_own _ rfl _ _ 24 rfl w.heap.size 45 i0 (.agg MsgV.zero.cells.toArray) 11 88 Tryd.underlying24 HI.out HZa.out HZb.out HZc.out rfl (by decide) _ _ _ rfl (HV4.out.alloc _) ⟨w4.heap.size, 0, none⟩ 1 1 _ rfl rfl HN.out (by simp [Value.oneCell']) (by unfold maxLen; omega) (by omega) (by simp; omega) ?_; intro v' w5 hown' hgrow _; have Hown := Lib.hid hown'; clear hown'; have Hgrow := Lib.hid hgrow; clear hgrow)
    have hT5 : Tch (fun k => k = W2.heap.size) w4 w5 := ((Tch.refl _ w4).alloc _).grown Hgrow.out (fun k e => by cases e; exact .inl rfl)
    have hbl5 : Below w.heap.size w4 w5 := hT5.below (by omega) (fun k e => by omega)
    have hf : DPost w lo p m b L o n wv (setL n xs x.line x.data) (LV.grant { l with owner := -1 } x.data).1 [⟨16, c, x.line, L8.zero⟩, ⟨gk, gc, gl, gd⟩] v' w5 :=
      DPost.of2 (HD4.out.frame hT5 (by have := Hlp.out; omega) (by have := Hlp.out; omega) (by omega) (by omega) (by have := Hlp.out; omega) (fun g hg => by have := Hwt.out g hg; omega)) Hown.out (HO4.out.laterC hbl5 hLl)
    have Hf := Lib.hid hf; clear hf hT5 hbl5
    go_wp2
    go_ret
    exact ⟨_, rfl, by rw [HG2.out]; exact Hf.out⟩
  · rw [if_pos (by simpa using hk)]
    have hk' : (l.phase != 2) = true := by simpa using hk
    clear h hw hu hd hk HB hx0 hx4 x0'
    go_enter Tryd.func50, Tryd.ntmps50
    go_wp2_with (first | (refine wpList_load_mid rfl 45 (.tmp 5) rfl w.heap.size 0 rfl x.cells _ ?_ Tryd.underlying45 rfl Tryd.size52 ?_; exact HR.out) | fail)
    refine HGB.out.mono ?_
    rintro e W2 ⟨rfl, hm2, hk2, ho2⟩
    have hD2 := HW1.out.memory (l' := { l with owner := -1 }) hm2 hk2 ho2 rfl
    have hb := HX.out W2 ho2
    have b1 : W2.cell? ⟨w.heap.size, 1, none⟩ = some (.int .i64 c) := by rw [World.cell?_of_block (a := ⟨w.heap.size, 1, none⟩) hb]; exact HX1.out
    have b2 : W2.cell? ⟨w.heap.size, 2, none⟩ = some (.int .i64 x.line) := by rw [World.cell?_of_block (a := ⟨w.heap.size, 2, none⟩) hb]; exact HX2.out
    have HO2 := Lib.hid (HO1.out.trans ho2)
    have hsz2 : w.heap.size < W2.heap.size := Nat.lt_of_lt_of_le hsz ho2.tch.size
    clear hm2 hk2 ho2 hb
    have k13 : W2.cell? ⟨L, o + 13, none⟩ = some (.int .i64 l.phase) := hD2.kn.c13
    have hb3 : Below W2.heap.size W2 (W2.alloc (.cells (MsgV.cells ⟨16, c, x.line, L8.zero⟩).toArray 45)) := (Below.refl _ W2).alloc (Nat.le_refl _) _
    have k13' : (W2.alloc (.cells (MsgV.cells ⟨16, c, x.line, L8.zero⟩).toArray 45)).cell? ⟨L, o + 13, none⟩ = some (.int .i64 l.phase) := by rw [hb3.cell (p := ⟨L, o + 13, none⟩) (show L < W2.heap.size by omega)]; exact k13
    have hV3 := dout_new (lo := w.heap.size) W2 ⟨16, c, x.line, L8.zero⟩ (by omega)
    have Hf := Lib.hid (DPost.of2 (hD2.below hb3) hV3 (HO2.out.trans (Only.of_below hb3)))
    clear hD2 hb3 hV3
    simp only [MsgV.cells, L8.zero] at k13' Hf
    go_wp2
    go_ret
    exact ⟨_, rfl, Hf.out⟩

end

end Go.Proofs.YtnhainjdaafmiaaDoor
