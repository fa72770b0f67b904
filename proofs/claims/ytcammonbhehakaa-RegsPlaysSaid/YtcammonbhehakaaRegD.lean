/- A file of registers: Point, Save. Conditions: those stated in each theorem. -/
import Derived.Test.YtcammonbhehakaaRegC
import Derived.RegionTactic
import Derived.StillTailTactics
namespace Go.Proofs.Ytcammonbhehakaa
open Go.RowKit Go.BigFrame

section
variable {w w' : World} {a : Nat} {f : Fl}

set_option maxRecDepth 100000 in
set_option maxHeartbeats 1000000 in
/-- What Point answers where there is none. -/
theorem point_err {p : Value} {er : Int} (hq : ∀ V, Below w.heap.size w V → Calls Try.prog 29 #[p] V fun e w' => e = .returned (.int .i64 er) ∧ V = w') (her : (er != 0) = true) :
    Calls Try.prog 14 #[p] w fun e w' => e = .returned (.tuple #[.agg L8.zero.cells.toArray, .int .i64 0, .bool false]) ∧ Below w.heap.size w w' := by
  obtain ⟨W, eW, hb, ht, hl⟩ := lbox w L8.zero
  have HQ := Lib.hid (hq _ ((Below.refl _ w).alloc (Nat.le_refl _) (.cells L8.zero.cells.toArray 27))); clear hq
  have HT := Lib.hid ht; clear ht
  have HE := Lib.hid eW; clear eW
  have HB := Lib.hid hb; clear hb
  have HL := Lib.hid hl; clear hl
  go_enter Try.func14, Try.ntmps14
  go_wp2_with (first | (go_at_call 29; refine HQ.out.mono ?_; rintro e w' ⟨rfl, rfl⟩) | (refine wpList_store_mid rfl 27 (.tmp 2) (.tmp 8) rfl w.heap.size 0 L8.zero.cells.toArray rfl rfl ?_ Try.sizeRegs (oneL8 _) ?_; exact HT.out; change wpList _ _ _ _ _ ((w.alloc (.cells L8.zero.cells.toArray 27)).setCells w.heap.size 0 L8.zero.cells); rw [← HE.out]))
  exact bodyPost_ret (results_ctt rfl rfl (Try.loadRegs L8.zero HL.out) rfl rfl) rfl ⟨rfl, HB.out⟩

set_option maxRecDepth 100000 in
set_option maxHeartbeats 4000000 in
theorem point_some (h : FlAt w a f) (m : Mo) (hq : f.pt = some m) : Calls Try.prog 14 #[.pointer (some ⟨a, 0, none⟩)] w fun e w' => e = .returned (.tuple #[.agg m.r.cells.toArray, .int .i64 m.pc, .bool true]) ∧ Below w.heap.size w w' := by
  have hb0 : Below w.heap.size w (w.alloc (.cells L8.zero.cells.toArray 27)) := (Below.refl _ w).alloc (Nat.le_refl _) _
  have h1 := h.below hb0
  have he : f.errP = 0 := by simp [Fl.errP, hq]
  have HQ := Lib.hid (he ▸ pointed_any h1)
  obtain ⟨pv, h⟩ := h
  have hp := h.point
  rw [hq] at hp
  obtain ⟨b, rfl, hb⟩ := hp
  have c9 := h.c 9 rfl
  have m0 := hb.cell (i := 0) rfl
  have m1 := hb.cell (i := 1) rfl
  have m2 := hb.cell (i := 2) rfl
  have m3 := hb.cell (i := 3) rfl
  have m4 := hb.cell (i := 4) rfl
  have m5 := hb.cell (i := 5) rfl
  have m6 := hb.cell (i := 6) rfl
  have m7 := hb.cell (i := 7) rfl
  have m8 := hb.cell (i := 8) rfl
  have hga : a < w.heap.size := h.head.lt
  have hgb : b < w.heap.size := hb.lt
  clear h h1 hb hq he hb0
  obtain ⟨⟨x0, x1, x2, x3, x4, x5, x6, x7⟩, x8⟩ := m
  simp only [L8.cells, L8.zero] at *
  go_enter Try.func14, Try.ntmps14
  go_wp2_with (go_at_call 29; refine HQ.out.mono ?_; rintro e w' ⟨rfl, rfl⟩)
  have HL := Lib.hid (Try.loadRegs (w := (w.alloc (.cells #[.int .u64 x0, .int .u64 x1, .int .u64 x2, .int .u64 x3, .int .u64 x4, .int .u64 x5, .int .u64 x6, .int .u64 x7] 27)).drew) (b := w.heap.size) (o := 0) ⟨x0, x1, x2, x3, x4, x5, x6, x7⟩
    (fun i v hi => by rw [Nat.zero_add]; exact (Holds.new w 27 (L8.cells ⟨x0, x1, x2, x3, x4, x5, x6, x7⟩)).drew.cell hi))
  go_region
  all_goals
    go_wp2
    exact bodyPost_ret (results_ctt rfl rfl HL.out rfl rfl) rfl ⟨rfl, by repeat (first | exact Below.refl _ _ | refine below_drew1 ?_ | refine Below.setCell ?_ (by simp) _ | refine Below.alloc ?_ (by simp) _)⟩

theorem point_any (h : FlAt w a f) : Calls Try.prog 14 #[.pointer (some ⟨a, 0, none⟩)] w fun e w' => e = .returned (.tuple #[.agg f.point.r.cells.toArray, .int .i64 f.point.pc, .bool f.pt.isSome]) ∧ Below w.heap.size w w' := by
  unfold Fl.point
  cases hq : f.pt with
  | none =>
    have he : f.errP = 60 := by simp [Fl.errP, hq]
    exact point_err (er := 60) (fun V hV => he ▸ pointed_any (h.below hV)) rfl
  | some m => exact point_some h m hq

set_option maxRecDepth 100000 in
set_option maxHeartbeats 1000000 in
theorem same_any (x y : Mo) (w : World) : Calls Try.prog 32 #[.agg x.cells.toArray, .agg y.cells.toArray] w fun e w' => e = .returned (.bool (decide (x = y))) ∧ Below w.heap.size w w' := by
  obtain ⟨⟨x0, x1, x2, x3, x4, x5, x6, x7⟩, x8⟩ := x
  obtain ⟨⟨y0, y1, y2, y3, y4, y5, y6, y7⟩, y8⟩ := y
  have hB : Below w.heap.size w ((w.alloc (.cells (Mo.cells ⟨⟨x0, x1, x2, x3, x4, x5, x6, x7⟩, x8⟩).toArray 46)).alloc (.cells (Mo.cells ⟨⟨y0, y1, y2, y3, y4, y5, y6, y7⟩, y8⟩).toArray 46)) :=
    ((Below.refl _ w).alloc (Nat.le_refl _) _).alloc (by simp) _
  have HB := Lib.hid hB; clear hB
  simp only [Mo.cells] at *
  by_cases h8 : x8 = y8
  · subst h8
    have hd : decide ((⟨⟨x0, x1, x2, x3, x4, x5, x6, x7⟩, x8⟩ : Mo) = ⟨⟨y0, y1, y2, y3, y4, y5, y6, y7⟩, x8⟩) = decide ((⟨x0, x1, x2, x3, x4, x5, x6, x7⟩ : L8) = ⟨y0, y1, y2, y3, y4, y5, y6, y7⟩) := by simp
    rw [hd]; clear hd
    go_enter Try.func32, Try.ntmps32
    go_wp2
    go_ret
    exact ⟨congrArg (fun b => Ending.returned (Value.bool b)) (by simp), HB.out⟩
  · have hd : decide ((⟨⟨x0, x1, x2, x3, x4, x5, x6, x7⟩, x8⟩ : Mo) = ⟨⟨y0, y1, y2, y3, y4, y5, y6, y7⟩, y8⟩) = false := by simp [h8]
    have h9 : (x8 == y8) = false := by simpa using h8
    rw [hd]; clear hd h8
    go_enter Try.func32, Try.ntmps32
    go_wp2
    go_ret
    exact ⟨rfl, HB.out⟩

/-- A fresh checkpoint. -/
theorem mbox (w : World) (e : Mo) : ∃ W, W = (w.alloc (.cells Mo.zero.cells.toArray 46)).setCells w.heap.size 0 e.cells ∧ (w.alloc (.cells Mo.zero.cells.toArray 46)).there w.heap.size 0 9 ∧ Holds W w.heap.size 46 e.cells ∧ Below w.heap.size w W :=
  ⟨_, rfl, there_new w Mo.zero.cells 46 9 rfl, (Holds.new w 46 Mo.zero.cells).sets e.cells 0, below_cells (Nat.le_refl _) _ _ _ ((Below.refl _ w).alloc (Nat.le_refl _) _)⟩

/-- Behind a Save that makes a checkpoint. -/
theorem saved {pv : Value} (h : FlPt w a pv f) {V W : World} (hV : Below w.heap.size w V) (hW : Holds W V.heap.size 46 f.m.cells) (hb : Below V.heap.size V W) :
    FlAt (W.setCell ⟨a, 9, none⟩ (.pointer (some ⟨V.heap.size, 0, none⟩))) a f.save ∧ Tch (· = a) w (W.setCell ⟨a, 9, none⟩ (.pointer (some ⟨V.heap.size, 0, none⟩))) ∧ W.cell? ⟨a, 9, none⟩ = some pv ∧ W.frozen? ⟨a, 9, none⟩ = false := by
  have hb' : Below w.heap.size w W := hV.trans (hb.mono hV.size)
  have h2 := h.head.below hb'
  refine ⟨⟨.pointer (some ⟨V.heap.size, 0, none⟩), h2.set 9 (.pointer (some ⟨V.heap.size, 0, none⟩)), V.heap.size, rfl, hW.other (by have := h.head.lt; have := hV.size; simp only; omega) _⟩, Tch.setCell (C := (· = a)) (p := ⟨a, 9, none⟩) (Tch.of_idle hb') (.inl rfl) _, h2.cell rfl, h2.free 9⟩

set_option maxRecDepth 100000 in
set_option maxHeartbeats 2000000 in
theorem save_any (h : FlAt w a f) : Calls Try.prog 18 #[.pointer (some ⟨a, 0, none⟩)] w fun e w' => e = .returned (.int .i64 0) ∧ FlAt w' a f.save ∧ Tch (· = a) w w' := by
  have HN := Lib.hid (none_any h)
  have HF := Lib.hid h
  obtain ⟨pv, h⟩ := h
  have c9 := h.c 9 rfl
  have hp := h.point
  have HR : Hid (∀ V, Below w.heap.size w V → V.rangeAt a 0 f.m.cells) := Lib.hid (fun V hV i v hi => by
    rw [Nat.zero_add]
    refine (h.head.below hV).cell ?_
    match i, (List.getElem?_eq_some_iff.1 hi).1 with
    | 0, _ => exact hi | 1, _ => exact hi | 2, _ => exact hi | 3, _ => exact hi | 4, _ => exact hi | 5, _ => exact hi | 6, _ => exact hi | 7, _ => exact hi | 8, _ => exact hi)
  cases hq : f.pt with
  | none =>
    rw [hq] at hp
    obtain rfl : pv = .pointer none := hp
    have HS := Lib.hid (fun (V W : World) => saved (V := V) (W := W) h)
    clear h hq
    generalize f.save = g at *
    generalize f.m = m at *
    go_enter Try.func18, Try.ntmps18
    go_wp2_with (go_at_call 31; refine HN.out.mono ?_; rintro e w' ⟨rfl, rfl⟩)
    go_quiet (fail)
    have HV := Lib.hid (below_drewN (Below.refl w.heap.size w) nq)
    generalize w.drewN nq = V at *
    obtain ⟨W, eW, hT, hW, hb⟩ := mbox V m
    obtain ⟨k1, k2, k3, k4⟩ := HS.out V W HV.out hW hb
    have HE := Lib.hid eW; clear eW
    have HT := Lib.hid hT; clear hT
    have HK := Lib.hid (And.intro k1 k2); clear k1 k2 hW hb c9
    go_wp2_with (first | (refine wpList_load_mid rfl 46 (.tmp 26) rfl a 0 rfl m.cells _ ?_ Try.underlying46 rfl Try.sizeMo ?_; exact HR.out _ HV.out) | (refine wpList_store_mid rfl 46 (.tmp 3) (.tmp 27) rfl V.heap.size 0 m.cells.toArray rfl rfl ?_ Try.sizeMo (oneMo _) ?_; exact HT.out; change wpList _ _ _ _ _ ((V.alloc (.cells Mo.zero.cells.toArray 46)).setCells V.heap.size 0 m.cells); rw [← HE.out]))
    go_ret
    exact ⟨rfl, HK.out⟩
  | some m =>
    rw [hq] at hp
    obtain ⟨b, rfl, hb⟩ := hp
    have HS := Lib.hid (fun (V W : World) => saved (V := V) (W := W) h)
    have HY : Hid (f.m = m → f.save = f) := Lib.hid (fun e => by obtain ⟨fm, fp⟩ := f; simp only at hq e; subst hq; subst e; rfl)
    have HC : Hid (∀ V, Below w.heap.size w V → V.cell? ⟨a, 9, none⟩ = some (.pointer (some ⟨b, 0, none⟩))) := Lib.hid (fun V hV => (h.head.below hV).cell rfl)
    have a0 := h.c 0 rfl
    have a1 := h.c 1 rfl
    have a2 := h.c 2 rfl
    have a3 := h.c 3 rfl
    have a4 := h.c 4 rfl
    have a5 := h.c 5 rfl
    have a6 := h.c 6 rfl
    have a7 := h.c 7 rfl
    have a8 := h.c 8 rfl
    have m0 := hb.cell (i := 0) rfl
    have m1 := hb.cell (i := 1) rfl
    have m2 := hb.cell (i := 2) rfl
    have m3 := hb.cell (i := 3) rfl
    have m4 := hb.cell (i := 4) rfl
    have m5 := hb.cell (i := 5) rfl
    have m6 := hb.cell (i := 6) rfl
    have m7 := hb.cell (i := 7) rfl
    have m8 := hb.cell (i := 8) rfl
    clear h hb hq
    generalize f.save = g at *
    generalize f.m = n at *
    have HZ := Lib.hid (fun V => same_any n m V)
    simp only [Mo.cells] at HZ
    go_enter Try.func18, Try.ntmps18
    go_wp2_with (go_at_call 31; refine HN.out.mono ?_; rintro e w' ⟨rfl, rfl⟩)
    go_still_tail 16, (by kernel_rfl)
    change wpList _ _ _ _ _ w.drew
    have HV := Lib.hid (below_drew1 (Below.refl w.heap.size w))
    generalize w.drew = V at *
    clear a0 a1 a2 a3 a4 a5 a6 a7 a8 m0 m1 m2 m3 m4 m5 m6 m7 m8 c9
    by_cases hnm : n = m
    · have HG := Lib.hid (HY.out hnm)
      rw [decide_eq_true hnm] at HZ
      clear HY hnm
      go_wp2_with (go_at_call 32; refine (HZ.out V).mono ?_; rintro e V1 ⟨rfl, hb1⟩)
      go_ret
      have hB := HV.out.trans (hb1.mono HV.out.size)
      exact ⟨rfl, by rw [HG.out]; exact HF.out.below hB, Tch.of_idle hB⟩
    · rw [decide_eq_false hnm] at HZ
      clear HY hnm
      go_wp2_with (first | (go_at_call 32; refine (HZ.out V).mono ?_; rintro e V1 ⟨rfl, hb1⟩; have HB := Lib.hid (HV.out.trans (hb1.mono HV.out.size)); clear hb1; obtain ⟨W, eW, hT, hW, hb⟩ := mbox V1 n; obtain ⟨k1, k2, k3, k4⟩ := HS.out V1 W HB.out hW hb; have HE := Lib.hid eW; clear eW; have HT := Lib.hid hT; clear hT; have HK := Lib.hid (And.intro k1 k2); clear k1 k2 hW hb) | (refine wpList_load_mid rfl 46 (.tmp 26) rfl a 0 rfl n.cells _ ?_ Try.underlying46 rfl Try.sizeMo ?_; exact HR.out _ HB.out) | (refine wpList_store_mid rfl 46 (.tmp 3) (.tmp 27) rfl V1.heap.size 0 n.cells.toArray rfl rfl ?_ Try.sizeMo (oneMo _) ?_; exact HT.out; change wpList _ _ _ _ _ ((V1.alloc (.cells Mo.zero.cells.toArray 46)).setCells V1.heap.size 0 n.cells); rw [← HE.out]))
      go_ret
      exact ⟨rfl, HK.out⟩
end

end Go.Proofs.Ytcammonbhehakaa
