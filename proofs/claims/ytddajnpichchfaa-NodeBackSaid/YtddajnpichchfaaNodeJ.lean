/- A node: recalls. Conditions: those stated in each theorem. -/
import Derived.Test.YtddajnpichchfaaNodeI
namespace Go.Proofs.Ytddajnpichchfaa
open Go.RowKit Go.BigFrame Go.Sort

theorem lbox (w : World) (d : L8) : ∃ W, W = (w.alloc (.cells L8.zero.cells.toArray 36)).setCells w.heap.size 0 d.cells ∧ Below w.heap.size w W ∧ (w.alloc (.cells L8.zero.cells.toArray 36)).there w.heap.size 0 8 ∧ W.rangeAt w.heap.size 0 d.cells ∧ w.heap.size < W.heap.size := by
  have hn := there_new w L8.zero.cells 36 8 rfl
  have hT : Tch (· = w.heap.size) (w.alloc (.cells L8.zero.cells.toArray 36)) ((w.alloc (.cells L8.zero.cells.toArray 36)).setCells w.heap.size 0 d.cells) := Tch.setCells (C := (· = w.heap.size)) (.inl rfl) _ _ (Tch.refl _ _)
  have hs := hT.size
  rw [World.size_alloc] at hs
  exact ⟨_, rfl, below_setCells (Nat.le_refl _) _ _ ((Below.refl _ w).alloc (Nat.le_refl _) _), hn, range_set d.cells (by rw [L8.len]; exact hn), by omega⟩

section
variable {w w' : World} {lo a p S : Nat} {bs : List Nat} {ways : Nat} {bv : Value} {n : Nd}

set_option maxRecDepth 100000 in
set_option maxHeartbeats 2000000 in
theorem hearRS_any (h : NodeAt w lo a p S bs ways bv n) (line : Int) :
    Calls Try.prog 87 #[.pointer (some ⟨a, 0, none⟩), .int .i64 line] w fun e w' => ∃ v, e = .returned v ∧ NOut w lo a p S bs ways bv (n.hearRS line).1 (n.hearRS line).2 v w' := by
  have c2 := h.c 2 rfl
  obtain ⟨e0, had, hfx⟩ : ∃ e0 had, findX n.ss line = (e0, had) := ⟨_, _, rfl⟩
  have HF := Lib.hid (find_x h.cache line)
  rw [hfx] at HF
  unfold Nd.hearRS
  rw [hfx]
  have H := Lib.hid h; clear h hfx
  cases had
  · rw [if_neg (by simp)]
    go_enter Try.func87, Try.ntmps87
    go_wp2_with fail
    refine HF.out.mono ?_
    rintro e w1 ⟨rfl, hb⟩
    obtain ⟨W, eW, bW, hn, hr, -⟩ := ebox w1 e0
    have hbW := hb.trans (bW.mono hb.size)
    have h1 := H.out.below hbW (Nat.le_refl _)
    have HW := Lib.hid (And.intro h1 (below_own (a := a) (p := p) (bs := bs) (bv := bv) hbW))
    have EW := Lib.hid eW
    have Hn := Lib.hid hn
    have Hr := Lib.hid hr
    have hrW : W.cell? ⟨w1.heap.size, 3, none⟩ = some (.bool e0.write) := hr 3 _ rfl
    clear hb eW bW hn hr hbW h1
    go_wp2_with (refine wpList_store_mid rfl 42 (.tmp 5) (.tmp 16) rfl w1.heap.size 0 e0.cells.toArray rfl rfl ?_ Try.size42 (oneEnt _) ?_; exact Hn.out; change wpList _ _ _ _ _ ((w1.alloc (.cells Ent.zero.cells.toArray 42)).setCells w1.heap.size 0 e0.cells); rw [← EW.out])
    have HM := Lib.hid (message_any HW.out.1 6 line)
    have H8 := Lib.hid (And.intro (HW.out.1) (HW.out.2))
    refine HM.out.mono ?_
    rintro e w6 ⟨rfl, hb6⟩
    have h6 := H8.out.1.below hb6 (Nat.le_refl _)
    have hT6 := H8.out.2.trans (below_own (a := a) (p := p) (bs := bs) (bv := bv) hb6)
    have H6 := Lib.hid (And.intro h6 hT6)
    clear h6 hT6 hb6
    simp only [Nd.msg, MsgV.cells, L8.zero]
    go_wp2
    go_ret
    have ho := owns_new w6 52 11 (MsgV.cells ⟨6, n.core, line, L8.zero⟩) rfl
    have hB : Below w6.heap.size w6 (w6.alloc (.cells (MsgV.cells ⟨6, n.core, line, L8.zero⟩).toArray 52)) := (Below.refl _ w6).alloc (Nat.le_refl _) _
    have hsz := H6.out.2.size
    exact ⟨_, rfl, bv, outAt_one (owns_mono (show World.ownsRow _ _ _ _ _ _ _ from ho) (fun g' hg => by cases hg; exact hsz)) (fun g' hg hb => by have h1 := (owns_lt H6.out.1.own hb).2; cases hg; exact absurd h1 (Nat.lt_irrefl _)), H6.out.1.below hB (Nat.le_refl _), H6.out.2.trans (below_own hB), fun _ e => .inl e⟩
  · rw [if_pos rfl]
    by_cases hm : e0.write = true
    · simp only [if_pos hm]
      go_enter Try.func87, Try.ntmps87
      go_wp2_with fail
      refine HF.out.mono ?_
      rintro e w1 ⟨rfl, hb⟩
      obtain ⟨W, eW, bW, hn, hr, -⟩ := ebox w1 e0
      have hbW := hb.trans (bW.mono hb.size)
      have h1 := H.out.below hbW (Nat.le_refl _)
      have HW := Lib.hid (And.intro h1 (below_own (a := a) (p := p) (bs := bs) (bv := bv) hbW))
      have EW := Lib.hid eW
      have Hn := Lib.hid hn
      have Hr := Lib.hid hr
      have hrW : W.cell? ⟨w1.heap.size, 3, none⟩ = some (.bool e0.write) := hr 3 _ rfl
      clear hb eW bW hn hr hbW h1
      rw [hm] at hrW
      clear hm
      have h2 := HW.out.1
      have hT2 := HW.out.2
      have HL := Lib.hid (lose_ok h2 line)
      have T2 := Lib.hid hT2
      clear h2 hT2 c2
      go_wp2_with (refine wpList_store_mid rfl 42 (.tmp 5) (.tmp 16) rfl w1.heap.size 0 e0.cells.toArray rfl rfl ?_ Try.size42 (oneEnt _) ?_; exact Hn.out; change wpList _ _ _ _ _ ((w1.alloc (.cells Ent.zero.cells.toArray 42)).setCells w1.heap.size 0 e0.cells); rw [← EW.out])
      refine HL.out.mono ?_
      rintro e w3 ⟨rfl, h3, hT3'⟩
      have hT3 := T2.out.trans hT3'
      clear hT3'
      have c2 := h3.c 2 rfl
      have HD := Lib.hid (demote_x h3.cache line)
      have H3 := Lib.hid (And.intro h3 hT3)
      clear h3 hT3
      go_wp2_with fail
      refine HD.out.mono ?_
      rintro e w4 ⟨rfl, hc, hT⟩
      obtain ⟨WW, eW, bW, hn, hr, -⟩ := lbox w4 (demoteX (n.lose line).ss line).1
      have h4 := (H3.out.1.turnu hc hT).below bW (Nat.le_refl _)
      have hT4 := (H3.out.2.trans (tch_own hT)).trans (below_own (a := a) (p := p) (bs := bs) (bv := bv) bW)
      have EWW := Lib.hid eW
      have HnW := Lib.hid hn
      have HrW := Lib.hid hr
      clear hc hT c2 eW bW hn hr HD
      have HWW := Lib.hid (show Calls Try.prog 92 #[.pointer (some ⟨a, 0, none⟩), .int .i64 5, .int .i64 line, .agg (L8.cells (demoteX (n.lose line).ss line).1).toArray] WW (fun e w' => e = .returned (.agg (MsgV.cells ⟨5, n.core, line, (demoteX (n.lose line).ss line).1⟩).toArray) ∧ Below WW.heap.size WW w') from by simpa only [(n.lose_core line).1] using withWords_any h4 5 line (demoteX (n.lose line).ss line).1)
      have H8 := Lib.hid (And.intro (h4) (hT4))
      clear h4 hT4
      go_wp2_with (first | (refine wpList_store_mid rfl 36 (.tmp 7) (.tmp 36) rfl w4.heap.size 0 (L8.cells (demoteX (n.lose line).ss line).1).toArray rfl rfl ?_ Try.size36 (oneL8 _) ?_; exact HnW.out; change wpList _ _ _ _ _ ((w4.alloc (.cells L8.zero.cells.toArray 36)).setCells w4.heap.size 0 (L8.cells (demoteX (n.lose line).ss line).1)); rw [← EWW.out]) | (refine wpList_load_mid rfl 36 (.tmp 7) rfl w4.heap.size 0 rfl (L8.cells (demoteX (n.lose line).ss line).1) _ ?_ Try.underlying36 rfl Try.size36 ?_; exact HrW.out))
      refine HWW.out.mono ?_
      rintro e w6 ⟨rfl, hb6⟩
      have h6 := H8.out.1.below hb6 (Nat.le_refl _)
      have hT6 := H8.out.2.trans (below_own (a := a) (p := p) (bs := bs) (bv := bv) hb6)
      have H6 := Lib.hid (And.intro h6 hT6)
      clear h6 hT6 hb6
      simp only [MsgV.cells]
      go_wp2
      go_ret
      have ho := owns_new w6 52 11 (MsgV.cells ⟨5, n.core, line, (demoteX (n.lose line).ss line).1⟩) rfl
      have hB : Below w6.heap.size w6 (w6.alloc (.cells (MsgV.cells ⟨5, n.core, line, (demoteX (n.lose line).ss line).1⟩).toArray 52)) := (Below.refl _ w6).alloc (Nat.le_refl _) _
      have hsz := H6.out.2.size
      exact ⟨_, rfl, bv, outAt_one (owns_mono (show World.ownsRow _ _ _ _ _ _ _ from ho) (fun g' hg => by cases hg; exact hsz)) (fun g' hg hb => by have h1 := (owns_lt H6.out.1.own hb).2; cases hg; exact absurd h1 (Nat.lt_irrefl _)), H6.out.1.below hB (Nat.le_refl _), H6.out.2.trans (below_own hB), fun _ e => .inl e⟩
    · have hm' : e0.write = false := by simpa using hm
      simp only [if_neg hm]
      go_enter Try.func87, Try.ntmps87
      go_wp2_with fail
      refine HF.out.mono ?_
      rintro e w1 ⟨rfl, hb⟩
      obtain ⟨W, eW, bW, hn, hr, -⟩ := ebox w1 e0
      have hbW := hb.trans (bW.mono hb.size)
      have h1 := H.out.below hbW (Nat.le_refl _)
      have HW := Lib.hid (And.intro h1 (below_own (a := a) (p := p) (bs := bs) (bv := bv) hbW))
      have EW := Lib.hid eW
      have Hn := Lib.hid hn
      have Hr := Lib.hid hr
      have hrW : W.cell? ⟨w1.heap.size, 3, none⟩ = some (.bool e0.write) := hr 3 _ rfl
      clear hb eW bW hn hr hbW h1
      rw [hm'] at hrW
      clear hm hm' c2
      have h3 := HW.out.1
      have hT3 := HW.out.2
      have c2 := h3.c 2 rfl
      have HD := Lib.hid (demote_x h3.cache line)
      have H3 := Lib.hid (And.intro h3 hT3)
      clear h3 hT3
      go_wp2_with (refine wpList_store_mid rfl 42 (.tmp 5) (.tmp 16) rfl w1.heap.size 0 e0.cells.toArray rfl rfl ?_ Try.size42 (oneEnt _) ?_; exact Hn.out; change wpList _ _ _ _ _ ((w1.alloc (.cells Ent.zero.cells.toArray 42)).setCells w1.heap.size 0 e0.cells); rw [← EW.out])
      refine HD.out.mono ?_
      rintro e w4 ⟨rfl, hc, hT⟩
      obtain ⟨WW, eW, bW, hn, hr, -⟩ := lbox w4 (demoteX n.ss line).1
      have h4 := (H3.out.1.turnu hc hT).below bW (Nat.le_refl _)
      have hT4 := (H3.out.2.trans (tch_own hT)).trans (below_own (a := a) (p := p) (bs := bs) (bv := bv) bW)
      have EWW := Lib.hid eW
      have HnW := Lib.hid hn
      have HrW := Lib.hid hr
      clear hc hT c2 eW bW hn hr HD
      have HWW := Lib.hid (show Calls Try.prog 92 #[.pointer (some ⟨a, 0, none⟩), .int .i64 5, .int .i64 line, .agg (L8.cells (demoteX n.ss line).1).toArray] WW (fun e w' => e = .returned (.agg (MsgV.cells ⟨5, n.core, line, (demoteX n.ss line).1⟩).toArray) ∧ Below WW.heap.size WW w') from by exact withWords_any h4 5 line (demoteX n.ss line).1)
      have H8 := Lib.hid (And.intro (h4) (hT4))
      clear h4 hT4
      go_wp2_with (first | (refine wpList_store_mid rfl 36 (.tmp 7) (.tmp 36) rfl w4.heap.size 0 (L8.cells (demoteX n.ss line).1).toArray rfl rfl ?_ Try.size36 (oneL8 _) ?_; exact HnW.out; change wpList _ _ _ _ _ ((w4.alloc (.cells L8.zero.cells.toArray 36)).setCells w4.heap.size 0 (L8.cells (demoteX n.ss line).1)); rw [← EWW.out]) | (refine wpList_load_mid rfl 36 (.tmp 7) rfl w4.heap.size 0 rfl (L8.cells (demoteX n.ss line).1) _ ?_ Try.underlying36 rfl Try.size36 ?_; exact HrW.out))
      refine HWW.out.mono ?_
      rintro e w6 ⟨rfl, hb6⟩
      have h6 := H8.out.1.below hb6 (Nat.le_refl _)
      have hT6 := H8.out.2.trans (below_own (a := a) (p := p) (bs := bs) (bv := bv) hb6)
      have H6 := Lib.hid (And.intro h6 hT6)
      clear h6 hT6 hb6
      simp only [MsgV.cells]
      go_wp2
      go_ret
      have ho := owns_new w6 52 11 (MsgV.cells ⟨5, n.core, line, (demoteX n.ss line).1⟩) rfl
      have hB : Below w6.heap.size w6 (w6.alloc (.cells (MsgV.cells ⟨5, n.core, line, (demoteX n.ss line).1⟩).toArray 52)) := (Below.refl _ w6).alloc (Nat.le_refl _) _
      have hsz := H6.out.2.size
      exact ⟨_, rfl, bv, outAt_one (owns_mono (show World.ownsRow _ _ _ _ _ _ _ from ho) (fun g' hg => by cases hg; exact hsz)) (fun g' hg hb => by have h1 := (owns_lt H6.out.1.own hb).2; cases hg; exact absurd h1 (Nat.lt_irrefl _)), H6.out.1.below hB (Nat.le_refl _), H6.out.2.trans (below_own hB), fun _ e => .inl e⟩

theorem ent_words {W : World} {b : Nat} {e : Ent} (h : W.rangeAt b 0 e.cells) : W.rangeAt b 4 e.data.cells := fun i v hv => by
  have hi : i < 8 := (List.getElem?_eq_some_iff.1 hv).1
  have := h (4 + i) v (by
    rw [← hv]
    match i, hi with
    | 0, _ | 1, _ | 2, _ | 3, _ | 4, _ | 5, _ | 6, _ | 7, _ => rfl)
  rwa [Nat.zero_add] at this

set_option maxRecDepth 100000 in
set_option maxHeartbeats 2000000 in
theorem hearRM_any (h : NodeAt w lo a p S bs ways bv n) (line : Int) :
    Calls Try.prog 88 #[.pointer (some ⟨a, 0, none⟩), .int .i64 line] w fun e w' => ∃ v, e = .returned v ∧ NOut w lo a p S bs ways bv (n.hearRM line).1 (n.hearRM line).2 v w' := by
  have c2 := h.c 2 rfl
  obtain ⟨e0, had, hfx⟩ : ∃ e0 had, findX n.ss line = (e0, had) := ⟨_, _, rfl⟩
  have HF := Lib.hid (find_x h.cache line)
  rw [hfx] at HF
  unfold Nd.hearRM
  rw [hfx]
  have H := Lib.hid h; clear h hfx
  cases had
  · rw [if_neg (by simp)]
    go_enter Try.func88, Try.ntmps88
    go_wp2_with fail
    refine HF.out.mono ?_
    rintro e w1 ⟨rfl, hb⟩
    obtain ⟨W, eW, bW, hn, hr, -⟩ := ebox w1 e0
    have hbW := hb.trans (bW.mono hb.size)
    have h1 := H.out.below hbW (Nat.le_refl _)
    have HW := Lib.hid (And.intro h1 (below_own (a := a) (p := p) (bs := bs) (bv := bv) hbW))
    have EW := Lib.hid eW
    have Hn := Lib.hid hn
    have Hr := Lib.hid hr
    have hrW : W.cell? ⟨w1.heap.size, 3, none⟩ = some (.bool e0.write) := hr 3 _ rfl
    clear hb eW bW hn hr hbW h1
    go_wp2_with (refine wpList_store_mid rfl 42 (.tmp 5) (.tmp 16) rfl w1.heap.size 0 e0.cells.toArray rfl rfl ?_ Try.size42 (oneEnt _) ?_; exact Hn.out; change wpList _ _ _ _ _ ((w1.alloc (.cells Ent.zero.cells.toArray 42)).setCells w1.heap.size 0 e0.cells); rw [← EW.out])
    have HM := Lib.hid (message_any HW.out.1 6 line)
    have H8 := Lib.hid (And.intro (HW.out.1) (HW.out.2))
    refine HM.out.mono ?_
    rintro e w6 ⟨rfl, hb6⟩
    have h6 := H8.out.1.below hb6 (Nat.le_refl _)
    have hT6 := H8.out.2.trans (below_own (a := a) (p := p) (bs := bs) (bv := bv) hb6)
    have H6 := Lib.hid (And.intro h6 hT6)
    clear h6 hT6 hb6
    simp only [Nd.msg, MsgV.cells, L8.zero]
    go_wp2
    go_ret
    have ho := owns_new w6 52 11 (MsgV.cells ⟨6, n.core, line, L8.zero⟩) rfl
    have hB : Below w6.heap.size w6 (w6.alloc (.cells (MsgV.cells ⟨6, n.core, line, L8.zero⟩).toArray 52)) := (Below.refl _ w6).alloc (Nat.le_refl _) _
    have hsz := H6.out.2.size
    exact ⟨_, rfl, bv, outAt_one (owns_mono (show World.ownsRow _ _ _ _ _ _ _ from ho) (fun g' hg => by cases hg; exact hsz)) (fun g' hg hb => by have h1 := (owns_lt H6.out.1.own hb).2; cases hg; exact absurd h1 (Nat.lt_irrefl _)), H6.out.1.below hB (Nat.le_refl _), H6.out.2.trans (below_own hB), fun _ e => .inl e⟩
  · rw [if_pos rfl]
    by_cases hm : e0.mk' = true
    · simp only [if_pos hm]
      have HMk := Lib.hid (fun W => nmarked_any e0 W)
      rw [hm] at HMk
      clear hm
      go_enter Try.func88, Try.ntmps88
      go_wp2_with fail
      refine HF.out.mono ?_
      rintro e w1 ⟨rfl, hb⟩
      obtain ⟨W, eW, bW, hn, hr, -⟩ := ebox w1 e0
      have hbW := hb.trans (bW.mono hb.size)
      have h1 := H.out.below hbW (Nat.le_refl _)
      have HW := Lib.hid (And.intro h1 (below_own (a := a) (p := p) (bs := bs) (bv := bv) hbW))
      have EW := Lib.hid eW
      have Hn := Lib.hid hn
      have Hr := Lib.hid hr
      have hrW : W.cell? ⟨w1.heap.size, 3, none⟩ = some (.bool e0.write) := hr 3 _ rfl
      clear hb eW bW hn hr hbW h1
      go_wp2_with (first | (refine wpList_store_mid rfl 42 (.tmp 5) (.tmp 16) rfl w1.heap.size 0 e0.cells.toArray rfl rfl ?_ Try.size42 (oneEnt _) ?_; exact Hn.out; change wpList _ _ _ _ _ ((w1.alloc (.cells Ent.zero.cells.toArray 42)).setCells w1.heap.size 0 e0.cells); rw [← EW.out]) | (refine wpList_load_mid rfl 42 (.tmp 5) rfl w1.heap.size 0 rfl e0.cells _ ?_ Try.underlying42 rfl Try.size42 ?_; exact Hr.out))
      refine (HMk.out W).mono ?_
      rintro e w2 ⟨rfl, hb2⟩
      have h2 := HW.out.1.below hb2 (Nat.le_refl _)
      have hT2 := HW.out.2.trans (below_own (a := a) (p := p) (bs := bs) (bv := bv) hb2)
      clear hb2
      have HL := Lib.hid (lose_ok h2 line)
      have T2 := Lib.hid hT2
      clear h2 hT2 c2
      go_wp2_with fail
      refine HL.out.mono ?_
      rintro e w3 ⟨rfl, h3, hT3'⟩
      have hT3 := T2.out.trans hT3'
      clear hT3'
      have c2 := h3.c 2 rfl
      have HD := Lib.hid (drop_x h3.cache line)
      have H3 := Lib.hid (And.intro h3 hT3)
      clear h3 hT3
      go_wp2_with fail
      refine HD.out.mono ?_
      rintro e w4 ⟨rfl, hc, hT⟩
      obtain ⟨WW, eW, bW, hn, hr, -⟩ := ebox w4 (dropX (n.lose line).ss line).1
      have h4 := (H3.out.1.turnu hc hT).below bW (Nat.le_refl _)
      have hT4 := (H3.out.2.trans (tch_own hT)).trans (below_own (a := a) (p := p) (bs := bs) (bv := bv) bW)
      have hr4 : WW.rangeAt w4.heap.size 4 (dropX (n.lose line).ss line).1.data.cells := ent_words hr
      have EWW := Lib.hid eW
      have HnW := Lib.hid hn
      have HrW := Lib.hid hr4
      clear hc hT c2 eW bW hn hr hr4 HD
      have HWW := Lib.hid (show Calls Try.prog 92 #[.pointer (some ⟨a, 0, none⟩), .int .i64 5, .int .i64 line, .agg (L8.cells (dropX (n.lose line).ss line).1.data).toArray] WW (fun e w' => e = .returned (.agg (MsgV.cells ⟨5, n.core, line, (dropX (n.lose line).ss line).1.data⟩).toArray) ∧ Below WW.heap.size WW w') from by simpa only [(n.lose_core line).1] using withWords_any h4 5 line (dropX (n.lose line).ss line).1.data)
      have H8 := Lib.hid (And.intro (h4) (hT4))
      clear h4 hT4
      go_wp2_with (first | (refine wpList_store_mid rfl 42 (.tmp 7) (.tmp 36) rfl w4.heap.size 0 (Ent.cells (dropX (n.lose line).ss line).1).toArray rfl rfl ?_ Try.size42 (oneEnt _) ?_; exact HnW.out; change wpList _ _ _ _ _ ((w4.alloc (.cells Ent.zero.cells.toArray 42)).setCells w4.heap.size 0 (Ent.cells (dropX (n.lose line).ss line).1)); rw [← EWW.out]) | (refine wpList_load_mid rfl 36 (.tmp 40) rfl w4.heap.size 4 rfl (L8.cells (dropX (n.lose line).ss line).1.data) _ ?_ Try.underlying36 rfl Try.size36 ?_; exact HrW.out))
      refine HWW.out.mono ?_
      rintro e w6 ⟨rfl, hb6⟩
      have h6 := H8.out.1.below hb6 (Nat.le_refl _)
      have hT6 := H8.out.2.trans (below_own (a := a) (p := p) (bs := bs) (bv := bv) hb6)
      have H6 := Lib.hid (And.intro h6 hT6)
      clear h6 hT6 hb6
      simp only [MsgV.cells]
      go_wp2
      go_ret
      have ho := owns_new w6 52 11 (MsgV.cells ⟨5, n.core, line, (dropX (n.lose line).ss line).1.data⟩) rfl
      have hB : Below w6.heap.size w6 (w6.alloc (.cells (MsgV.cells ⟨5, n.core, line, (dropX (n.lose line).ss line).1.data⟩).toArray 52)) := (Below.refl _ w6).alloc (Nat.le_refl _) _
      have hsz := H6.out.2.size
      exact ⟨_, rfl, bv, outAt_one (owns_mono (show World.ownsRow _ _ _ _ _ _ _ from ho) (fun g' hg => by cases hg; exact hsz)) (fun g' hg hb => by have h1 := (owns_lt H6.out.1.own hb).2; cases hg; exact absurd h1 (Nat.lt_irrefl _)), H6.out.1.below hB (Nat.le_refl _), H6.out.2.trans (below_own hB), fun _ e => .inl e⟩
    · have hm' : e0.mk' = false := by simpa using hm
      simp only [if_neg hm]
      have HMk := Lib.hid (fun W => nmarked_any e0 W)
      rw [hm'] at HMk
      clear hm hm'
      go_enter Try.func88, Try.ntmps88
      go_wp2_with fail
      refine HF.out.mono ?_
      rintro e w1 ⟨rfl, hb⟩
      obtain ⟨W, eW, bW, hn, hr, -⟩ := ebox w1 e0
      have hbW := hb.trans (bW.mono hb.size)
      have h1 := H.out.below hbW (Nat.le_refl _)
      have HW := Lib.hid (And.intro h1 (below_own (a := a) (p := p) (bs := bs) (bv := bv) hbW))
      have EW := Lib.hid eW
      have Hn := Lib.hid hn
      have Hr := Lib.hid hr
      have hrW : W.cell? ⟨w1.heap.size, 3, none⟩ = some (.bool e0.write) := hr 3 _ rfl
      clear hb eW bW hn hr hbW h1
      go_wp2_with (first | (refine wpList_store_mid rfl 42 (.tmp 5) (.tmp 16) rfl w1.heap.size 0 e0.cells.toArray rfl rfl ?_ Try.size42 (oneEnt _) ?_; exact Hn.out; change wpList _ _ _ _ _ ((w1.alloc (.cells Ent.zero.cells.toArray 42)).setCells w1.heap.size 0 e0.cells); rw [← EW.out]) | (refine wpList_load_mid rfl 42 (.tmp 5) rfl w1.heap.size 0 rfl e0.cells _ ?_ Try.underlying42 rfl Try.size42 ?_; exact Hr.out))
      refine (HMk.out W).mono ?_
      rintro e w2 ⟨rfl, hb2⟩
      have h3 := HW.out.1.below hb2 (Nat.le_refl _)
      have hT3 := HW.out.2.trans (below_own (a := a) (p := p) (bs := bs) (bv := bv) hb2)
      clear hb2 c2
      have c2 := h3.c 2 rfl
      have HD := Lib.hid (drop_x h3.cache line)
      have H3 := Lib.hid (And.intro h3 hT3)
      clear h3 hT3
      go_wp2_with fail
      refine HD.out.mono ?_
      rintro e w4 ⟨rfl, hc, hT⟩
      obtain ⟨WW, eW, bW, hn, hr, -⟩ := ebox w4 (dropX n.ss line).1
      have h4 := (H3.out.1.turnu hc hT).below bW (Nat.le_refl _)
      have hT4 := (H3.out.2.trans (tch_own hT)).trans (below_own (a := a) (p := p) (bs := bs) (bv := bv) bW)
      have hr4 : WW.rangeAt w4.heap.size 4 (dropX n.ss line).1.data.cells := ent_words hr
      have EWW := Lib.hid eW
      have HnW := Lib.hid hn
      have HrW := Lib.hid hr4
      clear hc hT c2 eW bW hn hr hr4 HD
      have HWW := Lib.hid (show Calls Try.prog 92 #[.pointer (some ⟨a, 0, none⟩), .int .i64 5, .int .i64 line, .agg (L8.cells (dropX n.ss line).1.data).toArray] WW (fun e w' => e = .returned (.agg (MsgV.cells ⟨5, n.core, line, (dropX n.ss line).1.data⟩).toArray) ∧ Below WW.heap.size WW w') from by exact withWords_any h4 5 line (dropX n.ss line).1.data)
      have H8 := Lib.hid (And.intro (h4) (hT4))
      clear h4 hT4
      go_wp2_with (first | (refine wpList_store_mid rfl 42 (.tmp 7) (.tmp 36) rfl w4.heap.size 0 (Ent.cells (dropX n.ss line).1).toArray rfl rfl ?_ Try.size42 (oneEnt _) ?_; exact HnW.out; change wpList _ _ _ _ _ ((w4.alloc (.cells Ent.zero.cells.toArray 42)).setCells w4.heap.size 0 (Ent.cells (dropX n.ss line).1)); rw [← EWW.out]) | (refine wpList_load_mid rfl 36 (.tmp 40) rfl w4.heap.size 4 rfl (L8.cells (dropX n.ss line).1.data) _ ?_ Try.underlying36 rfl Try.size36 ?_; exact HrW.out))
      refine HWW.out.mono ?_
      rintro e w6 ⟨rfl, hb6⟩
      have h6 := H8.out.1.below hb6 (Nat.le_refl _)
      have hT6 := H8.out.2.trans (below_own (a := a) (p := p) (bs := bs) (bv := bv) hb6)
      have H6 := Lib.hid (And.intro h6 hT6)
      clear h6 hT6 hb6
      simp only [MsgV.cells]
      go_wp2
      go_ret
      have ho := owns_new w6 52 11 (MsgV.cells ⟨5, n.core, line, (dropX n.ss line).1.data⟩) rfl
      have hB : Below w6.heap.size w6 (w6.alloc (.cells (MsgV.cells ⟨5, n.core, line, (dropX n.ss line).1.data⟩).toArray 52)) := (Below.refl _ w6).alloc (Nat.le_refl _) _
      have hsz := H6.out.2.size
      exact ⟨_, rfl, bv, outAt_one (owns_mono (show World.ownsRow _ _ _ _ _ _ _ from ho) (fun g' hg => by cases hg; exact hsz)) (fun g' hg hb => by have h1 := (owns_lt H6.out.1.own hb).2; cases hg; exact absurd h1 (Nat.lt_irrefl _)), H6.out.1.below hB (Nat.le_refl _), H6.out.2.trans (below_own hB), fun _ e => .inl e⟩

end

end Go.Proofs.Ytddajnpichchfaa
