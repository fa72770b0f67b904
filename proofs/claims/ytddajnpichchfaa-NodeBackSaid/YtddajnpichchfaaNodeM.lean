/- A node: Hear, Drop. Conditions: those stated in each theorem. -/
import Derived.Test.YtddajnpichchfaaNodeL
import Derived.Deep.QuietTactic
import Derived.BigQuiet
namespace Go.Proofs.Ytddajnpichchfaa
open Go.RowKit Go.BigFrame Go.Sort

section
variable {w w' : World} {lo a p S : Nat} {bs : List Nat} {ways : Nat} {bv : Value} {n : Nd}

/-- What Hear reads: the node's core, and the message's box. -/
def HearS (a B : Nat) (c kd co ln : Int) (d : L8) (V : World) : Prop := V.cell? ⟨a, 0, none⟩ = some (.int .i64 c) ∧ V.cell? ⟨B, 0, none⟩ = some (.int .i64 kd) ∧ V.cell? ⟨B, 1, none⟩ = some (.int .i64 co) ∧ V.cell? ⟨B, 2, none⟩ = some (.int .i64 ln) ∧ V.cell? ⟨B, 3, none⟩ = some (.int .u64 d.x0) ∧ V.cell? ⟨B, 4, none⟩ = some (.int .u64 d.x1) ∧ V.cell? ⟨B, 5, none⟩ = some (.int .u64 d.x2) ∧ V.cell? ⟨B, 6, none⟩ = some (.int .u64 d.x3) ∧ V.cell? ⟨B, 7, none⟩ = some (.int .u64 d.x4) ∧ V.cell? ⟨B, 8, none⟩ = some (.int .u64 d.x5) ∧ V.cell? ⟨B, 9, none⟩ = some (.int .u64 d.x6) ∧ V.cell? ⟨B, 10, none⟩ = some (.int .u64 d.x7)
theorem hear_keeps (h : NodeAt w lo a p S bs ways bv n) {kd co ln : Int} {d : L8} {B : Nat} (hb : Holds w B 52 (MsgV.cells ⟨kd, co, ln, d⟩)) (V : World) (hV : Below w.heap.size w V) :
    V.cell? ⟨a, 0, none⟩ = some (.int .i64 n.core) ∧ V.cell? ⟨B, 0, none⟩ = some (.int .i64 kd) ∧ V.cell? ⟨B, 1, none⟩ = some (.int .i64 co) ∧ V.cell? ⟨B, 2, none⟩ = some (.int .i64 ln) ∧ V.cell? ⟨B, 3, none⟩ = some (.int .u64 d.x0) ∧ V.cell? ⟨B, 4, none⟩ = some (.int .u64 d.x1) ∧ V.cell? ⟨B, 5, none⟩ = some (.int .u64 d.x2) ∧ V.cell? ⟨B, 6, none⟩ = some (.int .u64 d.x3) ∧ V.cell? ⟨B, 7, none⟩ = some (.int .u64 d.x4) ∧ V.cell? ⟨B, 8, none⟩ = some (.int .u64 d.x5) ∧ V.cell? ⟨B, 9, none⟩ = some (.int .u64 d.x6) ∧ V.cell? ⟨B, 10, none⟩ = some (.int .u64 d.x7) := by
  have h7 := hb.same (hV.block B hb.lt)
  exact ⟨(h.below hV (Nat.le_refl _)).c 0 rfl, h7.cell (i := 0) rfl, h7.cell (i := 1) rfl, h7.cell (i := 2) rfl, h7.cell (i := 3) rfl, h7.cell (i := 4) rfl, h7.cell (i := 5) rfl, h7.cell (i := 6) rfl, h7.cell (i := 7) rfl, h7.cell (i := 8) rfl, h7.cell (i := 9) rfl, h7.cell (i := 10) rfl⟩

set_option maxRecDepth 100000 in
set_option maxHeartbeats 4000000 in
theorem hear_any (h : NodeAt w lo a p S bs ways bv n) (m : MsgV) (h0 : 0 ≤ n.u) (hu : n.u < 4294967296) (hl : n.backs.length < 100000) :
    Calls Try.prog 14 #[.pointer (some ⟨a, 0, none⟩), .agg m.cells.toArray] w fun e w' => ∃ v, e = .returned (.tuple #[v, .int .i64 (n.hear m).2.2]) ∧ NOut w lo a p S bs ways bv (n.hear m).1 (n.hear m).2.1 v w' := by
  obtain ⟨kd, co, ln, d⟩ := m
  have hb0 : Below w.heap.size w (w.alloc (.cells (MsgV.cells ⟨kd, co, ln, d⟩).toArray 52)) := (Below.refl _ w).alloc (Nat.le_refl _) _
  have h1 := h.below hb0 (Nat.le_refl _)
  have h7 : Holds (w.alloc (.cells (MsgV.cells ⟨kd, co, ln, d⟩).toArray 52)) w.heap.size 52 (MsgV.cells ⟨kd, co, ln, d⟩) := Holds.new w _ _
  have HT := Lib.hid (below_own (a := a) (p := p) (bs := bs) (bv := bv) hb0)
  have HR := Lib.hid (NOut.idle h hb0)
  obtain ⟨k0, e0, e1, e2, e3, e4, e5, e6, e7, e8, e9, e10⟩ := hear_keeps h1 h7 _ (Below.refl _ _)
  have HK := Lib.hid (hear_keeps h1 h7)
  have H1 := Lib.hid h1
  have Hb0 := Lib.hid hb0
  clear h h1 h7 hb0
  unfold Nd.hear
  by_cases hc : co = n.core
  · by_cases hi : n.isLine ln = true
    · have hq : (co != n.core) = false := by simpa using hc
      have hbd : Below (w.alloc (.cells (MsgV.cells ⟨kd, co, ln, d⟩).toArray 52)).heap.size (w.alloc (.cells (MsgV.cells ⟨kd, co, ln, d⟩).toArray 52)) (w.alloc (.cells (MsgV.cells ⟨kd, co, ln, d⟩).toArray 52)).drew := drew_below (Below.refl _ _)
      have hH1 := H1.out.below hbd (Nat.le_refl _)
      have HI := isLine_any hH1 ln
      have HF := refuses_any hH1 ⟨kd, co, ln, d⟩ (by omega)
      have HK5 : Hid (∀ V, Below (w.alloc (.cells (MsgV.cells ⟨kd, co, ln, d⟩).toArray 52)).heap.size (w.alloc (.cells (MsgV.cells ⟨kd, co, ln, d⟩).toArray 52)) V → NodeAt V lo a p S bs ways bv n ∧ Tch (Own a p bs bv) w V) := Lib.hid (fun V hV => ⟨H1.out.below hV (Nat.le_refl _), HT.out.trans (below_own hV)⟩)
      by_cases hr : n.refuses ⟨kd, co, ln, d⟩ = true
      · rw [if_pos (Or.inr (Or.inr hr))]
        rw [hi] at HI
        rw [hr] at HF
        have HIh := Lib.hid HI
        have HFh := Lib.hid HF
        have Hbd := Lib.hid hbd
        clear hi hr hc hH1 HI HF hbd
        simp only [MsgV.cells] at *
        go_enter Try.func14, Try.ntmps14
        go_wp2
        generalize (w.alloc (.cells #[.int .i64 kd, .int .i64 co, .int .i64 ln, .int .u64 d.x0, .int .u64 d.x1, .int .u64 d.x2, .int .u64 d.x3, .int .u64 d.x4, .int .u64 d.x5, .int .u64 d.x6, .int .u64 d.x7] 52)) = W at *
        generalize w.heap.size = B at *
        go_region_held3 (fun V => V.cell? ⟨a, 0, none⟩ = some (.int .i64 n.core) ∧ V.cell? ⟨B, 0, none⟩ = some (.int .i64 kd) ∧ V.cell? ⟨B, 1, none⟩ = some (.int .i64 co) ∧ V.cell? ⟨B, 2, none⟩ = some (.int .i64 ln) ∧ V.cell? ⟨B, 3, none⟩ = some (.int .u64 d.x0) ∧ V.cell? ⟨B, 4, none⟩ = some (.int .u64 d.x1) ∧ V.cell? ⟨B, 5, none⟩ = some (.int .u64 d.x2) ∧ V.cell? ⟨B, 6, none⟩ = some (.int .u64 d.x3) ∧ V.cell? ⟨B, 7, none⟩ = some (.int .u64 d.x4) ∧ V.cell? ⟨B, 8, none⟩ = some (.int .u64 d.x5) ∧ V.cell? ⟨B, 9, none⟩ = some (.int .u64 d.x6) ∧ V.cell? ⟨B, 10, none⟩ = some (.int .u64 d.x7)) (first | with_reducible exact HK.out _ Hbd.out | with_reducible exact HK.out _ hbV) (first | (go_at_call 60; (with_reducible refine HIh.out.mono ?_); rintro e w' ⟨rfl, rfl⟩) | (go_at_call 61; (with_reducible refine HFh.out.mono ?_); rintro e V ⟨rfl, hbm⟩; have hbV := Hbd.out.trans (hbm.mono Hbd.out.size)))
        all_goals
          obtain ⟨n5, t5⟩ := HK5.out V hbV
          have HN := Lib.hid (NOut.self n5 t5)
          clear n5 t5 hbV hbm
          go_wp2
          go_ret2
          exact ⟨_, rfl, HN.out⟩
      · have hr' : n.refuses ⟨kd, co, ln, d⟩ = false := by simpa using hr
        rw [if_neg (by rintro (h | h | h); exact h hc; rw [hi] at h; cases h; exact hr h)]
        rw [hi] at HI
        rw [hr'] at HF
        have HIh := Lib.hid HI
        have HFh := Lib.hid HF
        have Hbd := Lib.hid hbd
        have HTk : Hid (∀ V, NodeAt V lo a p S bs ways bv n → Calls Try.prog 62 #[.pointer (some ⟨a, 0, none⟩), .agg (MsgV.cells ⟨kd, co, ln, d⟩).toArray] V fun e w' => ∃ v, e = .returned v ∧ NOut V lo a p S bs ways bv (n.take ⟨kd, co, ln, d⟩).1 (n.take ⟨kd, co, ln, d⟩).2 v w') := Lib.hid (fun V hV => take_any hV ⟨kd, co, ln, d⟩ h0 hu hl hr')
        generalize htk : n.take ⟨kd, co, ln, d⟩ = tk at *
        clear hi hr hr' hc hH1 HI HF hbd htk
        simp only [MsgV.cells] at *
        go_enter Try.func14, Try.ntmps14
        go_wp2
        generalize (w.alloc (.cells #[.int .i64 kd, .int .i64 co, .int .i64 ln, .int .u64 d.x0, .int .u64 d.x1, .int .u64 d.x2, .int .u64 d.x3, .int .u64 d.x4, .int .u64 d.x5, .int .u64 d.x6, .int .u64 d.x7] 52)) = W at *
        generalize hB9 : w.heap.size = B at *
        have HB9 := Lib.hid hB9; clear hB9
        go_region_held3 (fun V => V.cell? ⟨a, 0, none⟩ = some (.int .i64 n.core) ∧ V.cell? ⟨B, 0, none⟩ = some (.int .i64 kd) ∧ V.cell? ⟨B, 1, none⟩ = some (.int .i64 co) ∧ V.cell? ⟨B, 2, none⟩ = some (.int .i64 ln) ∧ V.cell? ⟨B, 3, none⟩ = some (.int .u64 d.x0) ∧ V.cell? ⟨B, 4, none⟩ = some (.int .u64 d.x1) ∧ V.cell? ⟨B, 5, none⟩ = some (.int .u64 d.x2) ∧ V.cell? ⟨B, 6, none⟩ = some (.int .u64 d.x3) ∧ V.cell? ⟨B, 7, none⟩ = some (.int .u64 d.x4) ∧ V.cell? ⟨B, 8, none⟩ = some (.int .u64 d.x5) ∧ V.cell? ⟨B, 9, none⟩ = some (.int .u64 d.x6) ∧ V.cell? ⟨B, 10, none⟩ = some (.int .u64 d.x7)) (first | with_reducible exact HK.out _ Hbd.out | with_reducible exact HK.out _ hbV) (first | (go_at_call 60; (with_reducible refine HIh.out.mono ?_); rintro e w' ⟨rfl, rfl⟩) | (go_at_call 61; (with_reducible refine HFh.out.mono ?_); rintro e V ⟨rfl, hbm⟩; have hbV := Hbd.out.trans (hbm.mono Hbd.out.size)))
        all_goals
          obtain ⟨n5, t5⟩ := HK5.out V hbV
          clear k0 e0 e1 e2 e3 e4 e5 e6 e7 e8 e9 e10
          obtain ⟨k0, e0, e1, e2, e3, e4, e5, e6, e7, e8, e9, e10⟩ := HK.out V hbV
          have HTV := Lib.hid (HTk.out V n5)
          have T5 := Lib.hid t5
          clear n5 t5 hbV hbm
          go_wp2_with fail
          refine HTV.out.mono ?_
          rintro e w6 ⟨v, rfl, hn⟩
          have HN := Lib.hid (hn.after T5.out); clear hn
          go_wp2
          exact bodyPost_ret (v := .tuple #[v, .int .i64 0]) (by simp [results, Try.results14, go_sem]) rfl ⟨v, rfl, HN.out⟩
    · have hi' : n.isLine ln = false := by simpa using hi
      rw [if_pos (Or.inr (Or.inl hi'))]
      have hq : (co != n.core) = false := by simpa using hc
      have HIq : Hid (∀ q, Calls Try.prog 60 #[.pointer (some ⟨a, 0, none⟩), .int .i64 ln] ((w.alloc (.cells (MsgV.cells ⟨kd, co, ln, d⟩).toArray 52)).drewN q) fun e w' => e = .returned (.bool false) ∧ w' = (w.alloc (.cells (MsgV.cells ⟨kd, co, ln, d⟩).toArray 52)).drewN q) := Lib.hid (fun q => by
        have := isLine_any (H1.out.below (below_drewN (Below.refl _ _) q) (Nat.le_refl _)) ln
        rw [hi'] at this
        exact this.mono fun e w' hh => ⟨hh.1, hh.2.symm⟩)
      clear hi hi' hc
      simp only [MsgV.cells] at *
      go_enter Try.func14, Try.ntmps14
      go_wp2
      generalize (w.alloc (.cells #[.int .i64 kd, .int .i64 co, .int .i64 ln, .int .u64 d.x0, .int .u64 d.x1, .int .u64 d.x2, .int .u64 d.x3, .int .u64 d.x4, .int .u64 d.x5, .int .u64 d.x6, .int .u64 d.x7] 52)) = W at *
      generalize w.heap.size = B at *
      go_quiet ((go_at_call 60; exact Calls.quiet_of_same (HIq.out _)))
      have Hbd : Hid (Below W.heap.size W (W.drewN nq)) := Lib.hid (below_drewN (Below.refl _ _) nq)
      have HN : Hid (NOut w lo a p S bs ways bv n [] (.slice none 0 0) (W.drewN nq)) := Lib.hid (NOut.self (H1.out.below Hbd.out (Nat.le_refl _)) (HT.out.trans (below_own Hbd.out)))
      go_wp2
      go_ret2
      exact ⟨_, rfl, HN.out⟩
  · rw [if_pos (Or.inl hc)]
    have hq : (co != n.core) = true := by simpa using hc
    clear hc
    simp only [MsgV.cells] at *
    go_enter Try.func14, Try.ntmps14
    go_wp2
    generalize (w.alloc (.cells #[.int .i64 kd, .int .i64 co, .int .i64 ln, .int .u64 d.x0, .int .u64 d.x1, .int .u64 d.x2, .int .u64 d.x3, .int .u64 d.x4, .int .u64 d.x5, .int .u64 d.x6, .int .u64 d.x7] 52)) = W at *
    generalize w.heap.size = B at *
    go_quiet (fail)
    have Hbd : Hid (Below W.heap.size W (W.drewN nq)) := Lib.hid (below_drewN (Below.refl _ _) nq)
    have HN : Hid (NOut w lo a p S bs ways bv n [] (.slice none 0 0) (W.drewN nq)) := Lib.hid (NOut.self (H1.out.below Hbd.out (Nat.le_refl _)) (HT.out.trans (below_own Hbd.out)))
    go_wp2
    go_ret2
    exact ⟨_, rfl, HN.out⟩

set_option maxRecDepth 100000 in
set_option maxHeartbeats 2000000 in
theorem ndrop_any (h : NodeAt w lo a p S bs ways bv n) (line : Int) (hl : n.backs.length < 100000) :
    Calls Try.prog 20 #[.pointer (some ⟨a, 0, none⟩), .int .i64 line] w fun e w' => ∃ v, e = .returned (.tuple #[v, .int .i64 (n.drop line).2.2]) ∧ NOut w lo a p S bs ways bv (n.drop line).1 (n.drop line).2.1 v w' := by
  have HI := isLine_any h line
  unfold Nd.drop
  by_cases hi : n.isLine line = true
  · rw [if_neg (by rw [hi]; simp)]
    rw [hi] at HI
    have HIh := Lib.hid HI; clear HI hi
    have c2 := h.c 2 rfl
    obtain ⟨e0, had, hfx⟩ : ∃ e0 had, findX n.ss line = (e0, had) := ⟨_, _, rfl⟩
    have HF := Lib.hid (find_x h.cache line)
    rw [hfx] at HF ⊢
    have H := Lib.hid h; clear h hfx
    cases had
    · rw [if_pos rfl]
      go_enter Try.func20, Try.ntmps20
      go_wp2_with fail
      refine HIh.out.mono ?_
      rintro e w' ⟨rfl, rfl⟩
      go_wp2_with fail
      refine HF.out.mono ?_
      rintro e w1 ⟨rfl, hb⟩
      obtain ⟨W, eW, bW, hn, hr, -⟩ := ebox w1 e0
      have hbW := hb.trans (bW.mono hb.size)
      have h1 := H.out.below hbW (Nat.le_refl _)
      have HW := Lib.hid (And.intro h1 (below_own (a := a) (p := p) (bs := bs) (bv := bv) hbW))
      have EW := Lib.hid eW
      have Hn := Lib.hid hn
      have Hr := Lib.hid hr
      have hrW : W.cell? ⟨w1.heap.size, 3, none⟩ = some (.bool e0.write) := hr 3 _ rfl
      clear hb eW bW hn hr hbW h1
      go_wp2_with (refine wpList_store_mid rfl 42 (.tmp 6) (.tmp 23) rfl w1.heap.size 0 e0.cells.toArray rfl rfl ?_ Try.size42 (oneEnt _) ?_; exact Hn.out; change wpList _ _ _ _ _ ((w1.alloc (.cells Ent.zero.cells.toArray 42)).setCells w1.heap.size 0 e0.cells); rw [← EW.out])
      have HN := Lib.hid (NOut.self HW.out.1 HW.out.2)
      go_ret2
      exact ⟨_, rfl, HN.out⟩
    · rw [if_neg (by simp)]
      by_cases hm : e0.mk' = true
      · simp only [if_pos hm]
        have HMk := Lib.hid (fun W => nmarked_any e0 W)
        rw [hm] at HMk
        clear hm
        go_enter Try.func20, Try.ntmps20
        go_wp2_with fail
        refine HIh.out.mono ?_
        rintro e w' ⟨rfl, rfl⟩
        go_wp2_with fail
        refine HF.out.mono ?_
        rintro e w1 ⟨rfl, hb⟩
        obtain ⟨W, eW, bW, hn, hr, -⟩ := ebox w1 e0
        have hbW := hb.trans (bW.mono hb.size)
        have h1 := H.out.below hbW (Nat.le_refl _)
        have HW := Lib.hid (And.intro h1 (below_own (a := a) (p := p) (bs := bs) (bv := bv) hbW))
        have EW := Lib.hid eW
        have Hn := Lib.hid hn
        have Hr := Lib.hid hr
        have hrW : W.cell? ⟨w1.heap.size, 3, none⟩ = some (.bool e0.write) := hr 3 _ rfl
        clear hb eW bW hn hr hbW h1
        go_wp2_with (first | (refine wpList_store_mid rfl 42 (.tmp 6) (.tmp 23) rfl w1.heap.size 0 e0.cells.toArray rfl rfl ?_ Try.size42 (oneEnt _) ?_; exact Hn.out; change wpList _ _ _ _ _ ((w1.alloc (.cells Ent.zero.cells.toArray 42)).setCells w1.heap.size 0 e0.cells); rw [← EW.out]) | (refine wpList_load_mid rfl 42 (.tmp 6) rfl w1.heap.size 0 rfl e0.cells _ ?_ Try.underlying42 rfl Try.size42 ?_; exact Hr.out))
        refine (HMk.out W).mono ?_
        rintro e w2 ⟨rfl, hb2⟩
        have h2 := HW.out.1.below hb2 (Nat.le_refl _)
        have hT2 := HW.out.2.trans (below_own (a := a) (p := p) (bs := bs) (bv := bv) hb2)
        clear hb2 c2
        have HL := Lib.hid (abort_ok h2 4)
        have T2 := Lib.hid hT2
        clear h2 hT2
        go_wp2_with fail
        refine HL.out.mono ?_
        rintro e w3 ⟨rfl, h3, hT3'⟩
        have hT3 := T2.out.trans hT3'
        clear hT3'
        have c2 := h3.c 2 rfl
        have HD := Lib.hid (drop_x h3.cache line)
        have H3 := Lib.hid (And.intro h3 hT3)
        clear h3 hT3
        go_wp2_with fail
        refine HD.out.mono ?_
        rintro e w4 ⟨rfl, hc, hT⟩
        obtain ⟨WW, eW, bW, hn, hr, -⟩ := ebox w4 (dropX (n.abort 4).ss line).1
        have h4 := (H3.out.1.turnu hc hT).below bW (Nat.le_refl _)
        have hT4 := (H3.out.2.trans (tch_own hT)).trans (below_own (a := a) (p := p) (bs := bs) (bv := bv) bW)
        have HL4 := Lib.hid (letGo_any h4 (dropX (n.abort 4).ss line).1 hl)
        have T4 := Lib.hid hT4
        have EWW := Lib.hid eW
        have HnW := Lib.hid hn
        have HrW := Lib.hid hr
        clear hc hT c2 eW bW hn hr HD h4 hT4
        go_wp2_with (first | (refine wpList_store_mid rfl 42 (.tmp 8) (.tmp 38) rfl w4.heap.size 0 (Ent.cells (dropX (n.abort 4).ss line).1).toArray rfl rfl ?_ Try.size42 (oneEnt _) ?_; exact HnW.out; change wpList _ _ _ _ _ ((w4.alloc (.cells Ent.zero.cells.toArray 42)).setCells w4.heap.size 0 (Ent.cells (dropX (n.abort 4).ss line).1)); rw [← EWW.out]) | (refine wpList_load_mid rfl 42 (.tmp 8) rfl w4.heap.size 0 rfl (Ent.cells (dropX (n.abort 4).ss line).1) _ ?_ Try.underlying42 rfl Try.size42 ?_; exact HrW.out))
        refine HL4.out.mono ?_
        rintro e w6 ⟨v, rfl, hn⟩
        have HN := Lib.hid (hn.after T4.out); clear hn
        go_wp2
        exact bodyPost_ret (v := .tuple #[v, .int .i64 (dropX (n.abort 4).ss line).2]) (by simp [results, Try.results20, go_sem]) rfl ⟨v, rfl, HN.out⟩
      · have hm' : e0.mk' = false := by simpa using hm
        simp only [if_neg hm]
        have HMk := Lib.hid (fun W => nmarked_any e0 W)
        rw [hm'] at HMk
        clear hm hm'
        go_enter Try.func20, Try.ntmps20
        go_wp2_with fail
        refine HIh.out.mono ?_
        rintro e w' ⟨rfl, rfl⟩
        go_wp2_with fail
        refine HF.out.mono ?_
        rintro e w1 ⟨rfl, hb⟩
        obtain ⟨W, eW, bW, hn, hr, -⟩ := ebox w1 e0
        have hbW := hb.trans (bW.mono hb.size)
        have h1 := H.out.below hbW (Nat.le_refl _)
        have HW := Lib.hid (And.intro h1 (below_own (a := a) (p := p) (bs := bs) (bv := bv) hbW))
        have EW := Lib.hid eW
        have Hn := Lib.hid hn
        have Hr := Lib.hid hr
        have hrW : W.cell? ⟨w1.heap.size, 3, none⟩ = some (.bool e0.write) := hr 3 _ rfl
        clear hb eW bW hn hr hbW h1
        go_wp2_with (first | (refine wpList_store_mid rfl 42 (.tmp 6) (.tmp 23) rfl w1.heap.size 0 e0.cells.toArray rfl rfl ?_ Try.size42 (oneEnt _) ?_; exact Hn.out; change wpList _ _ _ _ _ ((w1.alloc (.cells Ent.zero.cells.toArray 42)).setCells w1.heap.size 0 e0.cells); rw [← EW.out]) | (refine wpList_load_mid rfl 42 (.tmp 6) rfl w1.heap.size 0 rfl e0.cells _ ?_ Try.underlying42 rfl Try.size42 ?_; exact Hr.out))
        refine (HMk.out W).mono ?_
        rintro e w2 ⟨rfl, hb2⟩
        have h3 := HW.out.1.below hb2 (Nat.le_refl _)
        have hT3 := HW.out.2.trans (below_own (a := a) (p := p) (bs := bs) (bv := bv) hb2)
        clear hb2 c2
        have c2 := h3.c 2 rfl
        have HD := Lib.hid (drop_x h3.cache line)
        have H3 := Lib.hid (And.intro h3 hT3)
        clear h3 hT3
        go_wp2_with fail
        refine HD.out.mono ?_
        rintro e w4 ⟨rfl, hc, hT⟩
        obtain ⟨WW, eW, bW, hn, hr, -⟩ := ebox w4 (dropX n.ss line).1
        have h4 := (H3.out.1.turnu hc hT).below bW (Nat.le_refl _)
        have hT4 := (H3.out.2.trans (tch_own hT)).trans (below_own (a := a) (p := p) (bs := bs) (bv := bv) bW)
        have HL4 := Lib.hid (letGo_any h4 (dropX n.ss line).1 hl)
        have T4 := Lib.hid hT4
        have EWW := Lib.hid eW
        have HnW := Lib.hid hn
        have HrW := Lib.hid hr
        clear hc hT c2 eW bW hn hr HD h4 hT4
        go_wp2_with (first | (refine wpList_store_mid rfl 42 (.tmp 8) (.tmp 38) rfl w4.heap.size 0 (Ent.cells (dropX n.ss line).1).toArray rfl rfl ?_ Try.size42 (oneEnt _) ?_; exact HnW.out; change wpList _ _ _ _ _ ((w4.alloc (.cells Ent.zero.cells.toArray 42)).setCells w4.heap.size 0 (Ent.cells (dropX n.ss line).1)); rw [← EWW.out]) | (refine wpList_load_mid rfl 42 (.tmp 8) rfl w4.heap.size 0 rfl (Ent.cells (dropX n.ss line).1) _ ?_ Try.underlying42 rfl Try.size42 ?_; exact HrW.out))
        refine HL4.out.mono ?_
        rintro e w6 ⟨v, rfl, hn⟩
        have HN := Lib.hid (hn.after T4.out); clear hn
        go_wp2
        exact bodyPost_ret (v := .tuple #[v, .int .i64 (dropX n.ss line).2]) (by simp [results, Try.results20, go_sem]) rfl ⟨v, rfl, HN.out⟩
  · have hi' : n.isLine line = false := by simpa using hi
    rw [if_pos hi']
    rw [hi'] at HI
    have HIh := Lib.hid HI
    have HN := Lib.hid (NOut.idle h (Below.refl _ _))
    clear HI hi hi' h
    go_enter Try.func20, Try.ntmps20
    go_wp2_with fail
    refine HIh.out.mono ?_
    rintro e w' ⟨rfl, rfl⟩
    go_wp2
    go_ret2
    exact ⟨_, rfl, HN.out⟩

end

end Go.Proofs.Ytddajnpichchfaa
