/- A node: what it hears of a line. Conditions: those stated in each theorem. -/
import Derived.Test.YtddajnpichchfaaNodeH
namespace Go.Proofs.Ytddajnpichchfaa
open Go.RowKit Go.BigFrame Go.Sort

section
variable {w w' : World} {lo a p S : Nat} {bs : List Nat} {ways : Nat} {bv : Value} {n : Nd}

theorem drop_x {ss : Sets} {u : Int} (h : CacheAt w p S bs ways ss u) (k : Int) :
    Calls Try.prog 44 #[.pointer (some ⟨p, 0, none⟩), .int .i64 k] w fun e w' => e = .returned (.tuple #[.agg (dropX ss k).1.cells.toArray, .int .i64 (dropX ss k).2]) ∧ CacheAt w' p S bs ways (dropL ss u k).1 u ∧ Tch (Turns p bs) w w' :=
  (drop_any h k).mono fun e w' hd => ⟨by rw [← dropL_val ss u k]; exact hd.1, by have := hd.2.1; rwa [dropL_u] at this, hd.2.2⟩
theorem demote_x {ss : Sets} {u : Int} (h : CacheAt w p S bs ways ss u) (k : Int) :
    Calls Try.prog 40 #[.pointer (some ⟨p, 0, none⟩), .int .i64 k] w fun e w' => e = .returned (.tuple #[.agg (demoteX ss k).1.cells.toArray, .int .i64 (demoteX ss k).2]) ∧ CacheAt w' p S bs ways (demoteL ss u k).1 u ∧ Tch (Turns p bs) w w' :=
  (demote_any h k).mono fun e w' hd => ⟨by rw [← demoteL_val ss u k]; exact hd.1, by have := hd.2.1; rwa [demoteL_u] at this, hd.2.2⟩
theorem Nd.lose_core (n : Nd) (k : Int) : (n.lose k).core = n.core ∧ (n.lose k).u = n.u ∧ (n.lose k).backs = n.backs := by unfold Nd.lose; split <;> exact ⟨rfl, rfl, rfl⟩
theorem NodeAt.turnu (h : NodeAt w lo a p S bs ways bv n) {ss : Sets} (hc : CacheAt w' p S bs ways ss n.u) (hT : Tch (Turns p bs) w w') : NodeAt w' lo a p S bs ways bv { n with ss := ss } := h.turn hc hT

set_option maxRecDepth 100000 in
set_option maxHeartbeats 2000000 in
theorem hearInv_any (h : NodeAt w lo a p S bs ways bv n) (line : Int) :
    Calls Try.prog 86 #[.pointer (some ⟨a, 0, none⟩), .int .i64 line] w fun e w' => ∃ v, e = .returned v ∧ NOut w lo a p S bs ways bv (n.hearInv line).1 (n.hearInv line).2 v w' := by
  have c2 := h.c 2 rfl
  obtain ⟨e0, had, hfx⟩ : ∃ e0 had, findX n.ss line = (e0, had) := ⟨_, _, rfl⟩
  have HF := Lib.hid (find_x h.cache line)
  rw [hfx] at HF
  unfold Nd.hearInv
  rw [hfx]
  have H := Lib.hid h; clear h hfx
  cases had
  · rw [if_neg (by simp)]
    go_enter Try.func86, Try.ntmps86
    go_wp2_with fail
    refine HF.out.mono ?_
    rintro e w1 ⟨rfl, hb⟩
    obtain ⟨W, eW, bW, hn, hr, -⟩ := ebox w1 e0
    have hbW := hb.trans (bW.mono hb.size)
    have h1 := H.out.below hbW (Nat.le_refl _)
    have HW := Lib.hid (And.intro h1 (below_own (a := a) (p := p) (bs := bs) (bv := bv) hbW))
    have EW := Lib.hid eW
    have Hn := Lib.hid hn
    have Hr := Lib.hid hr
    have hrW : W.cell? ⟨w1.heap.size, 3, none⟩ = some (.bool e0.write) := hr 3 _ rfl
    clear hb eW bW hn hr hbW h1
    go_wp2_with (refine wpList_store_mid rfl 42 (.tmp 5) (.tmp 14) rfl w1.heap.size 0 e0.cells.toArray rfl rfl ?_ Try.size42 (oneEnt _) ?_; exact Hn.out; change wpList _ _ _ _ _ ((w1.alloc (.cells Ent.zero.cells.toArray 42)).setCells w1.heap.size 0 e0.cells); rw [← EW.out])
    have HM := Lib.hid (message_any HW.out.1 4 line)
    have H8 := Lib.hid (And.intro (HW.out.1) (HW.out.2))
    refine HM.out.mono ?_
    rintro e w6 ⟨rfl, hb6⟩
    have h6 := H8.out.1.below hb6 (Nat.le_refl _)
    have hT6 := H8.out.2.trans (below_own (a := a) (p := p) (bs := bs) (bv := bv) hb6)
    have H6 := Lib.hid (And.intro h6 hT6)
    clear h6 hT6 hb6
    simp only [Nd.msg, MsgV.cells, L8.zero]
    go_wp2
    go_ret
    have ho := owns_new w6 52 11 (MsgV.cells ⟨4, n.core, line, L8.zero⟩) rfl
    have hB : Below w6.heap.size w6 (w6.alloc (.cells (MsgV.cells ⟨4, n.core, line, L8.zero⟩).toArray 52)) := (Below.refl _ w6).alloc (Nat.le_refl _) _
    have hsz := H6.out.2.size
    exact ⟨_, rfl, bv, outAt_one (owns_mono (show World.ownsRow _ _ _ _ _ _ _ from ho) (fun g' hg => by cases hg; exact hsz)) (fun g' hg hb => by have h1 := (owns_lt H6.out.1.own hb).2; cases hg; exact absurd h1 (Nat.lt_irrefl _)), H6.out.1.below hB (Nat.le_refl _), H6.out.2.trans (below_own hB), fun _ e => .inl e⟩
  · rw [if_pos rfl]
    by_cases hm : e0.mk' = true
    · rw [if_pos hm]
      have HMk := Lib.hid (fun W => nmarked_any e0 W)
      rw [hm] at HMk
      clear hm
      go_enter Try.func86, Try.ntmps86
      go_wp2_with fail
      refine HF.out.mono ?_
      rintro e w1 ⟨rfl, hb⟩
      obtain ⟨W, eW, bW, hn, hr, -⟩ := ebox w1 e0
      have hbW := hb.trans (bW.mono hb.size)
      have h1 := H.out.below hbW (Nat.le_refl _)
      have HW := Lib.hid (And.intro h1 (below_own (a := a) (p := p) (bs := bs) (bv := bv) hbW))
      have EW := Lib.hid eW
      have Hn := Lib.hid hn
      have Hr := Lib.hid hr
      have hrW : W.cell? ⟨w1.heap.size, 3, none⟩ = some (.bool e0.write) := hr 3 _ rfl
      clear hb eW bW hn hr hbW h1
      go_wp2_with (first | (refine wpList_store_mid rfl 42 (.tmp 5) (.tmp 14) rfl w1.heap.size 0 e0.cells.toArray rfl rfl ?_ Try.size42 (oneEnt _) ?_; exact Hn.out; change wpList _ _ _ _ _ ((w1.alloc (.cells Ent.zero.cells.toArray 42)).setCells w1.heap.size 0 e0.cells); rw [← EW.out]) | (refine wpList_load_mid rfl 42 (.tmp 5) rfl w1.heap.size 0 rfl e0.cells _ ?_ Try.underlying42 rfl Try.size42 ?_; exact Hr.out))
      refine (HMk.out W).mono ?_
      rintro e w2 ⟨rfl, hb2⟩
      have h2 := HW.out.1.below hb2 (Nat.le_refl _)
      have HL := Lib.hid (lose_ok h2 line)
      have T2 := Lib.hid (HW.out.2.trans (below_own (a := a) (p := p) (bs := bs) (bv := bv) hb2))
      clear h2 hb2 c2
      go_wp2_with fail
      refine HL.out.mono ?_
      rintro e w3 ⟨rfl, h3, hT3⟩
      have c2 := h3.c 2 rfl
      have HD := Lib.hid (drop_x h3.cache line)
      have H3 := Lib.hid (And.intro h3 (T2.out.trans hT3))
      clear h3 hT3
      go_wp2_with fail
      refine HD.out.mono ?_
      rintro e w4 ⟨rfl, hc, hT⟩
      have h4 := H3.out.1.turnu hc hT
      have hT4 := H3.out.2.trans (tch_own hT)
      clear hc hT c2
      have HM := Lib.hid (message_any h4 4 line)
      have H8 := Lib.hid (And.intro (h4) (hT4))
      go_wp2_with fail
      refine HM.out.mono ?_
      rintro e w6 ⟨rfl, hb6⟩
      have h6 := H8.out.1.below hb6 (Nat.le_refl _)
      have hT6 := H8.out.2.trans (below_own (a := a) (p := p) (bs := bs) (bv := bv) hb6)
      have H6 := Lib.hid (And.intro h6 hT6)
      clear h6 hT6 hb6 h4 hT4
      simp only [Nd.msg, MsgV.cells, L8.zero, (n.lose_core line).1]
      go_wp2
      go_ret
      have ho := owns_new w6 52 11 (MsgV.cells ⟨4, n.core, line, L8.zero⟩) rfl
      have hB : Below w6.heap.size w6 (w6.alloc (.cells (MsgV.cells ⟨4, n.core, line, L8.zero⟩).toArray 52)) := (Below.refl _ w6).alloc (Nat.le_refl _) _
      have hsz := H6.out.2.size
      exact ⟨_, rfl, bv, outAt_one (owns_mono (show World.ownsRow _ _ _ _ _ _ _ from ho) (fun g' hg => by cases hg; exact hsz)) (fun g' hg hb => by have h1 := (owns_lt H6.out.1.own hb).2; cases hg; exact absurd h1 (Nat.lt_irrefl _)), H6.out.1.below hB (Nat.le_refl _), H6.out.2.trans (below_own hB), fun _ e => .inl e⟩
    · have hm' : e0.mk' = false := by simpa using hm
      rw [if_neg hm]
      have HMk := Lib.hid (fun W => nmarked_any e0 W)
      rw [hm'] at HMk
      clear hm hm'
      go_enter Try.func86, Try.ntmps86
      go_wp2_with fail
      refine HF.out.mono ?_
      rintro e w1 ⟨rfl, hb⟩
      obtain ⟨W, eW, bW, hn, hr, -⟩ := ebox w1 e0
      have hbW := hb.trans (bW.mono hb.size)
      have h1 := H.out.below hbW (Nat.le_refl _)
      have HW := Lib.hid (And.intro h1 (below_own (a := a) (p := p) (bs := bs) (bv := bv) hbW))
      have EW := Lib.hid eW
      have Hn := Lib.hid hn
      have Hr := Lib.hid hr
      have hrW : W.cell? ⟨w1.heap.size, 3, none⟩ = some (.bool e0.write) := hr 3 _ rfl
      clear hb eW bW hn hr hbW h1
      go_wp2_with (first | (refine wpList_store_mid rfl 42 (.tmp 5) (.tmp 14) rfl w1.heap.size 0 e0.cells.toArray rfl rfl ?_ Try.size42 (oneEnt _) ?_; exact Hn.out; change wpList _ _ _ _ _ ((w1.alloc (.cells Ent.zero.cells.toArray 42)).setCells w1.heap.size 0 e0.cells); rw [← EW.out]) | (refine wpList_load_mid rfl 42 (.tmp 5) rfl w1.heap.size 0 rfl e0.cells _ ?_ Try.underlying42 rfl Try.size42 ?_; exact Hr.out))
      refine (HMk.out W).mono ?_
      rintro e w2 ⟨rfl, hb2⟩
      have h3 := HW.out.1.below hb2 (Nat.le_refl _)
      have hT3 := HW.out.2.trans (below_own (a := a) (p := p) (bs := bs) (bv := bv) hb2)
      clear hb2 c2
      have c2 := h3.c 2 rfl
      have HD := Lib.hid (drop_x h3.cache line)
      have H3 := Lib.hid (And.intro h3 hT3)
      clear h3 hT3
      go_wp2_with fail
      refine HD.out.mono ?_
      rintro e w4 ⟨rfl, hc, hT⟩
      have h4 := H3.out.1.turnu hc hT
      have hT4 := H3.out.2.trans (tch_own hT)
      clear hc hT c2
      have HM := Lib.hid (message_any h4 4 line)
      have H8 := Lib.hid (And.intro (h4) (hT4))
      go_wp2_with fail
      refine HM.out.mono ?_
      rintro e w6 ⟨rfl, hb6⟩
      have h6 := H8.out.1.below hb6 (Nat.le_refl _)
      have hT6 := H8.out.2.trans (below_own (a := a) (p := p) (bs := bs) (bv := bv) hb6)
      have H6 := Lib.hid (And.intro h6 hT6)
      clear h6 hT6 hb6 h4 hT4
      simp only [Nd.msg, MsgV.cells, L8.zero]
      go_wp2
      go_ret
      have ho := owns_new w6 52 11 (MsgV.cells ⟨4, n.core, line, L8.zero⟩) rfl
      have hB : Below w6.heap.size w6 (w6.alloc (.cells (MsgV.cells ⟨4, n.core, line, L8.zero⟩).toArray 52)) := (Below.refl _ w6).alloc (Nat.le_refl _) _
      have hsz := H6.out.2.size
      exact ⟨_, rfl, bv, outAt_one (owns_mono (show World.ownsRow _ _ _ _ _ _ _ from ho) (fun g' hg => by cases hg; exact hsz)) (fun g' hg hb => by have h1 := (owns_lt H6.out.1.own hb).2; cases hg; exact absurd h1 (Nat.lt_irrefl _)), H6.out.1.below hB (Nat.le_refl _), H6.out.2.trans (below_own hB), fun _ e => .inl e⟩

end

end Go.Proofs.Ytddajnpichchfaa
