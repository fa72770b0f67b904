/- hist: the story's add of a beginning. Conditions: those stated in each theorem. -/
import Derived.Test.YtgjbhcnadenojaaHisJ
namespace Go.Proofs.Ytgjbhcnadenojaa
open Go.RowKit Go.BigFrame Go.Maps

section
variable {w0 w : World} {c : SC} {i g : Nat} {x : KC}
set_option maxRecDepth 100000 in
set_option maxHeartbeats 4000000 in
theorem add_begin (h : Ap w0 w c.pf) (iv : Int) (e : Ev) (hl : c.l.length < 1000) (e1 : e.k = 1) :
    Calls Try.prog 42 #[.pointer (some ⟨c.p, 0, none⟩), .map (some c.bo), .int .i64 iv, e.val] w fun z w' => z = .returned (.int .i64 (c.l.length : Nat)) ∧ AddO w0 c (c.l.map (·.k) ++ [Kn.begun iv e]) w' := by
  have hW : Below w.heap.size w (w.alloc (.cells e.cells.toArray 61)) := (Below.refl _ w).alloc (Nat.le_refl _) _
  have hBx := Holds.new w 61 e.cells
  have hA := h.idle hW
  have HP : Hid (∀ V, Calls Try.prog 28 #[.int .i64 e.k] V fun z w' => z = .returned (.bool (plainK e.k)) ∧ V = w') := Lib.hid (fun V => plain_any e.k)
  have hp : plainK e.k = false := by rw [e1]; rfl
  rw [hp] at HP
  have HBe : Hid (∀ V, Calls Try.prog 50 #[.int .i64 iv, e.val] V fun z w' => ∃ bl bs, z = .returned (.agg #[.int .i64 e.co, .int .i64 e.bl, .int .i64 e.tr, .int .i64 e.la, .int .i64 iv, .int .i64 (-1), .int .i64 (-1), .slice none 0 0, .slice none 0 0, .bool false, .int .i64 0, .map (some bl), .map (some bs), .bool false]) ∧ MpAt w' 3 .i64 bl 0 Mp.none ∧ MpAt w' 3 .i64 bs 0 Mp.none ∧ bl ≠ bs ∧ V.heap.size ≤ bl ∧ V.heap.size ≤ bs ∧ Below V.heap.size V w') := Lib.hid (fun V => begun_any (w := V) iv e)
  obtain ⟨ad, cap, hva, hne⟩ := SC.va_any hA
  have hHW := Lib.hid hW; clear hW
  obtain ⟨ek, etm, eco, ebl, etr, ela, ead, eva, ecd⟩ := e
  simp only at e1 HBe
  subst e1
  simp only [Ev.cells] at hBx hA hHW HP
  unfold Ev.val at HBe ⊢
  have hpl := hA.below.size
  clear h hp
  have HVA := Lib.hid hva; clear hva
  have HNE := Lib.hid hne; clear hne
  go_enter Try.func42, Try.ntmps42
  obtain ⟨b0, b1, b2, b3, b4, b5, b6, b7, b8⟩ := EvBox.of (e := ⟨1, etm, eco, ebl, etr, ela, ead, eva, ecd⟩) hBx
  simp only at b0 b1 b2 b3 b4 b5 b6 b7 b8
  go_wp2_with (go_at_call 28; refine (HP.out _).mono ?_; rintro z w' ⟨rfl, rfl⟩)
  clear b0 b1 b2 b3 b4 b5 b6 b7 b8
  generalize w.alloc (.cells #[.int .i64 1, .int .i64 etm, .int .i64 eco, .int .i64 ebl, .int .i64 etr, .int .i64 ela, .int .i64 ead, .int .u64 eva, .int .i64 ecd] 61) = W0 at *
  obtain ⟨i0, hi0, hz0, hz1, hz2⟩ := info_parts Try.infoKnown
  have Hi := Lib.hid hi0; clear hi0
  have Hz0 := Lib.hid hz0; clear hz0
  have Hz1 := Lib.hid hz1; clear hz1
  have Hz2 := Lib.hid hz2; clear hz2
  have HA := Lib.hid hA; clear hA
  have HBx := Lib.hid hBx; clear hBx
  have hS : ∀ V, Below W0.heap.size W0 V → V.cell? ⟨c.p, 1, none⟩ = some (.slice ad c.l.length cap) := fun V hV => by rw [← HVA.out]; exact (SC.sto (HA.out.idle hV)).cell (i := 1) rfl
  have hEB : ∀ V, Below W0.heap.size W0 V → EvBox V w.heap.size ⟨1, etm, eco, ebl, etr, ela, ead, eva, ecd⟩ := fun V hV => EvBox.of (e := ⟨1, etm, eco, ebl, etr, ela, ead, eva, ecd⟩) (HBx.out.below hV)
  have HS := Lib.hid hS; clear hS
  have HEB := Lib.hid hEB; clear hEB
  have hBd : Below W0.heap.size W0 W0.drew := below_drew1 (Below.refl _ _)
  have HBd := Lib.hid hBd; clear hBd
  have k1 := HS.out _ HBd.out
  obtain ⟨b0, b1, b2, b3, b4, b5, b6, b7, b8⟩ := HEB.out _ HBd.out
  simp only at b0 b1 b2 b3 b4 b5 b6 b7 b8
  have HRow : Hid (∀ V, Below W0.heap.size W0 V → V.ownsRow 0 78 14 (.slice ad c.l.length cap) c.l.length (flatK c.l)) := Lib.hid (fun V hV => by
    obtain ⟨T, ⟨v1, _⟩, _⟩ := (HA.out.idle hV).get (i := Ix.att) rfl
    rw [← HVA.out]; exact v1)
  have HG : Hid (∀ V L, Below W0.heap.size W0 V → ∀ w9, World.grownBy (V.alloc (.cells L 78)) w9 (Value.slice ad c.l.length cap).ownBlock → w9.cell? ⟨c.p, 1, none⟩ = some (.slice ad c.l.length cap) ∧ w9.frozen? ⟨c.p, 1, none⟩ = false) := Lib.hid (fun V L hV w9 hg => by
    have q := SC.sto (HA.out.idle (hV.alloc hV.size (.cells L 78)))
    have q2 := q.same (hg.block c.p q.lt (fun e => HNE.out c.p (by rw [HVA.out]; exact e.symm) rfl))
    rw [HVA.out] at q2
    exact ⟨q2.cell (i := 1) rfl, q2.free 1⟩)
  go_region_law (first | (go_simp; go_at_call 50; (with_reducible refine (HBe.out W0.drew).mono ?_); rintro z V ⟨bl, bs, rfl, m1, m2, hne, g1, g2, hb⟩; have hB := HBd.out.trans (hb.mono HBd.out.size); have k1 := HS.out V hB; have k2 := HS.out _ (hB.alloc hB.size (.cells (begunC iv ⟨1, etm, eco, ebl, etr, ela, ead, eva, ecd⟩ bl bs).cells.toArray 78)); simp only [begunC, Kn.begun, KC.cells] at k2) | (refine step_append_lies _ (by rfl) _ _ _ (by rfl) 0 78 i0 _ 14 144 Try.underlying72 Hi.out Hz0.out Hz1.out Hz2.out rfl (by omega) (.slice ad c.l.length cap) c.l.length (flatK c.l) (by rfl) (World.ownsRow.alloc (HRow.out V hB) _) ⟨V.heap.size, 0, none⟩ 1 1 (begunC iv ⟨1, etm, eco, ebl, etr, ela, ead, eva, ecd⟩ bl bs).cells (by rfl) (by rfl) (World.news_of_block (cs := (begunC iv ⟨1, etm, eco, ebl, etr, ela, ead, eva, ecd⟩ bl bs).cells.toArray) (t := 78) (fr := (0, 0)) (new_block V _)) (by simp [begunC, KC.cells, Value.oneCell']) (by omega) (by unfold maxLen; omega) (by omega) (by simp) (V.heap.size + 1) (by simp) ?_; intro g9 cap9 w9 hown9 hgrow9 hat9 hlt9; have kc := (HG.out V _ hB w9 hgrow9).1; have kf := (HG.out V _ hB w9 hgrow9).2))
  all_goals
    have hfin := SC.snoc HA.out (w1 := V) hB (y := begunC iv ⟨1, etm, eco, ebl, etr, ela, ead, eva, ecd⟩ bl bs) ⟨rfl, rfl, rfl, rfl⟩ m1 m2 hne g1 g2 (va' := .slice (some ⟨g9, 0, none⟩) (c.l.length + 1) cap9) hown9 (w1' := V.alloc (.cells (begunC iv ⟨1, etm, eco, ebl, etr, ela, ead, eva, ecd⟩ bl bs).cells.toArray 78)) ((Below.refl _ V).alloc (Nat.le_refl _) _) (by rw [HVA.out]; exact hgrow9) (fun k e => by
      cases e
      rw [HVA.out]
      exact hat9.imp id (fun e => by simp; omega))
    have HR := Lib.hid (show AddO w0 c (c.l.map (·.k) ++ [Kn.begun iv ⟨1, etm, eco, ebl, etr, ela, ead, eva, ecd⟩]) _ from ⟨c.l ++ [begunC iv ⟨1, etm, eco, ebl, etr, ela, ead, eva, ecd⟩ bl bs], _, by rw [List.map_append]; rfl, hfin⟩)
    have hq := (SC.sto hfin).cell (i := 1) rfl
    clear hfin hown9 hgrow9 hat9 hlt9 kc kf m1 m2 hne g1 g2 hB hb k2
    go_wp2
    go_ret
    exact ⟨rfl, HR.out⟩
end

end Go.Proofs.Ytgjbhcnadenojaa
