/- hist: an attempt's load of a new word. Conditions: those stated in each theorem. -/
import Derived.Test.YtgjbhcnadenojaaHisD
import Derived.TacticsInMore
namespace Go.Proofs.Ytgjbhcnadenojaa
open Go.RowKit Go.BigFrame Go.Maps

theorem Try.infoPair : (Try.prog.info? 48).map (fun i => (i.zero, i.size, i.bytes)) = some (some (.agg #[.int .i64 0, .int .u64 0]), 2, 16) := by kernel_rfl
theorem plOf_snoc {l : List Pr} {p : Pr} (h : posL l p.a = none) : plOf (l ++ [p]) = (plOf l).put p.a (l.length : Nat) := by
  funext a
  unfold plOf Mp.put
  rw [posL_snoc]
  by_cases ha : a = p.a
  · subst ha; rw [h]; simp
  · rw [if_neg ha]
    cases hq : posL l a with
    | some i => simp [hq]
    | none => simp [hq, Ne.symm ha]

section
variable {w0 w : World} {c : SC} {i g : Nat} {x : KC}
theorem att_cells {pf : Ix → Option Part} {va : Value} {l : List KC} {n : Nat} (h : Ap w0 w pf) (ha : pf .att = some (rowP va 78 14 n (flatK l))) (hx : l[i]? = some x) (hg : va.ownBlock = some g) : CellsAt w g (i * 14) x.cells := fun j v hv => by
  obtain ⟨T, ⟨h1, _⟩, _⟩ := h.get ha
  exact owns_cell h1 hg (flatK_at hx hv)
theorem att_set {pf : Ix → Option Part} {l : List KC} {n cap : Nat} {y : KC} (h : Ap w0 w pf) (ha : pf .att = some (rowP (.slice (some ⟨g, 0, none⟩) n cap) 78 14 n (flatK l))) (hx : l[i]? = some x) {j : Nat} (hj : j < 14) {v : Value} (hv : x.cells.set j v = y.cells) :
    Ap w0 (w.setCell ⟨g, i * 14 + j, none⟩ v) (upd pf .att (rowP (.slice (some ⟨g, 0, none⟩) n cap) 78 14 n (flatK (l.set i y)))) := by
  obtain ⟨T, k1, _, k3⟩ := h.turn ha
  have k4 := k3 _ _ (rowP.set k1 (i * 14 + j) v)
  rwa [flatK_set hx hj hv] at k4

set_option maxRecDepth 100000 in
set_option maxHeartbeats 2000000 in
theorem kload_new (h : Ap w0 w c.pf) (hx : c.l[i]? = some x) (hg : c.va.ownBlock = some g) (p : Pr) (hp : p.fit) (hs : posL x.k.st p.a = none) (hl : posL x.k.ld p.a = none) (hn : x.k.ld.length < 1000) :
    Calls Try.prog 52 #[.pointer (some ⟨g, i * 14, none⟩), .agg #[.int .i64 p.a, .int .u64 p.v]] w fun z w' => z = .returned (.tuple #[]) ∧ KOut w0 c i (x.k.load p) w' := by
  have hk : x.k.load p = { x.k with ld := x.k.ld ++ [p] } := by simp only [Kn.load, hs, hl]
  rw [hk]
  clear hk
  obtain ⟨k1, -, -, -⟩ := SC.boxed h hx hg (.cells #[.int .i64 p.a, .int .u64 p.v] 48)
  have hb0 : Holds (w.alloc (.cells #[.int .i64 p.a, .int .u64 p.v] 48)) w.heap.size 48 [.int .i64 p.a, .int .u64 p.v] := Holds.new w 48 [.int .i64 p.a, .int .u64 p.v]
  have hboxW : w.heap.size < (w.alloc (.cells #[.int .i64 p.a, .int .u64 p.v] 48)).heap.size := by simp
  go_enter Try.func52, Try.ntmps52
  generalize hW : w.alloc (.cells #[.int .i64 p.a, .int .u64 p.v] 48) = W at *
  obtain ⟨ad, cap, hlv⟩ : ∃ ad cap, x.lv = .slice ad x.k.ld.length cap := by
    rcases owns_form (SC.ldr k1 hx) with ⟨h1, h2, _⟩ | ⟨g, cap, h1, _⟩
    · exact ⟨none, 0, by rw [h1, h2]⟩
    · exact ⟨_, _, h1⟩
  obtain ⟨capv, hva⟩ : ∃ capv, c.va = .slice (some ⟨g, 0, none⟩) c.l.length capv := by
    obtain ⟨g', cap', e⟩ := SC.va_form k1 hx
    rw [e] at hg
    cases hg
    exact ⟨_, e⟩
  have Hva := Lib.hid hva; clear hva
  have F : ∀ V, Below W.heap.size W V → (V.cell? ⟨g, i * 14 + 12, none⟩ = some (.map (some x.sb)) ∧ V.cell? ⟨g, i * 14 + 11, none⟩ = some (.map (some x.lb)) ∧ V.cell? ⟨g, i * 14 + 7, none⟩ = some (.slice ad x.k.ld.length cap)) ∧ (V.cell? ⟨w.heap.size, 0, none⟩ = some (.int .i64 p.a) ∧ V.cell? ⟨w.heap.size, 1, none⟩ = some (.int .u64 p.v)) ∧
      (Instr.lookup 76 (.map (some x.sb)) (.int .i64 p.a) true).run Try.prog V = .ok (.tuple #[.int .i64 0, .bool false]) V ∧ (Instr.lookup 76 (.map (some x.lb)) (.int .i64 p.a) true).run Try.prog V = .ok (.tuple #[.int .i64 0, .bool false]) V := fun V hV => by
    have q := k1.idle hV
    have q2 := SC.cells q hx hg
    have e1 := (SC.stm q hx).run_ok Try.underlying76 Try.underlying3 Try.zeroI hp.1
    have e2 := (SC.ldm q hx).run_ok Try.underlying76 Try.underlying3 Try.zeroI hp.1
    rw [plOf_none hs] at e1
    rw [plOf_none hl] at e2
    have hb := hb0.below hV
    exact ⟨⟨q2.c 12 rfl, q2.c 11 rfl, by rw [← hlv]; exact q2.c 7 rfl⟩, ⟨hb.cell (i := 0) rfl, hb.cell (i := 1) rfl⟩, e1, e2⟩
  have HF := Lib.hid F; clear F
  have Hk1 := Lib.hid k1; clear k1
  have Hb0 := Lib.hid hb0; clear hb0
  have Hx := Lib.hid hx; clear hx
  have Hg := Lib.hid hg; clear hg
  have Hp := Lib.hid hp; clear hp
  have Hl := Lib.hid hl; clear hl
  have Hlv := Lib.hid hlv; clear hlv
  clear h hs
  have HW := Lib.hid hW; clear hW
  go_wp2_with fail
  rw [HW.out]
  clear HW
  obtain ⟨⟨c12, c11, c7⟩, ⟨b0, b1⟩, r1, r2⟩ := HF.out W (Below.refl _ _)
  have R1 : ∀ n, (Instr.lookup 76 (.map (some x.sb)) (.int .i64 p.a) true).run Try.prog (W.drewN n) = .ok (.tuple #[.int .i64 0, .bool false]) (W.drewN n) := fun n => (HF.out _ (below_drewN (Below.refl _ W) n)).2.2.1
  go_quiet (fail)
  have hV1 := Lib.hid (below_drewN (Below.refl W.heap.size W) nq)
  clear c12 c11 c7 b0 b1 r1 r2 R1
  generalize W.drewN nq = W1 at *
  obtain ⟨⟨c12, c11, c7⟩, ⟨b0, b1⟩, r1, r2⟩ := HF.out W1 hV1.out
  have R1 : ∀ n, (Instr.lookup 76 (.map (some x.lb)) (.int .i64 p.a) true).run Try.prog (W1.drewN n) = .ok (.tuple #[.int .i64 0, .bool false]) (W1.drewN n) := fun n => (HF.out _ (below_drewN hV1.out n)).2.2.2
  go_wp2_with fail
  go_quiet (fail)
  have hV2 := Lib.hid (below_drewN hV1.out nq)
  clear c12 c11 c7 b0 b1 r1 r2 R1
  generalize W1.drewN nq = W2 at *
  obtain ⟨⟨c12, c11, c7⟩, ⟨b0, b1⟩, r1, r2⟩ := HF.out W2 hV2.out
  go_wp2_with fail
  go_still_tail 12, (by kernel_rfl)
  change wpList _ _ _ _ _ W2.drew
  have hA2 : Ap w0 W2.drew c.pf := (Hk1.out.idle hV2.out).idle (below_drew1 (Below.refl _ _))
  obtain ⟨T1, t1, -, t3⟩ := hA2.turn (i := .ldm i) (P := ldmP x) (by simp [SC.pf, Hx.out])
  have Ht1 := Lib.hid t1; clear t1
  have Ht3 := Lib.hid t3; clear t3
  have hBx2 := Hb0.out.below hV2.out
  have hwW : w.heap.size < W.heap.size := hboxW
  go_wp2_with (at_mapUpdate; refine mp_put Try.underlying76 Try.underlying3 rfl _ _ _ rfl x.lb x.k.ld.length (plOf x.k.ld) p.a (x.k.ld.length : Nat) rfl rfl rfl Ht1.out.1 Hp.out.1 (WalkArith.wf_i64 (by omega)) (by unfold maxLen; omega) ?_; intro w3 hm3 hg3)
  have hA3 : Ap w0 w3 (upd c.pf (.ldm i) (mapP 3 .i64 x.lb (x.k.ld.length + 1) (plOf (x.k.ld ++ [p])))) := Ht3.out w3 _ (mapP.grew Ht1.out (by rw [plOf_snoc Hl.out]; exact hm3) hg3)
  have hB3 : Holds w3 w.heap.size 48 [.int .i64 p.a, .int .u64 p.v] := hBx2.same (hg3.block w.heap.size (Nat.lt_of_lt_of_le hwW hV2.out.size) (fun e => (Ht1.out.1.ne (c := w.heap.size) (show W2.drew.heap[w.heap.size]? = _ from hBx2)) (Option.some.inj e)))
  clear hm3 hg3 c12 c11 c7 b0 b1 r1 r2 hBx2 Ht1 Ht3
  have k0 : w3.cell? ⟨g, i * 14 + 7, none⟩ = some (.slice ad x.k.ld.length cap) := by rw [← Hlv.out]; exact (att_cells hA3 rfl Hx.out Hg.out).c 7 rfl
  have k1 := hB3.cell (i := 0) rfl
  have k2 := hB3.cell (i := 1) rfl
  have hgl := World.block_lt_of_cell? _ _ k0
  have hbl := hB3.lt
  obtain ⟨i0, hi0, hz0, hz1, hz2⟩ := info_parts Try.infoPair
  have Hi := Lib.hid hi0; clear hi0
  have Hz0 := Lib.hid hz0; clear hz0
  have Hz1 := Lib.hid hz1; clear hz1
  have Hz2 := Lib.hid hz2; clear hz2
  have hA4 : Ap w0 (w3.alloc (.cells #[.int .i64 p.a, .int .u64 p.v] 48)).drew (upd c.pf (.ldm i) (mapP 3 .i64 x.lb (x.k.ld.length + 1) (plOf (x.k.ld ++ [p])))) := hA3.idle (below_drew1 ((Below.refl _ w3).alloc (Nat.le_refl _) _))
  obtain ⟨T4, u1, -, u3⟩ := hA4.turn (i := .ldr i) (P := ldrP x) (by simp [SC.pf, upd, Hx.out])
  have HoW : Hid ((w3.alloc (.cells #[.int .i64 p.a, .int .u64 p.v] 48)).drew.ownsRow 0 48 2 (.slice ad x.k.ld.length cap) x.k.ld.length (flatP x.k.ld)) := Lib.hid (by rw [← Hlv.out]; exact u1.1)
  have HU : Hid (∀ w1 g1 cap1, w1.ownsRow 0 48 2 (.slice (some ⟨g1, 0, none⟩) (x.k.ld.length + 1) cap1) (x.k.ld.length + 1) (flatP x.k.ld ++ [.int .i64 p.a, .int .u64 p.v]) → World.grownBy (w3.alloc (.cells #[.int .i64 p.a, .int .u64 p.v] 48)).drew w1 (Value.slice ad x.k.ld.length cap).ownBlock → ((Value.slice ad x.k.ld.length cap).ownBlock = some g1 ∨ (w3.alloc (.cells #[.int .i64 p.a, .int .u64 p.v] 48)).drew.heap.size ≤ g1) →
      Ap w0 w1 (upd (upd c.pf (.ldm i) (mapP 3 .i64 x.lb (x.k.ld.length + 1) (plOf (x.k.ld ++ [p])))) (.ldr i) (rowP (.slice (some ⟨g1, 0, none⟩) (x.k.ld.length + 1) cap1) 48 2 (x.k.ld.length + 1) (flatP x.k.ld ++ [.int .i64 p.a, .int .u64 p.v])))) := Lib.hid (fun w1 g1 cap1 h1 h2 h3 => u3 w1 _ (rowP.grew u1 h1 (by rw [Hlv.out]; exact h2) (fun g' e => by cases e; rw [Hlv.out]; exact h3)))
  have HK : Hid (∀ w1, World.grownBy (w3.alloc (.cells #[.int .i64 p.a, .int .u64 p.v] 48)).drew w1 (Value.slice ad x.k.ld.length cap).ownBlock → w1.cell? ⟨g, i * 14 + 7, none⟩ = some (.slice ad x.k.ld.length cap) ∧ w1.frozen? ⟨g, i * 14 + 7, none⟩ = false) := Lib.hid (fun w1 hgr => by
    have a1 := (att_cells hA4 rfl Hx.out Hg.out)
    have hne : ∀ k, (Value.slice ad x.k.ld.length cap).ownBlock = some k → k ≠ g := fun k e e2 => by
      subst e2
      obtain ⟨c1, hc1⟩ := owns_kind HoW.out e
      obtain ⟨T5, ⟨v1, _⟩, _⟩ := hA4.get (i := .att) rfl
      obtain ⟨c2, hc2⟩ := owns_kind v1 Hg.out
      rw [hc1] at hc2; cases hc2
    have ba : w1.heap[g]? = (w3.alloc (.cells #[.int .i64 p.a, .int .u64 p.v] 48)).drew.heap[g]? := hgr.block g (by show g < (w3.alloc _).heap.size; rw [World.size_alloc]; exact Nat.lt_succ_of_lt hgl) (fun e => hne g e.symm rfl)
    have a2 := a1.same ba 7 _ rfl
    rw [Hlv.out] at a2
    exact a2)
  clear u1 u3 hA4
  have HA3 := Lib.hid hA3; clear hA3
  have HB3 := Lib.hid hB3; clear hB3
  go_frame
  go_region_law ((refine step_append_lies _ (by rfl) _ _ _ (by rfl) 0 48 i0 _ 2 16 Try.underlying43 Hi.out Hz0.out Hz1.out Hz2.out rfl (by omega) (.slice ad x.k.ld.length cap) x.k.ld.length (flatP x.k.ld) (by rfl) HoW.out ⟨w3.heap.size, 0, none⟩ 1 1 [.int .i64 p.a, .int .u64 p.v] (by rfl) (by rfl) (World.news_of_block (cs := #[.int .i64 p.a, .int .u64 p.v]) (t := 48) (fr := (0, 0)) (new_block w3 _)) (by simp [Value.oneCell']) (by omega) (by unfold maxLen; omega) (by omega) (by simp) (w3.heap.size + 1) (by simp) ?_; intro g1 cap1 w5 hown5 hgrow hat hlt; have kk := (HK.out w5 hgrow).1; have kf := (HK.out w5 hgrow).2))
  all_goals
    have hA5 := HU.out w5 g1 cap1 hown5 hgrow (hat.imp id (fun e => by simp; omega))
    have hA6 := att_set (g := g) (n := c.l.length) (cap := capv) (y := { x with k := { x.k with ld := x.k.ld ++ [p] }, lv := .slice (some ⟨g1, 0, none⟩) (x.k.ld.length + 1) cap1 }) (v := .slice (some ⟨g1, 0, none⟩) (x.k.ld.length + 1) cap1) hA5 (by simp only [upd, SC.pf, reduceCtorEq, if_false, Hva.out]) Hx.out (j := 7) (by omega) rfl
    have hA7 := hA6.cong (pf' := { c with l := c.l.set i { x with k := { x.k with ld := x.k.ld ++ [p] }, lv := .slice (some ⟨g1, 0, none⟩) (x.k.ld.length + 1) cap1 } }.pf) (fun m => by
      have e := List.getElem?_eq_some_iff.1 Hx.out
      cases m <;> simp only [SC.pf, upd, reduceCtorEq, if_false, if_true, List.length_set, Hva.out, List.getElem?_set, Ix.ldr.injEq, Ix.ldm.injEq]
      all_goals
        split
        · rename_i hm; subst hm; simp [e.1, ldrP, ldmP, strP, stmP, flatP_snoc, e.2]
        · rename_i hm; first | rfl | simp [Ne.symm hm])
    have HK7 := Lib.hid (show KOut w0 c i { x.k with ld := x.k.ld ++ [p] } _ from ⟨_, rfl, hA7⟩)
    clear hA5 hA6 hA7 hown5 hgrow hat hlt kk kf
    go_wp2
    exact bodyPost_ret (results_none rfl _ _ _) rfl ⟨rfl, HK7.out⟩
end

end Go.Proofs.Ytgjbhcnadenojaa
