/- hist: an attempt's store. Conditions: those stated in each theorem. -/
import Derived.Test.YtgjbhcnadenojaaHisE
namespace Go.Proofs.Ytgjbhcnadenojaa
open Go.RowKit Go.BigFrame Go.Maps

section
variable {w0 w : World} {c : SC} {i g : Nat} {x : KC}
set_option maxRecDepth 100000 in
set_option maxHeartbeats 2000000 in
theorem kstore_new (h : Ap w0 w c.pf) (hx : c.l[i]? = some x) (hg : c.va.ownBlock = some g) (p : Pr) (hp : p.fit) (hl : posL x.k.st p.a = none) (hn : x.k.st.length < 1000) :
    Calls Try.prog 53 #[.pointer (some ⟨g, i * 14, none⟩), .agg #[.int .i64 p.a, .int .u64 p.v]] w fun z w' => z = .returned (.tuple #[]) ∧ KOut w0 c i (x.k.store p) w' := by
  have hk : x.k.store p = { x.k with st := x.k.st ++ [p] } := by simp only [Kn.store, hl]
  rw [hk]
  clear hk
  obtain ⟨k1, -, -, -⟩ := SC.boxed h hx hg (.cells #[.int .i64 p.a, .int .u64 p.v] 48)
  have hb0 : Holds (w.alloc (.cells #[.int .i64 p.a, .int .u64 p.v] 48)) w.heap.size 48 [.int .i64 p.a, .int .u64 p.v] := Holds.new w 48 [.int .i64 p.a, .int .u64 p.v]
  have hboxW : w.heap.size < (w.alloc (.cells #[.int .i64 p.a, .int .u64 p.v] 48)).heap.size := by simp
  go_enter Try.func53, Try.ntmps53
  generalize hW : w.alloc (.cells #[.int .i64 p.a, .int .u64 p.v] 48) = W at *
  obtain ⟨ad, cap, hlv⟩ : ∃ ad cap, x.sv = .slice ad x.k.st.length cap := by
    rcases owns_form (SC.str k1 hx) with ⟨h1, h2, _⟩ | ⟨g, cap, h1, _⟩
    · exact ⟨none, 0, by rw [h1, h2]⟩
    · exact ⟨_, _, h1⟩
  obtain ⟨capv, hva⟩ : ∃ capv, c.va = .slice (some ⟨g, 0, none⟩) c.l.length capv := by
    obtain ⟨g', cap', e⟩ := SC.va_form k1 hx
    rw [e] at hg
    cases hg
    exact ⟨_, e⟩
  have Hva := Lib.hid hva; clear hva
  have F : ∀ V, Below W.heap.size W V → (V.cell? ⟨g, i * 14 + 12, none⟩ = some (.map (some x.sb)) ∧ V.cell? ⟨g, i * 14 + 8, none⟩ = some (.slice ad x.k.st.length cap)) ∧ (V.cell? ⟨w.heap.size, 0, none⟩ = some (.int .i64 p.a) ∧ V.cell? ⟨w.heap.size, 1, none⟩ = some (.int .u64 p.v)) ∧
      (Instr.lookup 76 (.map (some x.sb)) (.int .i64 p.a) true).run Try.prog V = .ok (.tuple #[.int .i64 0, .bool false]) V := fun V hV => by
    have q := k1.idle hV
    have q2 := SC.cells q hx hg
    have e2 := (SC.stm q hx).run_ok Try.underlying76 Try.underlying3 Try.zeroI hp.1
    rw [plOf_none hl] at e2
    have hb := hb0.below hV
    exact ⟨⟨q2.c 12 rfl, by rw [← hlv]; exact q2.c 8 rfl⟩, ⟨hb.cell (i := 0) rfl, hb.cell (i := 1) rfl⟩, e2⟩
  have HF := Lib.hid F; clear F
  have Hk1 := Lib.hid k1; clear k1
  have Hb0 := Lib.hid hb0; clear hb0
  have Hx := Lib.hid hx; clear hx
  have Hg := Lib.hid hg; clear hg
  have Hp := Lib.hid hp; clear hp
  have Hl := Lib.hid hl; clear hl
  have Hlv := Lib.hid hlv; clear hlv
  clear h
  have HW := Lib.hid hW; clear hW
  go_wp2_with fail
  rw [HW.out]
  clear HW
  obtain ⟨⟨c11, c7⟩, ⟨b0, b1⟩, r2⟩ := HF.out W (Below.refl _ _)
  have R1 : ∀ n, (Instr.lookup 76 (.map (some x.sb)) (.int .i64 p.a) true).run Try.prog (W.drewN n) = .ok (.tuple #[.int .i64 0, .bool false]) (W.drewN n) := fun n => (HF.out _ (below_drewN (Below.refl _ W) n)).2.2
  go_quiet (fail)
  have hV2 := Lib.hid (below_drewN (Below.refl W.heap.size W) nq)
  clear c11 c7 b0 b1 r2 R1
  generalize W.drewN nq = W2 at *
  obtain ⟨⟨c11, c7⟩, ⟨b0, b1⟩, r2⟩ := HF.out W2 hV2.out
  go_wp2_with fail
  go_still_tail 12, (by kernel_rfl)
  change wpList _ _ _ _ _ W2.drew
  have hA2 : Ap w0 W2.drew c.pf := (Hk1.out.idle hV2.out).idle (below_drew1 (Below.refl _ _))
  obtain ⟨T1, t1, -, t3⟩ := hA2.turn (i := .stm i) (P := stmP x) (by simp [SC.pf, Hx.out])
  have Ht1 := Lib.hid t1; clear t1
  have Ht3 := Lib.hid t3; clear t3
  have hBx2 := Hb0.out.below hV2.out
  have hwW : w.heap.size < W.heap.size := hboxW
  go_wp2_with (at_mapUpdate; refine mp_put Try.underlying76 Try.underlying3 rfl _ _ _ rfl x.sb x.k.st.length (plOf x.k.st) p.a (x.k.st.length : Nat) rfl rfl rfl Ht1.out.1 Hp.out.1 (WalkArith.wf_i64 (by omega)) (by unfold maxLen; omega) ?_; intro w3 hm3 hg3)
  have hA3 : Ap w0 w3 (upd c.pf (.stm i) (mapP 3 .i64 x.sb (x.k.st.length + 1) (plOf (x.k.st ++ [p])))) := Ht3.out w3 _ (mapP.grew Ht1.out (by rw [plOf_snoc Hl.out]; exact hm3) hg3)
  have hB3 : Holds w3 w.heap.size 48 [.int .i64 p.a, .int .u64 p.v] := hBx2.same (hg3.block w.heap.size (Nat.lt_of_lt_of_le hwW hV2.out.size) (fun e => (Ht1.out.1.ne (c := w.heap.size) (show W2.drew.heap[w.heap.size]? = _ from hBx2)) (Option.some.inj e)))
  clear hm3 hg3 c11 c7 b0 b1 r2 hBx2 Ht1 Ht3
  have k0 : w3.cell? ⟨g, i * 14 + 8, none⟩ = some (.slice ad x.k.st.length cap) := by rw [← Hlv.out]; exact (att_cells hA3 rfl Hx.out Hg.out).c 8 rfl
  have k1 := hB3.cell (i := 0) rfl
  have k2 := hB3.cell (i := 1) rfl
  have hgl := World.block_lt_of_cell? _ _ k0
  have hbl := hB3.lt
  obtain ⟨i0, hi0, hz0, hz1, hz2⟩ := info_parts Try.infoPair
  have Hi := Lib.hid hi0; clear hi0
  have Hz0 := Lib.hid hz0; clear hz0
  have Hz1 := Lib.hid hz1; clear hz1
  have Hz2 := Lib.hid hz2; clear hz2
  have hA4 : Ap w0 (w3.alloc (.cells #[.int .i64 p.a, .int .u64 p.v] 48)).drew (upd c.pf (.stm i) (mapP 3 .i64 x.sb (x.k.st.length + 1) (plOf (x.k.st ++ [p])))) := hA3.idle (below_drew1 ((Below.refl _ w3).alloc (Nat.le_refl _) _))
  obtain ⟨T4, u1, -, u3⟩ := hA4.turn (i := .str i) (P := strP x) (by simp [SC.pf, upd, Hx.out])
  have HoW : Hid ((w3.alloc (.cells #[.int .i64 p.a, .int .u64 p.v] 48)).drew.ownsRow 0 48 2 (.slice ad x.k.st.length cap) x.k.st.length (flatP x.k.st)) := Lib.hid (by rw [← Hlv.out]; exact u1.1)
  have HU : Hid (∀ w1 g1 cap1, w1.ownsRow 0 48 2 (.slice (some ⟨g1, 0, none⟩) (x.k.st.length + 1) cap1) (x.k.st.length + 1) (flatP x.k.st ++ [.int .i64 p.a, .int .u64 p.v]) → World.grownBy (w3.alloc (.cells #[.int .i64 p.a, .int .u64 p.v] 48)).drew w1 (Value.slice ad x.k.st.length cap).ownBlock → ((Value.slice ad x.k.st.length cap).ownBlock = some g1 ∨ (w3.alloc (.cells #[.int .i64 p.a, .int .u64 p.v] 48)).drew.heap.size ≤ g1) →
      Ap w0 w1 (upd (upd c.pf (.stm i) (mapP 3 .i64 x.sb (x.k.st.length + 1) (plOf (x.k.st ++ [p])))) (.str i) (rowP (.slice (some ⟨g1, 0, none⟩) (x.k.st.length + 1) cap1) 48 2 (x.k.st.length + 1) (flatP x.k.st ++ [.int .i64 p.a, .int .u64 p.v])))) := Lib.hid (fun w1 g1 cap1 h1 h2 h3 => u3 w1 _ (rowP.grew u1 h1 (by rw [Hlv.out]; exact h2) (fun g' e => by cases e; rw [Hlv.out]; exact h3)))
  have HK : Hid (∀ w1, World.grownBy (w3.alloc (.cells #[.int .i64 p.a, .int .u64 p.v] 48)).drew w1 (Value.slice ad x.k.st.length cap).ownBlock → w1.cell? ⟨g, i * 14 + 8, none⟩ = some (.slice ad x.k.st.length cap) ∧ w1.frozen? ⟨g, i * 14 + 8, none⟩ = false) := Lib.hid (fun w1 hgr => by
    have a1 := (att_cells hA4 rfl Hx.out Hg.out)
    have hne : ∀ k, (Value.slice ad x.k.st.length cap).ownBlock = some k → k ≠ g := fun k e e2 => by
      subst e2
      obtain ⟨c1, hc1⟩ := owns_kind HoW.out e
      obtain ⟨T5, ⟨v1, _⟩, _⟩ := hA4.get (i := .att) rfl
      obtain ⟨c2, hc2⟩ := owns_kind v1 Hg.out
      rw [hc1] at hc2; cases hc2
    have ba : w1.heap[g]? = (w3.alloc (.cells #[.int .i64 p.a, .int .u64 p.v] 48)).drew.heap[g]? := hgr.block g (by show g < (w3.alloc _).heap.size; rw [World.size_alloc]; exact Nat.lt_succ_of_lt hgl) (fun e => hne g e.symm rfl)
    have a2 := a1.same ba 8 _ rfl
    rw [Hlv.out] at a2
    exact a2)
  clear u1 u3 hA4
  have HA3 := Lib.hid hA3; clear hA3
  have HB3 := Lib.hid hB3; clear hB3
  go_frame
  go_region_law ((refine step_append_lies _ (by rfl) _ _ _ (by rfl) 0 48 i0 _ 2 16 Try.underlying43 Hi.out Hz0.out Hz1.out Hz2.out rfl (by omega) (.slice ad x.k.st.length cap) x.k.st.length (flatP x.k.st) (by rfl) HoW.out ⟨w3.heap.size, 0, none⟩ 1 1 [.int .i64 p.a, .int .u64 p.v] (by rfl) (by rfl) (World.news_of_block (cs := #[.int .i64 p.a, .int .u64 p.v]) (t := 48) (fr := (0, 0)) (new_block w3 _)) (by simp [Value.oneCell']) (by omega) (by unfold maxLen; omega) (by omega) (by simp) (w3.heap.size + 1) (by simp) ?_; intro g1 cap1 w5 hown5 hgrow hat hlt; have kk := (HK.out w5 hgrow).1; have kf := (HK.out w5 hgrow).2))
  all_goals
    have hA5 := HU.out w5 g1 cap1 hown5 hgrow (hat.imp id (fun e => by simp; omega))
    have hA6 := att_set (g := g) (n := c.l.length) (cap := capv) (y := { x with k := { x.k with st := x.k.st ++ [p] }, sv := .slice (some ⟨g1, 0, none⟩) (x.k.st.length + 1) cap1 }) (v := .slice (some ⟨g1, 0, none⟩) (x.k.st.length + 1) cap1) hA5 (by simp only [upd, SC.pf, reduceCtorEq, if_false, Hva.out]) Hx.out (j := 8) (by omega) rfl
    have hA7 := hA6.cong (pf' := { c with l := c.l.set i { x with k := { x.k with st := x.k.st ++ [p] }, sv := .slice (some ⟨g1, 0, none⟩) (x.k.st.length + 1) cap1 } }.pf) (fun m => by
      have e := List.getElem?_eq_some_iff.1 Hx.out
      cases m <;> simp only [SC.pf, upd, reduceCtorEq, if_false, if_true, List.length_set, Hva.out, List.getElem?_set, Ix.str.injEq, Ix.stm.injEq]
      all_goals
        split
        · rename_i hm; subst hm; simp [e.1, ldrP, ldmP, strP, stmP, flatP_snoc, e.2]
        · rename_i hm; first | rfl | simp [Ne.symm hm])
    have HK7 := Lib.hid (show KOut w0 c i { x.k with st := x.k.st ++ [p] } _ from ⟨_, rfl, hA7⟩)
    clear hA5 hA6 hA7 hown5 hgrow hat hlt kk kf
    go_wp2
    exact bodyPost_ret (results_none rfl _ _ _) rfl ⟨rfl, HK7.out⟩
end

end Go.Proofs.Ytgjbhcnadenojaa
