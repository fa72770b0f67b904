/- The directory: a request is begun. Conditions: those stated in each theorem. -/
import Derived.Test.YtnhainjdaafmiaaDoorDirN
namespace Go.Proofs.YtnhainjdaafmiaaDoor
open Go.RowKit Go.BigFrame

section
variable {w w' : World} {lo p m b L o n : Nat} {xs : List Int} {l l' : LV} {wv v : Value} {ms : List MsgV}
theorem invalidate_any (L o s : Nat) (k : KnV) (i : Int) (w : World) (h : known w L o k) (hi : k.under.line = i) (hs : s < 16) (hg : 1 < w.heap.size) (hgL : 1 ≠ L) (hT : TabAt w) :
    Calls Tryd.prog 70 #[.pointer (some ⟨L, o, none⟩), .int .u64 s] w fun e w' => ∃ v, e = .returned v ∧ DOut w.heap.size w' v ((coresL s).map (invMsg i)) ∧ known w' L o { k with phase := 3, asked := s } ∧ Only (fun _ => False) L o w w' :=
  callsIn_wide.1 (invalidate_in L o s k i w h hi hs hg hgL hT)
/-- One message in new memory. -/
theorem dout_new {lo : Nat} (W : World) (x : MsgV) (h : lo ≤ W.heap.size) : DOut lo (W.alloc (.cells x.cells.toArray 45)) (.slice (some ⟨W.heap.size, 0, none⟩) 1 1) [x] :=
  dout_one (owns_mono (owns_new W 45 11 x.cells rfl) (fun g hg => by cases hg; exact h))

set_option maxRecDepth 100000 in
set_option maxHeartbeats 1000000 in
theorem begin_own (h : DK w lo p m b L o n xs l wv) {i : Nat} (hw : LWf i l) (q : MsgV) (hq : ReqOk i q) (d : L8) (ho : l.owner ≠ -1) :
    Calls Tryd.prog 59 #[.pointer (some ⟨p, 0, none⟩), .pointer (some ⟨L, o, none⟩), .agg q.cells.toArray] w fun e w' => ∃ v, e = .returned v ∧ DPost w lo p m b L o n wv xs (l.begin q d).1 (l.begin q d).2 v w' := by
  have e1 : l.begin q d = LV.recall { l with under := q } := by unfold LV.begin; rw [if_pos ho]
  rw [e1]
  have w0 := hw.own0
  have w4 := hw.own4
  have q0 := hq.core0
  have q4 := hq.core4
  obtain ⟨c, hc⟩ : ∃ c : Nat, l.owner = c := ⟨l.owner.toNat, by omega⟩
  have HB := Lib.hid (mbox_new w q)
  have hk1 := h.kn.below HB.out.below (Nat.le_refl _)
  have ht1 := hk1.there
  have hk2 : known ((w.alloc (.cells q.cells.toArray 45)).setCells L (o + 2) q.cells) L o ({ l with under := q }.kn wv) := knownL.known (knownL.sets q.cells 2 (by rw [MsgV.len, KnV.len]; omega) hk1.list)
  have ho2 : Only (fun _ => False) L o w ((w.alloc (.cells q.cells.toArray 45)).setCells L (o + 2) q.cells) := Only.sets q.cells 2 (by rw [MsgV.len]; omega) (Only.of_below HB.out.below)
  have HR := Lib.hid HB.out.row
  have HT := Lib.hid ht1; clear ht1
  have H2 := Lib.hid (h.step (l' := { l with under := q }) hk2 ho2 rfl)
  have HO := Lib.hid ho2; clear ho2
  have c0 : ((w.alloc (.cells q.cells.toArray 45)).setCells L (o + 2) q.cells).cell? ⟨L, o, none⟩ = some (.int .i64 c) := by rw [hk2.c0]; show some (Value.int .i64 l.owner) = _; rw [hc]
  have hcn : ((c : Int) != -1) = true := by simp
  have hc4 : c < 4 := by omega
  have Hc := Lib.hid hc; clear hc
  have hlL := h.lt
  clear h hk1 hk2 HB e1 ho w0 w4 q0 q4
  go_enter Tryd.func59, Tryd.ntmps59
  go_wp2_with (first | (refine wpList_load_mid rfl 45 (.tmp 5) rfl w.heap.size 0 rfl q.cells _ ?_ Tryd.underlying45 rfl Tryd.size52 ?_; exact HR.out) | (refine wpList_store_mid rfl 45 (.tmp 11) (.tmp 9) rfl L (o + 2) q.cells.toArray rfl rfl ?_ Tryd.size52 (oneMsg _) ?_; exact HT.out; change wpList _ _ _ _ _ ((w.alloc (.cells q.cells.toArray 45)).setCells L (o + 2) q.cells)) | fail)
  refine (recallOwner_any L o ({ l with under := q }.kn wv) c _ H2.out.kn Hc.out hc4).mono ?_
  rintro e w' ⟨v, rfl, h1, h2, h3⟩
  have hf : DPost w lo p m b L o n wv xs (LV.recall { l with under := q }).1 (LV.recall { l with under := q }).2 v w' := by
    refine (DPost.of (H2.out.step (l' := (LV.recall { l with under := q }).1) ?_ h3 rfl) h1 h3).after HO.out
    have e2 : (LV.recall { l with under := q }).1.kn wv = { ({ l with under := q } : LV).kn wv with phase := 1, asked := withS 0 c } := by
      unfold LV.recall LV.kn; simp only [Hc.out, Int.toNat_natCast]
    rw [e2]; exact h2
  have Hf := Lib.hid hf; clear hf h1 h2 h3
  go_wp2
  go_ret
  exact ⟨v, rfl, Hf.out⟩

set_option maxRecDepth 100000 in
set_option maxHeartbeats 1000000 in
theorem begin_inv (h : DK w lo p m b L o n xs l wv) {i : Nat} (hw : LWf i l) (q : MsgV) (hq : ReqOk i q) (d : L8) (ho : l.owner = -1) (hk : q.kind = 2) (hs' : lessS l.sh q.core.toNat ≠ 0) :
    Calls Tryd.prog 59 #[.pointer (some ⟨p, 0, none⟩), .pointer (some ⟨L, o, none⟩), .agg q.cells.toArray] w fun e w' => ∃ v, e = .returned v ∧ DPost w lo p m b L o n wv xs (l.begin q d).1 (l.begin q d).2 v w' := by
  have e1 : l.begin q d = LV.inval { l with under := q } (lessS l.sh q.core.toNat) := by unfold LV.begin; rw [if_neg (by omega), if_pos ⟨hk, hs'⟩]
  rw [e1]
  have w0 := hw.own0
  have w4 := hw.own4
  have q0 := hq.core0
  have q4 := hq.core4
  obtain ⟨c, hc⟩ : ∃ c : Nat, q.core = c := ⟨q.core.toNat, by omega⟩
  have HB := Lib.hid (mbox_new w q)
  have hk1 := h.kn.below HB.out.below (Nat.le_refl _)
  have ht1 := hk1.there
  have hk2 : known ((w.alloc (.cells q.cells.toArray 45)).setCells L (o + 2) q.cells) L o ({ l with under := q }.kn wv) := knownL.known (knownL.sets q.cells 2 (by rw [MsgV.len, KnV.len]; omega) hk1.list)
  have ho2 : Only (fun _ => False) L o w ((w.alloc (.cells q.cells.toArray 45)).setCells L (o + 2) q.cells) := Only.sets q.cells 2 (by rw [MsgV.len]; omega) (Only.of_below HB.out.below)
  have HR := Lib.hid HB.out.row
  have HT := Lib.hid ht1; clear ht1
  have H2 := Lib.hid (h.step (l' := { l with under := q }) hk2 ho2 rfl)
  have HO := Lib.hid ho2; clear ho2
  have hlL := h.lt
  have HTb := Lib.hid (show ∀ j v, q.cells[j]? = some v → ((w.alloc (.cells q.cells.toArray 45)).setCells L (o + 2) q.cells).cell? ⟨w.heap.size, j, none⟩ = some v from fun j v hv => by
    have hb := (Tch.setCells (C := (· = L)) (.inl rfl) q.cells (o + 2) (Tch.refl _ (w.alloc (.cells q.cells.toArray 45)))).block w.heap.size (by simp) (by omega)
    rw [World.cell?_of_block (a := ⟨w.heap.size, j, none⟩) hb]
    have := HB.out.row j v hv
    rwa [Nat.zero_add] at this)
  have b0 : ((w.alloc (.cells q.cells.toArray 45)).setCells L (o + 2) q.cells).cell? ⟨w.heap.size, 0, none⟩ = some (.int .i64 2) := by rw [HTb.out 0 _ rfl, hk]
  have b1 : ((w.alloc (.cells q.cells.toArray 45)).setCells L (o + 2) q.cells).cell? ⟨w.heap.size, 1, none⟩ = some (.int .i64 c) := by rw [HTb.out 1 _ rfl, hc]
  have k0 : ((w.alloc (.cells q.cells.toArray 45)).setCells L (o + 2) q.cells).cell? ⟨L, o, none⟩ = some (.int .i64 (-1)) := by rw [hk2.c0]; show some (Value.int .i64 l.owner) = _; rw [ho]
  have k1 : ((w.alloc (.cells q.cells.toArray 45)).setCells L (o + 2) q.cells).cell? ⟨L, o + 1, none⟩ = some (.int .u64 l.sh) := hk2.c1
  have hc4 : c < 4 := by omega
  have hs := hw.sh
  have Hq := Lib.hid hq; clear hq hk
  have Hw := Lib.hid hw; clear hw
  have Hc := Lib.hid hc; clear hc
  have HLl := Lib.hid (lessS_lt l.sh hs c hc4)
  clear h hk1 hk2 HB e1 w0 w4 q0 q4 HTb
  generalize hW : ((w.alloc (.cells q.cells.toArray 45)).setCells L (o + 2) q.cells) = W2 at *
  have HW := Lib.hid hW; clear hW
  go_enter Tryd.func59, Tryd.ntmps59
  go_wp2_with (first | (refine wpList_load_mid rfl 45 (.tmp 5) rfl w.heap.size 0 rfl q.cells _ ?_ Tryd.underlying45 rfl Tryd.size52 ?_; exact HR.out) | (refine wpList_store_mid rfl 45 (.tmp 11) (.tmp 9) rfl L (o + 2) q.cells.toArray rfl rfl ?_ Tryd.size52 (oneMsg _) ?_; exact HT.out; change wpList _ _ _ _ _ ((w.alloc (.cells q.cells.toArray 45)).setCells L (o + 2) q.cells); rw [HW.out]) | fail)
  go_quiet ((go_at_call 62; exact Calls.quiet_of_same ((less_any l.sh c _ hs hc4).mono (fun _ _ h => ⟨h.1, h.2.symm⟩))))
  have HD := Lib.hid (H2.out.below (below_drewN (Below.refl _ _) nq))
  have HO2 := Lib.hid (HO.out.trans (Only.of_below (below_drewN (Below.refl W2.heap.size W2) nq)))
  have hne : ((lessS l.sh c : Nat) : Int) != 0 := by
    have := hs'
    rw [Hc.out, Int.toNat_natCast] at this
    simpa using this
  have e2 := Lib.hid (show lessS l.sh q.core.toNat = lessS l.sh c by rw [Hc.out, Int.toNat_natCast])
  clear hs'
  go_wp2_with fail
  refine (invalidate_any L o (lessS l.sh c) ({ l with under := q }.kn wv) i _ HD.out.kn Hq.out.line HLl.out HD.out.gl HD.out.gL HD.out.tab).mono ?_
  rintro e w' ⟨v, rfl, h1, h2, h3⟩
  have hf : DPost w lo p m b L o n wv xs (LV.inval { l with under := q } (lessS l.sh q.core.toNat)).1 (LV.inval { l with under := q } (lessS l.sh q.core.toNat)).2 v w' := by
    rw [e2.out]
    refine (DPost.of (HD.out.step (l' := (LV.inval { l with under := q } (lessS l.sh c)).1) h2 h3 rfl) ?_ h3).after HO2.out
    unfold LV.inval
    dsimp only
    rw [Hq.out.line]
    exact h1
  have Hf := Lib.hid hf; clear hf h1 h2 h3
  go_wp2
  go_ret
  exact ⟨v, rfl, Hf.out⟩

set_option maxRecDepth 100000 in
set_option maxHeartbeats 1000000 in
theorem begin_grant (h : DK w lo p m b L o n xs l wv) {i : Nat} (hw : LWf i l) (q : MsgV) (hq : ReqOk i q) (hi : i < n) (d : L8) (hd : lineD xs i = d) (ho : l.owner = -1) (hk : ¬ (q.kind = 2 ∧ lessS l.sh q.core.toNat ≠ 0)) :
    Calls Tryd.prog 59 #[.pointer (some ⟨p, 0, none⟩), .pointer (some ⟨L, o, none⟩), .agg q.cells.toArray] w fun e w' => ∃ v, e = .returned v ∧ DPost w lo p m b L o n wv xs (l.begin q d).1 (l.begin q d).2 v w' := by
  have e1 : l.begin q d = ((LV.grant { l with under := q } d).1, [(LV.grant { l with under := q } d).2]) := by unfold LV.begin; rw [if_neg (by omega), if_neg hk]
  rw [e1]
  have w0 := hw.own0
  have w4 := hw.own4
  have q0 := hq.core0
  have q4 := hq.core4
  obtain ⟨c, hc⟩ : ∃ c : Nat, q.core = c := ⟨q.core.toNat, by omega⟩
  have HB := Lib.hid (mbox_new w q)
  have hk1 := h.kn.below HB.out.below (Nat.le_refl _)
  have ht1 := hk1.there
  have hk2 : known ((w.alloc (.cells q.cells.toArray 45)).setCells L (o + 2) q.cells) L o ({ l with under := q }.kn wv) := knownL.known (knownL.sets q.cells 2 (by rw [MsgV.len, KnV.len]; omega) hk1.list)
  have ho2 : Only (fun _ => False) L o w ((w.alloc (.cells q.cells.toArray 45)).setCells L (o + 2) q.cells) := Only.sets q.cells 2 (by rw [MsgV.len]; omega) (Only.of_below HB.out.below)
  have HR := Lib.hid HB.out.row
  have HT := Lib.hid ht1; clear ht1
  have H2 := Lib.hid (h.step (l' := { l with under := q }) hk2 ho2 rfl)
  have HO := Lib.hid ho2; clear ho2
  have hlL := h.lt
  have HTb := Lib.hid (show ∀ j v, q.cells[j]? = some v → ((w.alloc (.cells q.cells.toArray 45)).setCells L (o + 2) q.cells).cell? ⟨w.heap.size, j, none⟩ = some v from fun j v hv => by
    have hb := (Tch.setCells (C := (· = L)) (.inl rfl) q.cells (o + 2) (Tch.refl _ (w.alloc (.cells q.cells.toArray 45)))).block w.heap.size (by simp) (by omega)
    rw [World.cell?_of_block (a := ⟨w.heap.size, j, none⟩) hb]
    have := HB.out.row j v hv
    rwa [Nat.zero_add] at this)
  have b0 := HTb.out 0 _ rfl
  have b1 : ((w.alloc (.cells q.cells.toArray 45)).setCells L (o + 2) q.cells).cell? ⟨w.heap.size, 1, none⟩ = some (.int .i64 c) := by rw [HTb.out 1 _ rfl, hc]
  have k0 : ((w.alloc (.cells q.cells.toArray 45)).setCells L (o + 2) q.cells).cell? ⟨L, o, none⟩ = some (.int .i64 (-1)) := by rw [hk2.c0]; show some (Value.int .i64 l.owner) = _; rw [ho]
  have k1 : ((w.alloc (.cells q.cells.toArray 45)).setCells L (o + 2) q.cells).cell? ⟨L, o + 1, none⟩ = some (.int .u64 l.sh) := hk2.c1
  have hc4 : c < 4 := by omega
  have hs := hw.sh
  have Hq := Lib.hid hq; clear hq
  have Hw := Lib.hid hw; clear hw
  have Hc := Lib.hid hc; clear hc
  have HLl := Lib.hid (lessS_lt l.sh hs c hc4)
  clear h hk1 hk2 HB e1 w0 w4 q0 q4 HTb
  generalize hW : ((w.alloc (.cells q.cells.toArray 45)).setCells L (o + 2) q.cells) = W2 at *
  have HW := Lib.hid hW; clear hW
  go_enter Tryd.func59, Tryd.ntmps59
  go_wp2_with (first | (refine wpList_load_mid rfl 45 (.tmp 5) rfl w.heap.size 0 rfl q.cells _ ?_ Tryd.underlying45 rfl Tryd.size52 ?_; exact HR.out) | (refine wpList_store_mid rfl 45 (.tmp 11) (.tmp 9) rfl L (o + 2) q.cells.toArray rfl rfl ?_ Tryd.size52 (oneMsg _) ?_; exact HT.out; change wpList _ _ _ _ _ ((w.alloc (.cells q.cells.toArray 45)).setCells L (o + 2) q.cells); rw [HW.out]) | fail)
  go_quiet ((go_at_call 62; exact Calls.quiet_of_same ((less_any l.sh c _ hs hc4).mono (fun _ _ h => ⟨h.1, h.2.symm⟩))))
  have HD := Lib.hid (H2.out.below (below_drewN (Below.refl _ _) nq))
  have HO2 := Lib.hid (HO.out.trans (Only.of_below (below_drewN (Below.refl W2.heap.size W2) nq)))
  have hk' : (decide (q.kind = 2) && ((lessS l.sh c : Nat) : Int) != 0) = false := by
    rw [Hc.out, Int.toNat_natCast] at hk
    by_cases h2 : q.kind = 2
    · have : lessS l.sh c = 0 := by
        by_cases e : lessS l.sh c = 0
        · exact e
        · exact absurd ⟨h2, e⟩ hk
      simp [this]
    · simp [h2]
  have Hw2 := Lib.hid (show LWf i { l with under := q } from ⟨Hw.out.own0, Hw.out.own4, Hw.out.sh, Hw.out.asked, fun _ => Hq.out, Hw.out.ms, Hw.out.apart⟩)
  have HG := Lib.hid (grant_any HD.out Hw2.out Hq.out hi d hd)
  clear hk hd
  by_cases h2 : (q.kind == 2) = true
  · have h3 : (((lessS l.sh c : Nat) : Int) != 0) = false := by
      have : decide (q.kind = 2) = true := by simpa using h2
      rw [this] at hk'; simpa using hk'
    clear hk'
    go_wp2_with fail
    refine HG.out.mono ?_
    rintro e w' ⟨rfl, h4, h5⟩
    have hf : DPost w lo p m b L o n wv xs (LV.grant { l with under := q } d).1 [(LV.grant { l with under := q } d).2] (.slice (some ⟨w'.heap.size, 0, none⟩) 1 1) (w'.alloc (.cells (LV.grant { l with under := q } d).2.cells.toArray 45)) := by
      have hs1 := HD.out.step (l' := (LV.grant { l with under := q } d).1) h4 h5 (by unfold LV.grant; split <;> rfl)
      have hb1 : Below w'.heap.size w' (w'.alloc (.cells (LV.grant { l with under := q } d).2.cells.toArray 45)) := (Below.refl _ w').alloc (Nat.le_refl _) _
      exact (DPost.of (hs1.below hb1) (dout_new w' _ h5.tch.size) (h5.trans (Only.of_below hb1))).after HO2.out
    have Hf := Lib.hid hf; clear hf h4 h5
    generalize hg : (LV.grant { l with under := q } d).2 = g at *
    obtain ⟨gk, gc, gl, gd⟩ := g
    have HG2 := Lib.hid hg; clear hg
    simp only [MsgV.cells] at Hf ⊢
    go_wp2
    go_ret
    exact ⟨_, rfl, by rw [HG2.out]; exact Hf.out⟩
  · have h2 : (q.kind == 2) = false := by simpa using h2
    clear hk'
    go_wp2_with fail
    refine HG.out.mono ?_
    rintro e w' ⟨rfl, h4, h5⟩
    have hf : DPost w lo p m b L o n wv xs (LV.grant { l with under := q } d).1 [(LV.grant { l with under := q } d).2] (.slice (some ⟨w'.heap.size, 0, none⟩) 1 1) (w'.alloc (.cells (LV.grant { l with under := q } d).2.cells.toArray 45)) := by
      have hs1 := HD.out.step (l' := (LV.grant { l with under := q } d).1) h4 h5 (by unfold LV.grant; split <;> rfl)
      have hb1 : Below w'.heap.size w' (w'.alloc (.cells (LV.grant { l with under := q } d).2.cells.toArray 45)) := (Below.refl _ w').alloc (Nat.le_refl _) _
      exact (DPost.of (hs1.below hb1) (dout_new w' _ h5.tch.size) (h5.trans (Only.of_below hb1))).after HO2.out
    have Hf := Lib.hid hf; clear hf h4 h5
    generalize hg : (LV.grant { l with under := q } d).2 = g at *
    obtain ⟨gk, gc, gl, gd⟩ := g
    have HG2 := Lib.hid hg; clear hg
    simp only [MsgV.cells] at Hf ⊢
    go_wp2
    go_ret
    exact ⟨_, rfl, by rw [HG2.out]; exact Hf.out⟩


theorem begin_any (h : DK w lo p m b L o n xs l wv) {i : Nat} (hw : LWf i l) (q : MsgV) (hq : ReqOk i q) (hi : i < n) (d : L8) (hd : lineD xs i = d) :
    Calls Tryd.prog 59 #[.pointer (some ⟨p, 0, none⟩), .pointer (some ⟨L, o, none⟩), .agg q.cells.toArray] w fun e w' => ∃ v, e = .returned v ∧ DPost w lo p m b L o n wv xs (l.begin q d).1 (l.begin q d).2 v w' := by
  by_cases ho : l.owner = -1
  · by_cases hk : q.kind = 2 ∧ lessS l.sh q.core.toNat ≠ 0
    · exact begin_inv h hw q hq d ho hk.1 hk.2
    · exact begin_grant h hw q hq hi d hd ho hk
  · exact begin_own h hw q hq d ho
end

end Go.Proofs.YtnhainjdaafmiaaDoor
