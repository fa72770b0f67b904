/- hist: Judge. Conditions: those stated in each theorem. -/
import Derived.Test.YtgjbhcnadenojaaHisW
import Derived.TacticsInMore
namespace Go.Proofs.Ytgjbhcnadenojaa
open Go.RowKit Go.BigFrame Go.Maps Go.Shelf
attribute [local go_sem] Oper.semAt_some
attribute [local simp] wide_fn

/-- What Judge answers. -/
def judgeP (h : List Ev) (first : List Int) : Int × Bool × Int := match readH h with
  | none => (0, false, 120)
  | some s => match judgeFrom ⟨first, Mp.none⟩ 0 (moments h s) with
    | none => (0, true, 0)
    | some i => ((i : Nat), false, 0)
def triV (r : Int × Bool × Int) : Value := .tuple #[.int .i64 r.1, .bool r.2.1, .int .i64 r.2.2]

theorem WmAt.own {β : Type} {B mp ml : Nat} {fv : Value} (f : β → Nat) (g : β → Wd) (hB : ml < B) : OwnFrom B (fun s W => WmAt W mp ml (f s) fv (g s)) := fun s X Y row hs hg hr => by
  have hne : ∀ q, (∃ (cs : Array Value) (t : TypeId) (fr : Nat × Nat), X.heap[q]? = some (Obj.cells cs t fr)) → Y.heap[q]? = X.heap[q]? := fun q ⟨cs, t, fr, hq⟩ => hg.block q (Array.getElem?_eq_some_iff.1 hq).1 (fun e => by
    obtain ⟨o, ho, hc⟩ := (hr q e.symm).2
    rw [hq] at ho; cases ho; cases hc)
  obtain ⟨h1, h2, a, cap, h3, h4⟩ := hs
  refine ⟨h1.same (hne mp ⟨_, _, _, h1⟩), h2.same (hg.block ml h2.lt (fun e => by have := (hr ml e.symm).1; omega)), a, cap, h3, ?_⟩
  rcases h4 with h4 | ⟨q, o, rfl, hq, h4⟩
  · exact .inl h4
  · by_cases he : (g s).first = []
    · exact .inl he
    · obtain ⟨v, l, hv⟩ := List.exists_cons_of_ne_nil he
      have hc := h4 0 v (by rw [hv]; rfl) 0 _ rfl
      refine rows_same (.inr ⟨q, o, rfl, hq, h4⟩) hg.size (fun q' c' e => ?_)
      cases e
      refine hne q ?_
      cases ho : X.heap[q]? with
      | none => simp [World.cell?, ho] at hc
      | some ob =>
        cases ob with
        | cells cs t fr => exact ⟨_, _, _, rfl⟩
        | _ => simp [World.cell?, ho] at hc

/-- Three boxes. -/
def Box3 (W : World) (n0 : Nat) (x : Int) (y : Bool) (z : Int) : Prop := Holds W n0 3 [.int .i64 x] ∧ Holds W (n0 + 1) 4 [.bool y] ∧ Holds W (n0 + 2) 24 [.int .i64 z]
theorem Box3.set {W : World} {n0 : Nat} {x : Int} {y : Bool} {z : Int} (h : Box3 W n0 x y z) (x' : Int) (y' : Bool) (z' : Int) : Box3 (((W.setCell ⟨n0, 0, none⟩ (.int .i64 x')).setCell ⟨n0 + 1, 0, none⟩ (.bool y')).setCell ⟨n0 + 1 + 1, 0, none⟩ (.int .i64 z')) n0 x' y' z' := by
  obtain ⟨h0, h1, h2⟩ := h
  exact ⟨((h0.set 0 _).other (p := ⟨n0 + 1, 0, none⟩) (by simp) _).other (p := ⟨n0 + 1 + 1, 0, none⟩) (by simp; omega) _,
    ((h1.other (p := ⟨n0, 0, none⟩) (by simp) _).set 0 _).other (p := ⟨n0 + 1 + 1, 0, none⟩) (by simp) _,
    ((h2.other (p := ⟨n0, 0, none⟩) (by simp) _).other (p := ⟨n0 + 1, 0, none⟩) (by simp) _).set 0 _⟩
theorem Box3.putObj {W : World} {n0 : Nat} {x : Int} {y : Bool} {z : Int} (h : Box3 W n0 x y z) {l : Nat} {o : Obj} (hl : W.heap[l]? = some o) (ho : o.isCells = false) (o' : Obj) : Box3 (W.putObj l o') n0 x y z :=
  ⟨h.1.putObj hl ho o', h.2.1.putObj hl ho o', h.2.2.putObj hl ho o'⟩
theorem Box3.below {W W' : World} {n0 : Nat} {x : Int} {y : Bool} {z : Int} (h : Box3 W n0 x y z) (hb : Below W.heap.size W W') : Box3 W' n0 x y z := ⟨h.1.below hb, h.2.1.below hb, h.2.2.below hb⟩
theorem Box3.tch {C : Nat → Prop} {W W' : World} {n0 : Nat} {x : Int} {y : Bool} {z : Int} (h : Box3 W n0 x y z) (hb : Tch C W W') (hC : ¬ C n0 ∧ ¬ C (n0 + 1) ∧ ¬ C (n0 + 2)) : Box3 W' n0 x y z := ⟨hb.holds hC.1 h.1, hb.holds hC.2.1 h.2.1, hb.holds hC.2.2 h.2.2⟩
theorem Box3.run {W : World} {n0 : Nat} {x : Int} {y : Bool} {z : Int} (h : Box3 W n0 x y z) : (loadVar 3 ⟨n0, 0, none⟩).run Try.prog W = .ok (.int .i64 x) W ∧ (loadVar 4 ⟨n0 + 1, 0, none⟩).run Try.prog W = .ok (.bool y) W ∧ (loadVar 24 ⟨n0 + 1 + 1, 0, none⟩).run Try.prog W = .ok (.int .i64 z) W := by
  have c0 := h.1.cell (i := 0) rfl
  have c1 := h.2.1.cell (i := 0) rfl
  have c2 := h.2.2.cell (i := 0) rfl
  exact ⟨by simp [loadVar, Sem.run_bind, Try.isAgg3, c0], by simp [loadVar, Sem.run_bind, Try.isAgg4, c1], by simp [loadVar, Sem.run_bind, Try.isAgg24, c2]⟩
theorem Box3.facts {W : World} {n0 : Nat} {x : Int} {y : Bool} {z : Int} (h : Box3 W n0 x y z) : W.cell? ⟨n0, 0, none⟩ = some (.int .i64 x) ∧ W.frozen? ⟨n0, 0, none⟩ = false ∧ W.cell? ⟨n0 + 1, 0, none⟩ = some (.bool y) ∧ W.frozen? ⟨n0 + 1, 0, none⟩ = false ∧ W.cell? ⟨n0 + 1 + 1, 0, none⟩ = some (.int .i64 z) ∧ W.frozen? ⟨n0 + 1 + 1, 0, none⟩ = false :=
  ⟨h.1.cell rfl, h.1.free 0, h.2.1.cell rfl, h.2.1.free 0, h.2.2.cell rfl, h.2.2.free 0⟩
theorem Box3.own {β : Type} (B n0 : Nat) (x : Int) (y : Bool) (z : Int) : OwnFrom B (fun (_ : β) W => Box3 W n0 x y z) := fun s X Y row hs hg hr =>
  ⟨ownFrom_holds B n0 _ (fun _ : β => [.int .i64 x]) s X Y row hs.1 hg hr, ownFrom_holds B (n0 + 1) _ (fun _ : β => [.bool y]) s X Y row hs.2.1 hg hr, ownFrom_holds B (n0 + 2) _ (fun _ : β => [.int .i64 z]) s X Y row hs.2.2 hg hr⟩
/-- Between two rounds of Judge. -/
def JdI (C : Nat → Prop) (W0 : World) (lo mid B : Nat) (c : SC) (h : List Ev) (mp ml : Nat) (fv : Value) (m0 : Wd) (pre : List Nat) (W : World) : Prop :=
  Tch C W0 W ∧ StoR lo mid B W c h ∧ Box3 W lo 0 false 0 ∧ WmAt W mp ml (1001 * pre.length) fv (finalM m0 ((moments h c.rd).take pre.length)) ∧ judgeFrom m0 0 (moments h c.rd) = judgeFrom (finalM m0 ((moments h c.rd).take pre.length)) pre.length ((moments h c.rd).drop pre.length)
/-- Where a round has left. -/
def JdX (C : Nat → Prop) (W0 : World) (n0 : Nat) (c : SC) (h : List Ev) (m0 : Wd) (cd : Code) (_ : List Nat) (W : World) : Prop :=
  (cd = .ret ∧ ∃ i : Nat, judgeFrom m0 0 (moments h c.rd) = some i ∧ Box3 W n0 (i : Nat) false 0) ∧ Tch C W0 W
theorem jdI_own {C : Nat → Prop} {W0 : World} {lo mid B : Nat} {c : SC} {h : List Ev} {mp ml : Nat} {fv : Value} {m0 : Wd} (hB : B ≤ W0.heap.size) (hm : ml < W0.heap.size) : OwnFrom W0.heap.size (JdI C W0 lo mid B c h mp ml fv m0) :=
  OwnFrom.and (ownFrom_tch (Nat.le_refl _)) (OwnFrom.and (StoR.own hB) (OwnFrom.and (Box3.own _ lo 0 false 0) (fun s X Y row hs hg hr => ⟨WmAt.own (fun s : List Nat => 1001 * s.length) (fun s => finalM m0 ((moments h c.rd).take s.length)) hm s X Y row hs.1 hg hr, hs.2⟩)))
theorem jdX_own {C : Nat → Prop} {W0 : World} {n0 : Nat} {c : SC} {h : List Ev} {m0 : Wd} (cd : Code) : OwnFrom W0.heap.size (JdX C W0 n0 c h m0 cd) := fun s X Y row hs hg hr => by
  obtain ⟨⟨h1, i, h3, h4⟩, h2⟩ := hs
  exact ⟨⟨h1, i, h3, Box3.own _ n0 _ _ _ s X Y row h4 hg hr⟩, ownFrom_tch (Nat.le_refl _) s X Y row h2 hg hr⟩
theorem leaf_pre {n k : Nat} {pre rest : List Nat} (h : List.range n = pre ++ k :: rest) : pre.length = k ∧ k < n := by
  have h1 := congrArg (fun s => s[pre.length]?) h
  have h2 : pre.length < n := by
    have := congrArg List.length h
    simp at this; omega
  simp [h2] at h1
  omega
theorem box3_new (w : World) : Box3 (((w.alloc (.cells #[.int .i64 0] 3)).alloc (.cells #[.bool false] 4)).alloc (.cells #[.int .i64 0] 24)) w.heap.size 0 false 0 ∧ Below w.heap.size w (((w.alloc (.cells #[.int .i64 0] 3)).alloc (.cells #[.bool false] 4)).alloc (.cells #[.int .i64 0] 24)) ∧ (((w.alloc (.cells #[.int .i64 0] 3)).alloc (.cells #[.bool false] 4)).alloc (.cells #[.int .i64 0] 24)).heap.size = w.heap.size + 3 := by
  refine ⟨⟨((Holds.new w 3 [.int .i64 0]).alloc _).alloc _, ?_, ?_⟩, (((Below.refl _ w).alloc (Nat.le_refl _) _).alloc (by simp) _).alloc (by simp; omega) _, by simp⟩
  · have := (Holds.new (w.alloc (.cells #[.int .i64 0] 3)) 4 [.bool false]).alloc (.cells #[.int .i64 0] 24)
    rwa [World.size_alloc] at this
  · have := Holds.new ((w.alloc (.cells #[.int .i64 0] 3)).alloc (.cells #[.bool false] 4)) 24 [.int .i64 0]
    rwa [World.size_alloc, World.size_alloc] at this
theorem below_three {W : World} {N n0 : Nat} {A : World} (h : Below N A W) (hn : N ≤ n0) (a b c : Value) : Below N A (((W.setCell ⟨n0, 0, none⟩ a).setCell ⟨n0 + 1, 0, none⟩ b).setCell ⟨n0 + 1 + 1, 0, none⟩ c) :=
  ((h.setCell (p := ⟨n0, 0, none⟩) hn _).setCell (p := ⟨n0 + 1, 0, none⟩) (Nat.le_succ_of_le hn) _).setCell (p := ⟨n0 + 1 + 1, 0, none⟩) (Nat.le_succ_of_le (Nat.le_succ_of_le hn)) _

set_option maxRecDepth 100000 in
set_option maxHeartbeats 4000000 in
theorem judge_in {a b : Option Addr} {cap cap2 : Nat} {h : List Ev} {first : List Int} (w : World) (hr : RowsIn w a 9 Ev.cells h) (hl : h.length ≤ 900) (hf : ∀ e ∈ h, e.fit) (hr2 : RowsIn w b 1 ucell first) :
    CallsIn Fence.wide 9 Try.prog 17 #[.slice a h.length cap, .slice b first.length cap2] w fun z w' => ∃ v, z = .returned v ∧ v = triV (judgeP h first) ∧ Below w.heap.size w w' := by
  have Hr := Lib.hid hr; clear hr
  have Hr2 := Lib.hid hr2; clear hr2
  have Hf := Lib.hid hf; clear hf
  have Hq := Lib.hid (box3_new w)
  refine callsIn_of_wp_marks Try.func17 rfl trivial ?_ rfl
  simp only [Try.ntmps17, List.size_toArray, List.length_cons, List.length_nil, Nat.reduceAdd, Nat.reduceSub, Array.replicate_succ, Array.replicate_zero, List.push_toArray, List.append_toArray, List.nil_append, List.cons_append]
  gi_wp2_with (fail)
  generalize ((w.alloc (.cells #[.int .i64 0] 3)).alloc (.cells #[.bool false] 4)).alloc (.cells #[.int .i64 0] 24) = Wa at *
  obtain ⟨hq, hba, hz⟩ := Hq.out
  clear Hq
  have HQ := Lib.hid hq; clear hq
  have HBa := Lib.hid hba; clear hba
  have HZ := Lib.hid hz; clear hz
  refine (callsIn_wide.2 (read_any Wa (Hr.out.below HBa.out) hl Hf.out)).mono ?_
  rintro z w1 (⟨hn, rfl, hb⟩ | ⟨c, hrd, rfl, hev, hri, hap⟩)
  · have hq1 := HQ.out.below (hb.mono (Nat.le_refl _))
    have hB := HBa.out.trans (hb.mono (by have := HZ.out; omega))
    have HB := Lib.hid hB; clear hB hb
    obtain ⟨p0, f0, p1, f1, p2, f2⟩ := hq1.facts
    have HQ1 := Lib.hid hq1; clear hq1
    have hj : judgeP h first = (0, false, 120) := by unfold judgeP; rw [hn]
    clear hn
    gi_wp2
    obtain ⟨r0, r1, r2⟩ := (HQ1.out.set 0 false 120).run
    exact ⟨_, results_ccc rfl rfl rfl rfl r0 r1 r2, _, rfl, by rw [hj]; rfl, below_three HB.out (Nat.le_refl _) _ _ _⟩
  · have hs1 : StoR w.heap.size Wa.heap.size w1.heap.size w1 c h := StoR.of hrd hri hap hev (rows_lo Hr.out HBa.out) HBa.out.size hl Hf.out
    have hb1 : Below Wa.heap.size Wa w1 := hap.below
    have HS1 := Lib.hid hs1; clear hs1
    have HB1 := Lib.hid hb1; clear hb1
    have HRD := Lib.hid hrd; clear hrd
    clear hev hri hap
    gi_wp2_with (first | (gi_at_call 35; refine (callsIn_wide.2 (fresh_any (cap := cap2) (Hr2.out.below (HBa.out.trans (HB1.out.mono HBa.out.size))))).mono ?_; rintro z w2 ⟨mp, ml, rfl, hm2, hml, hmp, hb2⟩; have Hm2 := Lib.hid hm2; have Hml := Lib.hid hml; have Hb2 := Lib.hid hb2; clear hm2 hml hmp hb2) | (gi_at_call 27; refine (callsIn_wide.2 (moments_any c.p _)).mono ?_; rintro z w3 ⟨rfl, rfl⟩))
    have hW0s : ((w2.alloc (.cells #[.pointer (some ⟨mp, 0, none⟩)] 94)).alloc (.cells #[.pointer (some ⟨c.p, 0, none⟩)] 69)).heap.size = w2.heap.size + 2 := by simp
    have hbW : Below w2.heap.size w2 ((w2.alloc (.cells #[.pointer (some ⟨mp, 0, none⟩)] 94)).alloc (.cells #[.pointer (some ⟨c.p, 0, none⟩)] 69)) := ((Below.refl _ w2).alloc (Nat.le_refl _) _).alloc (by simp) _
    have hnb : Holds ((w2.alloc (.cells #[.pointer (some ⟨mp, 0, none⟩)] 94)).alloc (.cells #[.pointer (some ⟨c.p, 0, none⟩)] 69)) w2.heap.size 94 [.pointer (some ⟨mp, 0, none⟩)] := (Holds.new w2 94 [.pointer (some ⟨mp, 0, none⟩)]).alloc _
    have hBc : ((w2.alloc (.cells #[.pointer (some ⟨mp, 0, none⟩)] 94)).alloc (.cells #[.pointer (some ⟨c.p, 0, none⟩)] 69)).cell? ⟨w2.heap.size + 1, 0, none⟩ = some (.pointer (some ⟨c.p, 0, none⟩)) := by
      have := (Holds.new (w2.alloc (.cells #[.pointer (some ⟨mp, 0, none⟩)] 94)) 69 [.pointer (some ⟨c.p, 0, none⟩)]).cell (i := 0) rfl
      rwa [World.size_alloc] at this
    generalize ((w2.alloc (.cells #[.pointer (some ⟨mp, 0, none⟩)] 94)).alloc (.cells #[.pointer (some ⟨c.p, 0, none⟩)] 69)) = W0 at *
    have hs2 : StoR w.heap.size Wa.heap.size w1.heap.size W0 c h := (HS1.out.next Hb2.out).next hbW
    have hm0 := Hm2.out.below hbW
    have hq0 : Box3 W0 w.heap.size 0 false 0 := ((HQ.out.below (HB1.out.mono (Nat.le_refl _))).below Hb2.out).below hbW
    have hbel0 : Below w.heap.size w W0 := ((HBa.out.trans (HB1.out.mono HBa.out.size)).trans (Hb2.out.mono (Nat.le_trans HBa.out.size HB1.out.size))).trans (hbW.mono (Nat.le_trans HBa.out.size (Nat.le_trans HB1.out.size Hb2.out.size)))
    have hz := HZ.out
    have hz1 := HB1.out.size
    have hz2 := Hb2.out.size
    have hml := Hml.out
    have hmllt := hm0.map.lt
    have hml2 := Hm2.out.map.lt
    have Hz := Lib.hid (And.intro hz (And.intro hz1 (And.intro hz2 (And.intro hml (And.intro hml2 hW0s)))))
    have Hmlt := Lib.hid hmllt
    have Hs2 := Lib.hid hs2; clear hs2
    have Hm0 := Lib.hid hm0; clear hm0
    have Hq0 := Lib.hid hq0; clear hq0
    have Hnb := Lib.hid hnb; clear hnb
    have Hbel0 := Lib.hid hbel0; clear hbel0
    have HBc := Lib.hid hBc; clear hBc
    clear hz hz1 hz2 hml hmllt hml2 hW0s hbW HS1 HB1 Hm2 Hml Hb2 HQ HZ
    have hCF : ∀ k, (W0.heap.size ≤ k ∨ k = ml ∨ k = w.heap.size ∨ k = w.heap.size + 1 ∨ k = w.heap.size + 2) → Free w.heap.size Wa.heap.size w1.heap.size k := fun k hk => by
      obtain ⟨z1, z2, z3, z4, z5, z6⟩ := Hz.out
      unfold Free
      omega
    have HCF := Lib.hid hCF; clear hCF
    refine each_own rfl rfl (gf := 43) (lb := #[.pointer (some ⟨w2.heap.size + 1, 0, none⟩)]) rfl trivial (enters_of Try.func43 (by kernel_rfl) rfl)
      (moments_each (fun k => W0.heap.size ≤ k ∨ k = ml ∨ k = w.heap.size ∨ k = w.heap.size + 1 ∨ k = w.heap.size + 2) _ W0 (fun _ h => .inl h) HCF.out Hs2.out HBc.out (fun e => by obtain ⟨z1, z2, z3, z4, z5, z6⟩ := Hz.out; omega)) kpC_t (kpC_b (.inl (by omega))) (fun _ => rfl)
      (JdI (fun k => W0.heap.size ≤ k ∨ k = ml ∨ k = w.heap.size ∨ k = w.heap.size + 1 ∨ k = w.heap.size + 2) W0 w.heap.size Wa.heap.size w1.heap.size c h mp ml (.slice b first.length cap2) ⟨first, Mp.none⟩) (JdX (fun k => W0.heap.size ≤ k ∨ k = ml ∨ k = w.heap.size ∨ k = w.heap.size + 1 ∨ k = w.heap.size + 2) W0 w.heap.size c h ⟨first, Mp.none⟩)
      (jdI_own (by obtain ⟨z1, z2, z3, z4, z5, z6⟩ := Hz.out; omega) Hmlt.out) jdX_own ⟨Tch.refl _ _, Hs2.out, Hq0.out, by simpa [finalM] using Hm0.out, by simp [finalM]⟩ ?round ?done ?stop
    case round =>
      rintro pre k rest W hx hl hi
      obtain ⟨rfl, hk⟩ := leaf_pre hx
      obtain ⟨e, hxk⟩ : ∃ e, h[pre.length]? = some e := ⟨_, List.getElem?_eq_getElem hk⟩
      have hem := List.mem_of_getElem? hxk
      have hmay : e.may = true := go_may h _ _ _ HRD.out e hem
      have hfe := Hf.out e hem
      have hgd : h.getD pre.length Ev.zero = e := by simp [List.getD, hxk]
      have hpi := hp_is Hs2.out hk
      obtain ⟨hpo, hhpo⟩ : ∃ hpo, (moAt h c.rd pre.length).hp = hpo := ⟨_, rfl⟩
      have hmo : moAt h c.rd pre.length = ⟨e, c.pl.getD pre.length 0, hpo⟩ := by rw [← hhpo, ← hgd]; rfl
      rw [hhpo] at hpi
      have hmc : moCells c h pre.length = [.int .i64 e.k, .int .i64 e.tm, .int .i64 e.co, .int .i64 e.bl, .int .i64 e.tr, .int .i64 e.la, .int .i64 e.ad, .int .u64 e.va, .int .i64 e.cd, .int .i64 (c.pl.getD pre.length 0), c.hp (c.pl.getD pre.length 0) pre.length] := by unfold moCells; rw [hgd]; rfl
      have hja := judge_at (m := finalM ⟨first, Mp.none⟩ ((moments h c.rd).take pre.length)) hk c.rd
      have hfa := final_at (m := ⟨first, Mp.none⟩) hk c.rd
      rw [hmo] at hja hfa
      obtain ⟨mw, hmw⟩ : ∃ mw, finalM ⟨first, Mp.none⟩ ((moments h c.rd).take pre.length) = mw := ⟨_, rfl⟩
      obtain ⟨pl, hpl⟩ : ∃ pl, c.pl.getD pre.length 0 = pl := ⟨_, rfl⟩
      obtain ⟨po, hv⟩ : ∃ po, c.hp pl pre.length = .pointer po := by unfold SC.hp; split <;> exact ⟨_, rfl⟩
      rw [hpl] at hmo hmc hpi hja hfa
      rw [hv] at hmc hpi
      rw [hmw] at hja hfa
      have HEX : Hid (∀ V n, StoR w.heap.size Wa.heap.size w1.heap.size V c h → WmAt V mp ml n (.slice b first.length cap2) mw → Calls Try.prog 36 #[.pointer (some ⟨mp, 0, none⟩), moVal e pl (.pointer po)] V fun z w' => z = .returned (.bool (mw.explains ⟨e, pl, hpo⟩)) ∧ Below V.heap.size V w') := Lib.hid (fun V n h1 h2 => explains_any h1 h2 e hfe hmay pl hpi)
      have HPA : Hid (∀ V, StoR w.heap.size Wa.heap.size w1.heap.size V c h → WmAt V mp ml (1001 * pre.length) (.slice b first.length cap2) mw → Calls Try.prog 37 #[.pointer (some ⟨mp, 0, none⟩), moVal e pl (.pointer po)] V fun z w' => z = .returned (.tuple #[]) ∧ WmAt w' mp ml (1001 * pre.length + 1001) (.slice b first.length cap2) (mw.pass ⟨e, pl, hpo⟩) ∧ Tch (fun k => k = ml) V w') := Lib.hid (fun V h1 h2 => mpass_any h1 (HCF.out ml (.inr (.inl rfl))) h2 (by omega) e hfe pl hpi)
      unfold encM RoundOwes
      rw [hmc]
      have Hja := Lib.hid hja; clear hja
      have Hfa := Lib.hid hfa; clear hfa
      have Hmw := Lib.hid hmw; clear hmw
      clear hx hl hxk hem hmay hfe hgd hpi hhpo hmo hmc hpl hv
      obtain ⟨ek, etm, eco, ebl, etr, ela, ead, eva, ecd⟩ := e
      have Hi := Lib.hid hi; clear hi
      dsimp only
      have bW : Below W.heap.size W (W.alloc (.cells #[.int .i64 ek, .int .i64 etm, .int .i64 eco, .int .i64 ebl, .int .i64 etr, .int .i64 ela, .int .i64 ead, .int .u64 eva, .int .i64 ecd, .int .i64 pl, .pointer po] 85)) := (Below.refl _ W).alloc (Nat.le_refl _) _
      have hT1 : Tch (fun k => W0.heap.size ≤ k ∨ k = ml ∨ k = w.heap.size ∨ k = w.heap.size + 1 ∨ k = w.heap.size + 2) W (W.alloc (.cells #[.int .i64 ek, .int .i64 etm, .int .i64 eco, .int .i64 ebl, .int .i64 etr, .int .i64 ela, .int .i64 ead, .int .u64 eva, .int .i64 ecd, .int .i64 pl, .pointer po] 85)) := Tch.of_idle bW
      have hX := jdI_own (C := fun k => W0.heap.size ≤ k ∨ k = ml ∨ k = w.heap.size ∨ k = w.heap.size + 1 ∨ k = w.heap.size + 2) (lo := w.heap.size) (mid := Wa.heap.size) (B := w1.heap.size) (c := c) (h := h) (mp := mp) (fv := .slice b first.length cap2) (m0 := ⟨first, Mp.none⟩) (by obtain ⟨z1, z2, z3, z4, z5, z6⟩ := Hz.out; omega) Hmlt.out pre W _ none Hi.out (grown_below bW) (fun r e => by cases e)
      have hB1 : Holds (W.alloc (.cells #[.int .i64 ek, .int .i64 etm, .int .i64 eco, .int .i64 ebl, .int .i64 etr, .int .i64 ela, .int .i64 ead, .int .u64 eva, .int .i64 ecd, .int .i64 pl, .pointer po] 85)) W.heap.size 85 [.int .i64 ek, .int .i64 etm, .int .i64 eco, .int .i64 ebl, .int .i64 etr, .int .i64 ela, .int .i64 ead, .int .u64 eva, .int .i64 ecd, .int .i64 pl, .pointer po] := Holds.new W _ _
      have hKF : KeepsFrom W0.heap.size W (W.alloc (.cells #[.int .i64 ek, .int .i64 etm, .int .i64 eco, .int .i64 ebl, .int .i64 etr, .int .i64 ela, .int .i64 ead, .int .u64 eva, .int .i64 ecd, .int .i64 pl, .pointer po] 85)) := ⟨bW.size, fun k o _ hk _ => (bW.block k (Array.getElem?_eq_some_iff.1 hk).1).trans hk⟩
      have HX := Lib.hid (And.intro hX hB1)
      have HT1 := Lib.hid (And.intro hKF hT1)
      have hsz : W0.heap.size ≤ W.heap.size := Hi.out.1.size
      have Hsz := Lib.hid hsz
      clear bW hX hB1 hT1 hKF hsz
      gi_wp2
      refine ⟨HT1.out.1, HT1.out.2, fun V => JdI (fun k => W0.heap.size ≤ k ∨ k = ml ∨ k = w.heap.size ∨ k = w.heap.size + 1 ∨ k = w.heap.size + 2) W0 w.heap.size Wa.heap.size w1.heap.size c h mp ml (.slice b first.length cap2) ⟨first, Mp.none⟩ pre V ∧ Holds V W.heap.size 85 [.int .i64 ek, .int .i64 etm, .int .i64 eco, .int .i64 ebl, .int .i64 etr, .int .i64 ela, .int .i64 ead, .int .u64 eva, .int .i64 ecd, .int .i64 pl, .pointer po], fun u Y Z row hs hg hr => ⟨jdI_own (by obtain ⟨z1, z2, z3, z4, z5, z6⟩ := Hz.out; omega) Hmlt.out pre Y Z row hs.1 hg hr, ownFrom_holds W0.heap.size W.heap.size _ (fun _ : Unit => [.int .i64 ek, .int .i64 etm, .int .i64 eco, .int .i64 ebl, .int .i64 etr, .int .i64 ela, .int .i64 ead, .int .u64 eva, .int .i64 ecd, .int .i64 pl, .pointer po]) () Y Z row hs.2 hg hr⟩, HX.out, ?_⟩
      rintro W2 - - ⟨⟨hT2, hS2, hQ2, hM2, hJ2⟩, hbx2⟩
      rw [Hmw.out] at hM2 hJ2
      have hn2 : Holds W2 w2.heap.size 94 [.pointer (some ⟨mp, 0, none⟩)] := hT2.holds (fun e => by obtain ⟨z1, z2, z3, z4, z5, z6⟩ := Hz.out; omega) Hnb.out
      have hB2l : W.heap.size < W2.heap.size := hbx2.lt
      have x9 := hn2.cell (i := 0) rfl
      have y0 := hbx2.cell (i := 0) rfl
      have y1 := hbx2.cell (i := 1) rfl
      have y2 := hbx2.cell (i := 2) rfl
      have y3 := hbx2.cell (i := 3) rfl
      have y4 := hbx2.cell (i := 4) rfl
      have y5 := hbx2.cell (i := 5) rfl
      have y6 := hbx2.cell (i := 6) rfl
      have y7 := hbx2.cell (i := 7) rfl
      have y8 := hbx2.cell (i := 8) rfl
      have y10 := hbx2.cell (i := 10) rfl
      have y11 := hbx2.cell (i := 9) rfl
      have HT2 := Lib.hid hT2; clear hT2
      have HS2 := Lib.hid hS2; clear hS2
      have HQ2 := Lib.hid hQ2; clear hQ2
      have HM2 := Lib.hid hM2; clear hM2
      have HJ2 := Lib.hid hJ2; clear hJ2
      have Hn2 := Lib.hid hn2; clear hn2
      have Hbx2 := Lib.hid hbx2; clear hbx2
      have HEX2 := Lib.hid (HEX.out W2 _ HS2.out HM2.out)
      unfold moVal at HEX2 HPA
      simp only at HEX2 HPA
      obtain ⟨bb, hbb⟩ : ∃ bb, mw.explains ⟨⟨ek, etm, eco, ebl, etr, ela, ead, eva, ecd⟩, pl, hpo⟩ = bb := ⟨_, rfl⟩
      rw [hbb] at HEX2 Hja
      have HH3 : Hid (∀ V, Below W2.heap.size W2 V → V.cell? ⟨w2.heap.size, 0, none⟩ = some (.pointer (some ⟨mp, 0, none⟩)) ∧ Holds V W.heap.size 85 [.int .i64 ek, .int .i64 etm, .int .i64 eco, .int .i64 ebl, .int .i64 etr, .int .i64 ela, .int .i64 ead, .int .u64 eva, .int .i64 ecd, .int .i64 pl, .pointer po] ∧ Box3 V w.heap.size 0 false 0) := Lib.hid (fun V hV => ⟨(Hn2.out.below hV).cell (i := 0) rfl, Hbx2.out.below hV, HQ2.out.below hV⟩)
      have hji : judgeFrom ⟨first, Mp.none⟩ 0 (moments h c.rd) = if bb then judgeFrom (mw.pass ⟨⟨ek, etm, eco, ebl, etr, ela, ead, eva, ecd⟩, pl, hpo⟩) (pre.length + 1) ((moments h c.rd).drop (pre.length + 1)) else some pre.length := HJ2.out.trans Hja.out
      have HJI := Lib.hid hji; clear hji hbb
      cases bb
      · gi_wp2_with (gi_at_call 36; refine (CallsIn.inRound _ (callsIn_wide.2 HEX2.out)).mono ?_; rintro z w3 ⟨rfl, hb3⟩; obtain ⟨p0, f0, p1, f1, p2, f2⟩ := (HH3.out w3 hb3).2.2.facts; have Hb3 := Lib.hid hb3; clear hb3; clear x9 y0 y1 y2 y3 y4 y5 y6 y7 y8 y10 y11)
        have hT3 : Tch (fun k => k = w.heap.size ∨ k = w.heap.size + 1 ∨ k = w.heap.size + 2) W2 (((w3.setCell ⟨w.heap.size, 0, none⟩ (.int .i64 (pre.length : Nat))).setCell ⟨w.heap.size + 1, 0, none⟩ (.bool false)).setCell ⟨w.heap.size + 1 + 1, 0, none⟩ (.int .i64 0)) :=
          (((Tch.of_idle Hb3.out).setCell (p := ⟨w.heap.size, 0, none⟩) (.inl (.inl rfl)) _).setCell (p := ⟨w.heap.size + 1, 0, none⟩) (.inl (.inr (.inl rfl))) _).setCell (p := ⟨w.heap.size + 1 + 1, 0, none⟩) (.inl (.inr (.inr rfl))) _
        have hT4 := hT3.mono (D := (fun k => W0.heap.size ≤ k ∨ k = ml ∨ k = w.heap.size ∨ k = w.heap.size + 1 ∨ k = w.heap.size + 2)) (fun k _ h => .inr (.inr h))
        exact ⟨hT3.keepsFrom (fun k o h hk _ => by obtain ⟨z1, z2, z3, z4, z5, z6⟩ := Hz.out; omega), hT4, ⟨rfl, pre.length, HJI.out, (HH3.out w3 Hb3.out).2.2.set _ _ _⟩, HT2.out.trans hT4⟩
      · gi_wp2_with (first
          | (gi_at_call 36; refine (CallsIn.inRound _ (callsIn_wide.2 HEX2.out)).mono ?_; rintro z w3 ⟨rfl, hb3⟩; obtain ⟨x9', hbx3, -⟩ := HH3.out w3 hb3; have Hb3 := Lib.hid hb3; have Hbx3 := Lib.hid hbx3; clear hb3 hbx3; clear x9 y0 y1 y2 y3 y4 y5 y6 y7 y8 y10 y11; have y0 := Hbx3.out.cell (i := 0) rfl; have y1 := Hbx3.out.cell (i := 1) rfl; have y2 := Hbx3.out.cell (i := 2) rfl; have y3 := Hbx3.out.cell (i := 3) rfl; have y4 := Hbx3.out.cell (i := 4) rfl; have y5 := Hbx3.out.cell (i := 5) rfl; have y6 := Hbx3.out.cell (i := 6) rfl; have y7 := Hbx3.out.cell (i := 7) rfl; have y8 := Hbx3.out.cell (i := 8) rfl; have y9 := Hbx3.out.cell (i := 9) rfl; have y10 := Hbx3.out.cell (i := 10) rfl)
          | (gi_at_call 37; refine (CallsIn.inRound _ (callsIn_wide.2 (HPA.out w3 (HS2.out.next Hb3.out) (HM2.out.below Hb3.out)))).mono ?_; rintro z w4 ⟨rfl, hm4, ht4⟩; have Hm4 := Lib.hid hm4; have Ht4 := Lib.hid ht4; clear hm4 ht4))
        have hT3 : Tch (fun k => k = ml) W2 w4 := (Tch.of_idle Hb3.out).trans Ht4.out
        have hT4 := hT3.mono (D := (fun k => W0.heap.size ≤ k ∨ k = ml ∨ k = w.heap.size ∨ k = w.heap.size + 1 ∨ k = w.heap.size + 2)) (fun k _ h => .inr (.inl h))
        refine ⟨hT3.keepsFrom (fun k o h hk _ => by have := Hmlt.out; omega), hT4, HT2.out.trans hT4, HS2.out.frame hT4 HCF.out, HQ2.out.tch hT3 ⟨fun e => ?_, fun e => ?_, fun e => ?_⟩, ?_, ?_⟩
        · obtain ⟨z1, z2, z3, z4, z5, z6⟩ := Hz.out; omega
        · obtain ⟨z1, z2, z3, z4, z5, z6⟩ := Hz.out; omega
        · obtain ⟨z1, z2, z3, z4, z5, z6⟩ := Hz.out; omega
        · rw [List.length_append, List.length_singleton, Hfa.out]; exact Hm4.out
        · rw [List.length_append, List.length_singleton, Hfa.out]; exact HJI.out
    case done =>
      rintro W ⟨hT, -, hq, -, hjd⟩ hK
      rw [List.length_range, judge_end] at hjd
      have hj : judgeP h first = (0, true, 0) := by unfold judgeP; rw [HRD.out]; simp only; rw [hjd]
      obtain ⟨p0, f0, p1, f1, p2, f2⟩ := hq.facts
      have HQ1 := Lib.hid hq; clear hq
      have HK := Lib.hid hK; clear hK
      have HT := Lib.hid hT; clear hT
      clear hjd
      have hbl : Below w.heap.size w W := Hbel0.out.trans (HT.out.below Hbel0.out.size (fun k h => by obtain ⟨z1, z2, z3, z4, z5, z6⟩ := Hz.out; omega))
      have HBL := Lib.hid hbl; clear hbl
      have hlt : W0.heap.size < W.heap.size := (Array.getElem?_eq_some_iff.1 HK.out).1
      gi_wp2
      have hq2 := HQ1.out.set 0 true 0
      have hK2 : ((((W.setCell ⟨w.heap.size, 0, none⟩ (.int .i64 0)).setCell ⟨w.heap.size + 1, 0, none⟩ (.bool true)).setCell ⟨w.heap.size + 1 + 1, 0, none⟩ (.int .i64 0))).heap[W0.heap.size]? = some (.deferred (some [])) := by
        obtain ⟨z1, z2, z3, z4, z5, z6⟩ := Hz.out
        rw [Below.heap_setCell _ _ _ _ (show W0.heap.size ≠ w.heap.size + 1 + 1 by omega), Below.heap_setCell _ _ _ _ (show W0.heap.size ≠ w.heap.size + 1 by omega), Below.heap_setCell _ _ _ _ (show W0.heap.size ≠ w.heap.size by omega)]
        exact HK.out
      obtain ⟨r0, r1, r2⟩ := (hq2.putObj hK2 rfl (.deferred none)).run
      exact leaves_mark hK2 ⟨_, results_ccc rfl rfl rfl rfl r0 r1 r2, _, rfl, by rw [hj]; rfl, (below_three HBL.out (Nat.le_refl _) _ _ _).trans (belowK_b (w := W0) Hbel0.out.size _ W0.heap.size _ _ (Nat.le_refl _) hK2 rfl rfl)⟩
    case stop =>
      rintro cd pre W hp ⟨⟨rfl, i, hji, hq⟩, hT⟩ hK
      have hj : judgeP h first = ((i : Int), false, 0) := by unfold judgeP; rw [HRD.out]; simp only; rw [hji]
      have HQ1 := Lib.hid hq; clear hq
      have HK := Lib.hid hK; clear hK
      have HT := Lib.hid hT; clear hT
      clear hji
      have hbl : Below w.heap.size w W := Hbel0.out.trans (HT.out.below Hbel0.out.size (fun k h => by obtain ⟨z1, z2, z3, z4, z5, z6⟩ := Hz.out; omega))
      have HBL := Lib.hid hbl; clear hbl
      gi_wp2
      obtain ⟨r0, r1, r2⟩ := (HQ1.out.putObj HK.out rfl (.deferred none)).run
      exact leaves_mark HK.out ⟨_, results_ccc rfl rfl rfl rfl r0 r1 r2, _, rfl, by rw [hj]; rfl, HBL.out.trans (belowK_b (w := W0) Hbel0.out.size _ W0.heap.size _ _ (Nat.le_refl _) HK.out rfl rfl)⟩

end Go.Proofs.Ytgjbhcnadenojaa
