/- hist: Races. Conditions: those stated in each theorem. -/
import Derived.Test.YtgjbhcnadenojaaRacA
namespace Go.Proofs.Ytgjbhcnadenojaa
open Go.RowKit Go.BigFrame Go.Maps Go.Shelf
attribute [local go_sem] Oper.semAt_some
attribute [local simp] wide_fn

set_option maxRecDepth 100000 in
set_option maxHeartbeats 1000000 in
theorem opass_any {w : World} {b n : Nat} {o : Mp} (h : MpAt w 3 .i64 b n o) (e : Ev) (he : e.fit) (pl : Int) (hp : (Lit.int .i64 pl).wf = true) (hn : n < 100000) :
    Calls Try.prog 30 #[.map (some b), e.val, .int .i64 pl] w fun z w' => z = .returned (.tuple #[]) ∧ MpAt w' 3 .i64 b (n + 1) (passO o e pl) ∧ Tch (fun k => k = b) w w' := by
  have hB : EvBox (w.alloc (.cells e.cells.toArray 61)) w.heap.size e := .of (Holds.new _ _ _)
  have hb1 : Below w.heap.size w (w.alloc (.cells e.cells.toArray 61)) := (Below.refl _ w).alloc (Nat.le_refl _) _
  have t1 : MpAt (w.alloc (.cells e.cells.toArray 61)) 3 .i64 b n o := h.same (hb1.block _ h.lt)
  have Ht1 := Lib.hid t1; clear t1
  have HT : Hid (∀ w' f', MpAt w' 3 .i64 b (n + 1) f' → World.grownBy (w.alloc (.cells e.cells.toArray 61)) w' (some b) → MpAt w' 3 .i64 b (n + 1) f' ∧ Tch (fun k => k = b) w w') := Lib.hid (fun w' f' h1 h2 => ⟨h1, (Tch.of_idle hb1).grown h2 (fun k e => by cases e; exact .inl rfl)⟩)
  have H0 : Hid (MpAt (w.alloc (.cells e.cells.toArray 61)) 3 .i64 b (n + 1) o ∧ Tch (fun k => k = b) w (w.alloc (.cells e.cells.toArray 61))) := Lib.hid ⟨Ht1.out.more (Nat.le_succ _), Tch.of_idle hb1⟩
  have HF := Lib.hid he
  have HP := Lib.hid hp
  clear he hp h hb1
  obtain ⟨ek, etm, eco, ebl, etr, ela, ead, eva, ecd⟩ := e
  obtain ⟨b0, -, b2, -, -, -, -, -, -⟩ := hB
  simp only [Ev.cells] at b0 b2 Ht1 HT H0 HF
  unfold Ev.val
  by_cases e1 : ek = 1
  · subst e1
    go_enter Try.func30, Try.ntmps30
    go_wp2_with (at_mapUpdate; refine mp_put Try.underlying79 Try.underlying3 rfl _ _ _ rfl b n o eco pl rfl rfl rfl Ht1.out HF.out.1 HP.out (by unfold maxLen; omega) ?_; intro w3 hm3 hg3; have HR := Lib.hid (HT.out w3 _ hm3 hg3); clear hm3 hg3)
    go_end0
    exact ⟨rfl, HR.out⟩
  · have b1 : (ek == 1) = false := by simpa using e1
    by_cases e5 : ek = 5
    · subst e5
      go_enter Try.func30, Try.ntmps30
      go_wp2_with (at_delete; refine mp_del Try.underlying79 rfl _ _ rfl b n o eco rfl rfl Ht1.out HF.out.1 ?_; intro w3 hm3 hg3; have HR := Lib.hid (HT.out w3 _ (hm3.more (Nat.le_succ _)) hg3); clear hm3 hg3)
      go_end0
      exact ⟨rfl, HR.out⟩
    · have b5 : (ek == 5) = false := by simpa using e5
      by_cases e6 : ek = 6
      · subst e6
        go_enter Try.func30, Try.ntmps30
        go_wp2_with (at_delete; refine mp_del Try.underlying79 rfl _ _ rfl b n o eco rfl rfl Ht1.out HF.out.1 ?_; intro w3 hm3 hg3; have HR := Lib.hid (HT.out w3 _ (hm3.more (Nat.le_succ _)) hg3); clear hm3 hg3)
        go_end0
        exact ⟨rfl, HR.out⟩
      · have b6 : (ek == 6) = false := by simpa using e6
        have hk : passO o ⟨ek, etm, eco, ebl, etr, ela, ead, eva, ecd⟩ pl = o := by simp only [passO, if_neg e1, if_neg e5, if_neg e6]
        rw [hk]
        clear hk e1 e5 e6
        go_enter Try.func30, Try.ntmps30
        go_wp2
        go_end0
        exact ⟨rfl, H0.out⟩


/-- Where a beginning's place stands. -/
theorem go_pl : ∀ (h : List Ev) (s s' : Rd) (i : Nat), s.go i h = some s' → ∃ P, s'.pl = s.pl ++ P ∧ P.length = h.length ∧ ∀ k e, h[k]? = some e → e.k = 1 → P.getD k 0 ≠ -1
  | [], s, s', i, hs => by rw [Rd.go] at hs; cases hs; exact ⟨[], by simp, rfl, fun k e h => by simp at h⟩
  | x :: r, s, s', i, hs => by
    rw [Rd.go] at hs
    split at hs
    · obtain ⟨P, h1, h2, h3⟩ := go_pl r _ _ _ hs
      refine ⟨s.place x :: P, by rw [h1]; simp [Rd.step], by simp [h2], fun k e hk he => ?_⟩
      cases k with
      | zero =>
        simp at hk
        subst hk
        have hp : plainK x.k = false := by rw [he]; rfl
        simp only [List.getD_cons_zero, Rd.place, hp, Bool.false_eq_true, if_false, if_pos he]
        omega
      | succ k => simpa using h3 k e (by simpa using hk) he
    · cases hs
theorem OpOk.pass {o : Mp} {n : Nat} (h : OpOk o n) {e : Ev} (hm : e.may = true) {pl : Int} (hp : e.k = 1 → ∃ j : Nat, pl = j ∧ j < n) : OpOk (passO o e pl) n := by
  have hc := Ev.may_core hm
  unfold passO
  split
  · rename_i h1
    refine ⟨fun a v hv => ?_, fun a v hv => ?_⟩
    · unfold Mp.put at hv
      split at hv
      · rename_i ha; rw [ha]; exact hc
      · exact h.co a v hv
    · unfold Mp.put at hv
      split at hv
      · cases hv; exact hp h1
      · exact h.pl a v hv
  · have hd : OpOk (o.del e.co) n := ⟨fun a v hv => by
      unfold Mp.del at hv
      split at hv
      · cases hv
      · exact h.co a v hv, fun a v hv => by
      unfold Mp.del at hv
      split at hv
      · cases hv
      · exact h.pl a v hv⟩
    split
    · exact hd
    · split
      · exact hd
      · exact h
/-- What Races answers. -/
def racesP (h : List Ev) : Int × Bool × Int := match readH h with
  | none => (0, false, 120)
  | some s => match racesFrom s.ks Mp.none 0 (moments h s) with
    | none => (0, false, 0)
    | some i => ((i : Nat), true, 0)
theorem races_at {h : List Ev} {k : Nat} (hk : k < h.length) (s : Rd) (ks : List Kn) (o : Mp) : racesFrom ks o k ((moments h s).drop k) = if plainK (moAt h s k).e.k && meets ks o (moAt h s k).e.ad then some k else racesFrom ks (passO o (moAt h s k).e (moAt h s k).pl) (k + 1) ((moments h s).drop (k + 1)) := by
  obtain ⟨hl, he⟩ := List.getElem?_eq_some_iff.1 (moments_at hk s)
  rw [List.drop_eq_getElem_cons hl, racesFrom, he]
theorem MpAt.own {β : Type} {B b : Nat} (f : β → Nat) (o : Mp) (hB : b < B) : OwnFrom B (fun s W => MpAt W 3 .i64 b (f s) o) := fun s X Y row hs hg hr =>
  hs.same (hg.block b hs.lt (fun e => by have := (hr b e.symm).1; omega))
/-- Between two rounds of Races. -/
def RcI (C : Nat → Prop) (W0 : World) (lo mid B : Nat) (c : SC) (h : List Ev) (bo : Nat) (pre : List Nat) (W : World) : Prop :=
  Tch C W0 W ∧ StoR lo mid B W c h ∧ Box3 W lo 0 false 0 ∧ ∃ o, MpAt W 3 .i64 bo pre.length o ∧ OpOk o c.l.length ∧ racesFrom c.rd.ks Mp.none 0 (moments h c.rd) = racesFrom c.rd.ks o pre.length ((moments h c.rd).drop pre.length)
def RcX (C : Nat → Prop) (W0 : World) (n0 : Nat) (c : SC) (h : List Ev) (cd : Code) (_ : List Nat) (W : World) : Prop :=
  (cd = .ret ∧ ∃ i : Nat, racesFrom c.rd.ks Mp.none 0 (moments h c.rd) = some i ∧ Box3 W n0 (i : Nat) true 0) ∧ Tch C W0 W
theorem rcI_own {C : Nat → Prop} {W0 : World} {lo mid B : Nat} {c : SC} {h : List Ev} {bo : Nat} (hB : B ≤ W0.heap.size) (hm : bo < W0.heap.size) : OwnFrom W0.heap.size (RcI C W0 lo mid B c h bo) :=
  OwnFrom.and (ownFrom_tch (Nat.le_refl _)) (OwnFrom.and (StoR.own hB) (OwnFrom.and (Box3.own _ lo 0 false 0) (fun s X Y row hs hg hr => by
    obtain ⟨o, h1, h2, h3⟩ := hs
    exact ⟨o, MpAt.own (fun s : List Nat => s.length) o hm s X Y row h1 hg hr, h2, h3⟩)))
theorem rcX_own {C : Nat → Prop} {W0 : World} {n0 : Nat} {c : SC} {h : List Ev} (cd : Code) : OwnFrom W0.heap.size (RcX C W0 n0 c h cd) := fun s X Y row hs hg hr => by
  obtain ⟨⟨h1, i, h3, h4⟩, h2⟩ := hs
  exact ⟨⟨h1, i, h3, Box3.own _ n0 _ _ _ s X Y row h4 hg hr⟩, ownFrom_tch (Nat.le_refl _) s X Y row h2 hg hr⟩

set_option maxRecDepth 100000 in
set_option maxHeartbeats 4000000 in
theorem races_in {a : Option Addr} {cap : Nat} {h : List Ev} (w : World) (hr : RowsIn w a 9 Ev.cells h) (hl : h.length ≤ 900) (hf : ∀ e ∈ h, e.fit) :
    CallsIn Fence.wide 9 Try.prog 9 #[.slice a h.length cap] w fun z w' => ∃ v, z = .returned v ∧ v = triV (racesP h) ∧ Below w.heap.size w w' := by
  have Hr := Lib.hid hr; clear hr
  have Hf := Lib.hid hf; clear hf
  have Hq := Lib.hid (box3_new w)
  refine callsIn_of_wp_marks Try.func9 rfl trivial ?_ rfl
  simp only [Try.ntmps9, List.size_toArray, List.length_cons, List.length_nil, Nat.reduceAdd, Nat.reduceSub, Array.replicate_succ, Array.replicate_zero, List.push_toArray, List.append_toArray, List.nil_append, List.cons_append]
  gi_wp2_with (fail)
  generalize ((w.alloc (.cells #[.int .i64 0] 3)).alloc (.cells #[.bool false] 4)).alloc (.cells #[.int .i64 0] 24) = Wa at *
  obtain ⟨hq, hba, hz⟩ := Hq.out
  clear Hq
  have HQ := Lib.hid hq; clear hq
  have HBa := Lib.hid hba; clear hba
  have HZ := Lib.hid hz; clear hz
  refine (callsIn_wide.2 (read_any Wa (Hr.out.below HBa.out) hl Hf.out)).mono ?_
  rintro z w1 (⟨hn, rfl, hb⟩ | ⟨c, hrd, rfl, hev, hri, hap⟩)
  · have hbA : Below w1.heap.size w1 (w1.alloc (.cells #[.pointer none] 69)) := (Below.refl _ w1).alloc (Nat.le_refl _) _
    have hq1 := (HQ.out.below (hb.mono (Nat.le_refl _))).below hbA
    have hB := (HBa.out.trans (hb.mono (by have := HZ.out; omega))).trans (hbA.mono (Nat.le_trans HBa.out.size hb.size))
    have HB := Lib.hid hB; clear hB hb hbA
    obtain ⟨p0, f0, p1, f1, p2, f2⟩ := hq1.facts
    have HQ1 := Lib.hid hq1; clear hq1
    have hj : racesP h = (0, false, 120) := by unfold racesP; rw [hn]
    clear hn
    gi_wp2
    obtain ⟨r0, r1, r2⟩ := (HQ1.out.set 0 false 120).run
    exact ⟨_, results_ccc rfl rfl rfl rfl r0 r1 r2, _, rfl, by rw [hj]; rfl, below_three HB.out (Nat.le_refl _) _ _ _⟩
  · have hs1 : StoR w.heap.size Wa.heap.size w1.heap.size w1 c h := StoR.of hrd hri hap hev (rows_lo Hr.out HBa.out) HBa.out.size hl Hf.out
    have hb1 : Below Wa.heap.size Wa w1 := hap.below
    have HS1 := Lib.hid hs1; clear hs1
    have HB1 := Lib.hid hb1; clear hb1
    have HRD := Lib.hid hrd; clear hrd
    clear hev hri hap
    have hmm := @run_makeMap Try.prog
    gi_wp2_with (gi_at_call 27; refine (callsIn_wide.2 (moments_any c.p _)).mono ?_; rintro z w3 ⟨rfl, rfl⟩)
    clear hmm
    have hW0s : ((((w1.alloc (.cells #[.pointer (some ⟨c.p, 0, none⟩)] 69)).alloc (.map #[] 0)).alloc (.cells #[.map (some (w1.heap.size + 1))] 79)).alloc (.cells #[.pointer (some ⟨c.p, 0, none⟩)] 69)).heap.size = w1.heap.size + 4 := by simp
    have hbW : Below w1.heap.size w1 ((((w1.alloc (.cells #[.pointer (some ⟨c.p, 0, none⟩)] 69)).alloc (.map #[] 0)).alloc (.cells #[.map (some (w1.heap.size + 1))] 79)).alloc (.cells #[.pointer (some ⟨c.p, 0, none⟩)] 69)) := ((((Below.refl _ w1).alloc (Nat.le_refl _) _).alloc (by simp) _).alloc (by simp; omega) _).alloc (by simp; omega) _
    have hsb : Holds ((((w1.alloc (.cells #[.pointer (some ⟨c.p, 0, none⟩)] 69)).alloc (.map #[] 0)).alloc (.cells #[.map (some (w1.heap.size + 1))] 79)).alloc (.cells #[.pointer (some ⟨c.p, 0, none⟩)] 69)) w1.heap.size 69 [.pointer (some ⟨c.p, 0, none⟩)] := (((Holds.new w1 69 [.pointer (some ⟨c.p, 0, none⟩)]).alloc _).alloc _).alloc _
    have hmb : MpAt ((((w1.alloc (.cells #[.pointer (some ⟨c.p, 0, none⟩)] 69)).alloc (.map #[] 0)).alloc (.cells #[.map (some (w1.heap.size + 1))] 79)).alloc (.cells #[.pointer (some ⟨c.p, 0, none⟩)] 69)) 3 .i64 (w1.heap.size + 1) 0 Mp.none := by
      have := MpAt.made (w1.alloc (.cells #[.pointer (some ⟨c.p, 0, none⟩)] 69)) 3 .i64
      rw [World.size_alloc] at this
      refine this.same ((Below.heap_alloc _ _ _ (by simp)).trans (Below.heap_alloc _ _ _ (by simp)))
    have hnb : Holds ((((w1.alloc (.cells #[.pointer (some ⟨c.p, 0, none⟩)] 69)).alloc (.map #[] 0)).alloc (.cells #[.map (some (w1.heap.size + 1))] 79)).alloc (.cells #[.pointer (some ⟨c.p, 0, none⟩)] 69)) (w1.heap.size + 2) 79 [.map (some (w1.heap.size + 1))] := by
      have := (Holds.new ((w1.alloc (.cells #[.pointer (some ⟨c.p, 0, none⟩)] 69)).alloc (.map #[] 0)) 79 [.map (some (w1.heap.size + 1))]).alloc (.cells #[.pointer (some ⟨c.p, 0, none⟩)] 69)
      rwa [World.size_alloc, World.size_alloc] at this
    have hBc : ((((w1.alloc (.cells #[.pointer (some ⟨c.p, 0, none⟩)] 69)).alloc (.map #[] 0)).alloc (.cells #[.map (some (w1.heap.size + 1))] 79)).alloc (.cells #[.pointer (some ⟨c.p, 0, none⟩)] 69)).cell? ⟨w1.heap.size + 3, 0, none⟩ = some (.pointer (some ⟨c.p, 0, none⟩)) := by
      have := (Holds.new (((w1.alloc (.cells #[.pointer (some ⟨c.p, 0, none⟩)] 69)).alloc (.map #[] 0)).alloc (.cells #[.map (some (w1.heap.size + 1))] 79)) 69 [.pointer (some ⟨c.p, 0, none⟩)]).cell (i := 0) rfl
      rwa [World.size_alloc, World.size_alloc, World.size_alloc] at this
    generalize ((((w1.alloc (.cells #[.pointer (some ⟨c.p, 0, none⟩)] 69)).alloc (.map #[] 0)).alloc (.cells #[.map (some (w1.heap.size + 1))] 79)).alloc (.cells #[.pointer (some ⟨c.p, 0, none⟩)] 69)) = W0 at *
    obtain ⟨ml, hml⟩ : ∃ ml, w1.heap.size + 1 = ml := ⟨_, rfl⟩
    have hs2 : StoR w.heap.size Wa.heap.size w1.heap.size W0 c h := HS1.out.next hbW
    have hq0 : Box3 W0 w.heap.size 0 false 0 := (HQ.out.below (HB1.out.mono (Nat.le_refl _))).below hbW
    have hbel0 : Below w.heap.size w W0 := (HBa.out.trans (HB1.out.mono HBa.out.size)).trans (hbW.mono (Nat.le_trans HBa.out.size HB1.out.size))
    rw [hml] at hmb hnb
    have Hz := Lib.hid (And.intro HZ.out (And.intro HB1.out.size (And.intro hml hW0s)))
    have Hmlt := Lib.hid hmb.lt
    have Hs2 := Lib.hid hs2; clear hs2
    have Hm0 := Lib.hid hmb; clear hmb
    have Hq0 := Lib.hid hq0; clear hq0
    have Hnb := Lib.hid hnb; clear hnb
    have Hsb := Lib.hid hsb; clear hsb
    have Hbel0 := Lib.hid hbel0; clear hbel0
    have HBc := Lib.hid hBc; clear hBc
    clear hml hW0s hbW HS1 HB1 HQ HZ
    have hCF : ∀ k, (W0.heap.size ≤ k ∨ k = ml ∨ k = w.heap.size ∨ k = w.heap.size + 1 ∨ k = w.heap.size + 2) → Free w.heap.size Wa.heap.size w1.heap.size k := fun k hk => by
      obtain ⟨z1, z2, z3, z4⟩ := Hz.out
      unfold Free
      omega
    have HCF := Lib.hid hCF; clear hCF
    refine each_own rfl rfl (gf := 43) (lb := #[.pointer (some ⟨w1.heap.size + 3, 0, none⟩)]) rfl trivial (enters_of Try.func43 (by kernel_rfl) rfl)
      (moments_each (fun k => W0.heap.size ≤ k ∨ k = ml ∨ k = w.heap.size ∨ k = w.heap.size + 1 ∨ k = w.heap.size + 2) _ W0 (fun _ h => .inl h) HCF.out Hs2.out HBc.out (fun e => by obtain ⟨z1, z2, z3, z4⟩ := Hz.out; omega)) kpC_t (kpC_b (.inl (by omega))) (fun _ => rfl)
      (RcI (fun k => W0.heap.size ≤ k ∨ k = ml ∨ k = w.heap.size ∨ k = w.heap.size + 1 ∨ k = w.heap.size + 2) W0 w.heap.size Wa.heap.size w1.heap.size c h ml) (RcX (fun k => W0.heap.size ≤ k ∨ k = ml ∨ k = w.heap.size ∨ k = w.heap.size + 1 ∨ k = w.heap.size + 2) W0 w.heap.size c h)
      (rcI_own (by obtain ⟨z1, z2, z3, z4⟩ := Hz.out; omega) Hmlt.out) rcX_own ⟨Tch.refl _ _, Hs2.out, Hq0.out, Mp.none, Hm0.out, ⟨fun a v h => (by cases h), fun a v h => (by cases h)⟩, by simp⟩ ?round ?done ?stop
    case round =>
      rintro pre k rest W hx hl hi
      obtain ⟨rfl, hk⟩ := leaf_pre hx
      obtain ⟨e, hxk⟩ : ∃ e, h[pre.length]? = some e := ⟨_, List.getElem?_eq_getElem hk⟩
      have hem := List.mem_of_getElem? hxk
      have hmay : e.may = true := go_may h _ _ _ HRD.out e hem
      have hfe := Hf.out e hem
      have hgd : h.getD pre.length Ev.zero = e := by simp [List.getD, hxk]
      obtain ⟨hpo, hhpo⟩ : ∃ hpo, (moAt h c.rd pre.length).hp = hpo := ⟨_, rfl⟩
      have hmo : moAt h c.rd pre.length = ⟨e, c.pl.getD pre.length 0, hpo⟩ := by rw [← hhpo, ← hgd]; rfl
      have hmc : moCells c h pre.length = [.int .i64 e.k, .int .i64 e.tm, .int .i64 e.co, .int .i64 e.bl, .int .i64 e.tr, .int .i64 e.la, .int .i64 e.ad, .int .u64 e.va, .int .i64 e.cd, .int .i64 (c.pl.getD pre.length 0), c.hp (c.pl.getD pre.length 0) pre.length] := by unfold moCells; rw [hgd]; rfl
      obtain ⟨pl, hpl⟩ : ∃ pl, c.pl.getD pre.length 0 = pl := ⟨_, rfl⟩
      have hri := Hs2.out.ri
      have hplm : pl ∈ c.rd.pl := by
        have hl2 : pre.length < c.pl.length := by have := hri.pln; simp only [SC.rd] at this; omega
        rw [← hpl, List.getD, List.getElem?_eq_getElem hl2]
        exact List.getElem_mem hl2
      have hkl : c.rd.ks.length = c.l.length := by simp [SC.rd]
      have hplw : (Lit.int .i64 pl).wf = true := by
        rcases hri.pls pl hplm with h1 | ⟨j, h1, h2⟩
        · rw [h1]; decide
        · have := hri.ksn
          rw [h1]; exact WalkArith.wf_i64 (by omega)
      have hplk : e.k = 1 → ∃ j : Nat, pl = j ∧ j < c.l.length := fun h1 => by
        obtain ⟨P, g1, g2, g3⟩ := go_pl h Rd.zero c.rd 0 HRD.out
        have g4 : P = c.pl := by rw [show c.pl = c.rd.pl from rfl, g1]; rfl
        have g5 := g3 _ _ hxk h1
        rw [g4, hpl] at g5
        rcases hri.pls pl hplm with h2 | ⟨j, h2, h3⟩
        · exact absurd h2 g5
        · exact ⟨j, h2, by rw [hkl] at h3; exact h3⟩
      obtain ⟨po, hv⟩ : ∃ po, c.hp pl pre.length = .pointer po := by unfold SC.hp; split <;> exact ⟨_, rfl⟩
      rw [hpl] at hmo hmc
      rw [hv] at hmc
      have HRA : Hid (∀ o, racesFrom c.rd.ks o pre.length ((moments h c.rd).drop pre.length) = if plainK e.k && meets c.rd.ks o e.ad then some pre.length else racesFrom c.rd.ks (passO o e pl) (pre.length + 1) ((moments h c.rd).drop (pre.length + 1))) := Lib.hid (fun o => by have := races_at hk c.rd c.rd.ks o; rw [hmo] at this; exact this)
      have HOK : Hid (∀ o, OpOk o c.l.length → OpOk (passO o e pl) c.l.length) := Lib.hid (fun o ho => ho.pass hmay hplk)
      have HPL : Hid (∀ V, Calls Try.prog 28 #[.int .i64 e.k] V fun z w' => z = .returned (.bool (plainK e.k)) ∧ V = w') := Lib.hid (fun V => plain_any e.k)
      have HME : Hid (∀ V o, StoR w.heap.size Wa.heap.size w1.heap.size V c h → MpAt V 3 .i64 ml pre.length o → OpOk o c.l.length → Calls Try.prog 29 #[.pointer (some ⟨c.p, 0, none⟩), .map (some ml), .int .i64 e.ad] V fun z w' => z = .returned (.bool (meets c.rd.ks o e.ad)) ∧ Below V.heap.size V w') := Lib.hid (fun V o h1 h2 h3 => meets_any h1 h2 h3 e.ad hfe.2.1)
      have HPA : Hid (∀ V o, MpAt V 3 .i64 ml pre.length o → Calls Try.prog 30 #[.map (some ml), e.val, .int .i64 pl] V fun z w' => z = .returned (.tuple #[]) ∧ MpAt w' 3 .i64 ml (pre.length + 1) (passO o e pl) ∧ Tch (fun k => k = ml) V w') := Lib.hid (fun V o h1 => opass_any h1 e hfe pl hplw (by have := Hs2.out.len; omega))
      unfold encM RoundOwes
      rw [hmc]
      clear hx hl hxk hem hmay hfe hgd hhpo hmo hmc hpl hv hri hplm hkl hplw hplk
      obtain ⟨ek, etm, eco, ebl, etr, ela, ead, eva, ecd⟩ := e
      have Hi := Lib.hid hi; clear hi
      dsimp only
      dsimp only at HRA HPL HME
      unfold Ev.val at HPA
      dsimp only at HPA
      have bW : Below W.heap.size W (W.alloc (.cells #[.int .i64 ek, .int .i64 etm, .int .i64 eco, .int .i64 ebl, .int .i64 etr, .int .i64 ela, .int .i64 ead, .int .u64 eva, .int .i64 ecd, .int .i64 pl, .pointer po] 85)) := (Below.refl _ W).alloc (Nat.le_refl _) _
      have hT1 : Tch (fun k => W0.heap.size ≤ k ∨ k = ml ∨ k = w.heap.size ∨ k = w.heap.size + 1 ∨ k = w.heap.size + 2) W (W.alloc (.cells #[.int .i64 ek, .int .i64 etm, .int .i64 eco, .int .i64 ebl, .int .i64 etr, .int .i64 ela, .int .i64 ead, .int .u64 eva, .int .i64 ecd, .int .i64 pl, .pointer po] 85)) := Tch.of_idle bW
      have hX := rcI_own (C := (fun k => W0.heap.size ≤ k ∨ k = ml ∨ k = w.heap.size ∨ k = w.heap.size + 1 ∨ k = w.heap.size + 2)) (lo := w.heap.size) (mid := Wa.heap.size) (B := w1.heap.size) (c := c) (h := h) (bo := ml) (by obtain ⟨z1, z2, z3, z4⟩ := Hz.out; omega) Hmlt.out pre W _ none Hi.out (grown_below bW) (fun r e => by cases e)
      have hB1 : Holds (W.alloc (.cells #[.int .i64 ek, .int .i64 etm, .int .i64 eco, .int .i64 ebl, .int .i64 etr, .int .i64 ela, .int .i64 ead, .int .u64 eva, .int .i64 ecd, .int .i64 pl, .pointer po] 85)) W.heap.size 85 [.int .i64 ek, .int .i64 etm, .int .i64 eco, .int .i64 ebl, .int .i64 etr, .int .i64 ela, .int .i64 ead, .int .u64 eva, .int .i64 ecd, .int .i64 pl, .pointer po] := Holds.new W _ _
      have hKF : KeepsFrom W0.heap.size W (W.alloc (.cells #[.int .i64 ek, .int .i64 etm, .int .i64 eco, .int .i64 ebl, .int .i64 etr, .int .i64 ela, .int .i64 ead, .int .u64 eva, .int .i64 ecd, .int .i64 pl, .pointer po] 85)) := ⟨bW.size, fun k o _ hk _ => (bW.block k (Array.getElem?_eq_some_iff.1 hk).1).trans hk⟩
      have HX := Lib.hid (And.intro hX hB1)
      have HT1 := Lib.hid (And.intro hKF hT1)
      have hsz : W0.heap.size ≤ W.heap.size := Hi.out.1.size
      have Hsz := Lib.hid hsz
      clear bW hX hB1 hT1 hKF hsz
      gi_wp2
      refine ⟨HT1.out.1, HT1.out.2, fun V => RcI (fun k => W0.heap.size ≤ k ∨ k = ml ∨ k = w.heap.size ∨ k = w.heap.size + 1 ∨ k = w.heap.size + 2) W0 w.heap.size Wa.heap.size w1.heap.size c h ml pre V ∧ Holds V W.heap.size 85 [.int .i64 ek, .int .i64 etm, .int .i64 eco, .int .i64 ebl, .int .i64 etr, .int .i64 ela, .int .i64 ead, .int .u64 eva, .int .i64 ecd, .int .i64 pl, .pointer po], fun u Y Z row hs hg hr => ⟨rcI_own (by obtain ⟨z1, z2, z3, z4⟩ := Hz.out; omega) Hmlt.out pre Y Z row hs.1 hg hr, ownFrom_holds W0.heap.size W.heap.size _ (fun _ : Unit => [.int .i64 ek, .int .i64 etm, .int .i64 eco, .int .i64 ebl, .int .i64 etr, .int .i64 ela, .int .i64 ead, .int .u64 eva, .int .i64 ecd, .int .i64 pl, .pointer po]) () Y Z row hs.2 hg hr⟩, HX.out, ?_⟩
      rintro W2 - - ⟨⟨hT2, hS2, hQ2, o, hM2, hO2, hJ2⟩, hbx2⟩
      have hn2 : Holds W2 (w1.heap.size + 2) 79 [.map (some ml)] := hT2.holds (fun e => by obtain ⟨z1, z2, z3, z4⟩ := Hz.out; omega) Hnb.out
      have hs2 : Holds W2 w1.heap.size 69 [.pointer (some ⟨c.p, 0, none⟩)] := hT2.holds (fun e => by obtain ⟨z1, z2, z3, z4⟩ := Hz.out; omega) Hsb.out
      have hB2l : W.heap.size < W2.heap.size := hbx2.lt
      have x8 := hs2.cell (i := 0) rfl
      have x9 := hn2.cell (i := 0) rfl
      have y0 := hbx2.cell (i := 0) rfl
      have y1 := hbx2.cell (i := 1) rfl
      have y2 := hbx2.cell (i := 2) rfl
      have y3 := hbx2.cell (i := 3) rfl
      have y4 := hbx2.cell (i := 4) rfl
      have y5 := hbx2.cell (i := 5) rfl
      have y6 := hbx2.cell (i := 6) rfl
      have y7 := hbx2.cell (i := 7) rfl
      have y8 := hbx2.cell (i := 8) rfl
      have y9 := hbx2.cell (i := 9) rfl
      have y10 := hbx2.cell (i := 10) rfl
      have HT2 := Lib.hid hT2; clear hT2
      have HS2 := Lib.hid hS2; clear hS2
      have HQ2 := Lib.hid hQ2; clear hQ2
      have HM2 := Lib.hid hM2; clear hM2
      have HO2 := Lib.hid hO2; clear hO2
      have HME2 := Lib.hid (HME.out W2 o HS2.out HM2.out HO2.out)
      have HJI := Lib.hid (hJ2.trans (HRA.out o)); clear hJ2
      have HH3 : Hid (∀ V, Below W2.heap.size W2 V → V.cell? ⟨w1.heap.size + 2, 0, none⟩ = some (.map (some ml)) ∧ Holds V W.heap.size 85 [.int .i64 ek, .int .i64 etm, .int .i64 eco, .int .i64 ebl, .int .i64 etr, .int .i64 ela, .int .i64 ead, .int .u64 eva, .int .i64 ecd, .int .i64 pl, .pointer po] ∧ Box3 V w.heap.size 0 false 0) := Lib.hid (fun V hV => ⟨(hn2.below hV).cell (i := 0) rfl, hbx2.below hV, HQ2.out.below hV⟩)
      clear hn2 hs2 hbx2
      have HPF : Hid (∀ V w4, Below W2.heap.size W2 V → Tch (fun k => k = ml) V w4 → MpAt w4 3 .i64 ml (pre.length + 1) (passO o ⟨ek, etm, eco, ebl, etr, ela, ead, eva, ecd⟩ pl) → racesFrom c.rd.ks Mp.none 0 (moments h c.rd) = racesFrom c.rd.ks (passO o ⟨ek, etm, eco, ebl, etr, ela, ead, eva, ecd⟩ pl) (pre.length + 1) ((moments h c.rd).drop (pre.length + 1)) → KeepsFrom W0.heap.size W2 w4 ∧ Tch (fun k => W0.heap.size ≤ k ∨ k = ml ∨ k = w.heap.size ∨ k = w.heap.size + 1 ∨ k = w.heap.size + 2) W2 w4 ∧ RcI (fun k => W0.heap.size ≤ k ∨ k = ml ∨ k = w.heap.size ∨ k = w.heap.size + 1 ∨ k = w.heap.size + 2) W0 w.heap.size Wa.heap.size w1.heap.size c h ml (pre ++ [pre.length]) w4) := Lib.hid (fun V w4 hV ht hm hj => by
        have hT3 : Tch (fun k => k = ml) W2 w4 := (Tch.of_idle hV).trans ht
        have hT4 := hT3.mono (D := (fun k => W0.heap.size ≤ k ∨ k = ml ∨ k = w.heap.size ∨ k = w.heap.size + 1 ∨ k = w.heap.size + 2)) (fun k _ h => .inr (.inl h))
        refine ⟨hT3.keepsFrom (fun k o h hk _ => by have := Hmlt.out; omega), hT4, HT2.out.trans hT4, HS2.out.frame hT4 HCF.out, HQ2.out.tch hT3 ⟨fun e => ?_, fun e => ?_, fun e => ?_⟩, _, ?_, HOK.out o HO2.out, ?_⟩
        · obtain ⟨z1, z2, z3, z4⟩ := Hz.out; omega
        · obtain ⟨z1, z2, z3, z4⟩ := Hz.out; omega
        · obtain ⟨z1, z2, z3, z4⟩ := Hz.out; omega
        · rw [List.length_append, List.length_singleton]; exact hm
        · rw [List.length_append, List.length_singleton]; exact hj)
      obtain ⟨bp, hbp⟩ : ∃ bp, plainK ek = bp := ⟨_, rfl⟩
      obtain ⟨bm, hbm⟩ : ∃ bm, meets c.rd.ks o ead = bm := ⟨_, rfl⟩
      rw [hbp] at HPL
      rw [hbm] at HME2
      have HJI := Lib.hid (show racesFrom c.rd.ks Mp.none 0 (moments h c.rd) = if bp && bm then some pre.length else racesFrom c.rd.ks (passO o ⟨ek, etm, eco, ebl, etr, ela, ead, eva, ecd⟩ pl) (pre.length + 1) ((moments h c.rd).drop (pre.length + 1)) by rw [← hbp, ← hbm]; exact HJI.out)
      clear hbp hbm
      cases bp
      · gi_wp2_with (first
          | (gi_at_call 28; refine (CallsIn.inRound _ (callsIn_wide.2 (HPL.out _))).mono ?_; rintro z w' ⟨rfl, rfl⟩)
          | (gi_at_call 30; refine (CallsIn.inRound _ (callsIn_wide.2 (HPA.out W2 o HM2.out))).mono ?_; rintro z w4 ⟨rfl, hm4, ht4⟩; have Hm4 := Lib.hid hm4; have Ht4 := Lib.hid ht4; clear hm4 ht4))
        exact HPF.out W2 _ (Below.refl _ _) Ht4.out Hm4.out HJI.out
      · cases bm
        · gi_wp2_with (first
            | (gi_at_call 28; refine (CallsIn.inRound _ (callsIn_wide.2 (HPL.out _))).mono ?_; rintro z w' ⟨rfl, rfl⟩)
            | (gi_at_call 29; refine (CallsIn.inRound _ (callsIn_wide.2 HME2.out)).mono ?_; rintro z w3 ⟨rfl, hb3⟩; obtain ⟨x9', hbx3, -⟩ := HH3.out w3 hb3; have Hb3 := Lib.hid hb3; have Hbx3 := Lib.hid hbx3; clear hb3 hbx3; clear x8 x9 y0 y1 y2 y3 y4 y5 y6 y7 y8 y9 y10; have y0 := Hbx3.out.cell (i := 0) rfl; have y1 := Hbx3.out.cell (i := 1) rfl; have y2 := Hbx3.out.cell (i := 2) rfl; have y3 := Hbx3.out.cell (i := 3) rfl; have y4 := Hbx3.out.cell (i := 4) rfl; have y5 := Hbx3.out.cell (i := 5) rfl; have y6 := Hbx3.out.cell (i := 6) rfl; have y7 := Hbx3.out.cell (i := 7) rfl; have y8 := Hbx3.out.cell (i := 8) rfl; have y9 := Hbx3.out.cell (i := 9) rfl; have y10 := Hbx3.out.cell (i := 10) rfl)
            | (gi_at_call 30; refine (CallsIn.inRound _ (callsIn_wide.2 (HPA.out w3 o (HM2.out.same (Hb3.out.block _ HM2.out.lt))))).mono ?_; rintro z w4 ⟨rfl, hm4, ht4⟩; have Hm4 := Lib.hid hm4; have Ht4 := Lib.hid ht4; clear hm4 ht4))
          exact HPF.out w3 _ Hb3.out Ht4.out Hm4.out HJI.out
        · gi_wp2_with (first
            | (gi_at_call 28; refine (CallsIn.inRound _ (callsIn_wide.2 (HPL.out _))).mono ?_; rintro z w' ⟨rfl, rfl⟩)
            | (gi_at_call 29; refine (CallsIn.inRound _ (callsIn_wide.2 HME2.out)).mono ?_; rintro z w3 ⟨rfl, hb3⟩; obtain ⟨p0, f0, p1, f1, p2, f2⟩ := (HH3.out w3 hb3).2.2.facts; have Hb3 := Lib.hid hb3; clear hb3; clear x8 x9 y0 y1 y2 y3 y4 y5 y6 y7 y8 y9 y10))
          have hT3 : Tch (fun k => k = w.heap.size ∨ k = w.heap.size + 1 ∨ k = w.heap.size + 2) W2 (((w3.setCell ⟨w.heap.size, 0, none⟩ (.int .i64 (pre.length : Nat))).setCell ⟨w.heap.size + 1, 0, none⟩ (.bool true)).setCell ⟨w.heap.size + 1 + 1, 0, none⟩ (.int .i64 0)) :=
            (((Tch.of_idle Hb3.out).setCell (p := ⟨w.heap.size, 0, none⟩) (.inl (.inl rfl)) _).setCell (p := ⟨w.heap.size + 1, 0, none⟩) (.inl (.inr (.inl rfl))) _).setCell (p := ⟨w.heap.size + 1 + 1, 0, none⟩) (.inl (.inr (.inr rfl))) _
          have hT4 := hT3.mono (D := (fun k => W0.heap.size ≤ k ∨ k = ml ∨ k = w.heap.size ∨ k = w.heap.size + 1 ∨ k = w.heap.size + 2)) (fun k _ h => .inr (.inr h))
          exact ⟨hT3.keepsFrom (fun k o h hk _ => by obtain ⟨z1, z2, z3, z4⟩ := Hz.out; omega), hT4, ⟨rfl, pre.length, HJI.out, (HH3.out w3 Hb3.out).2.2.set _ _ _⟩, HT2.out.trans hT4⟩
    case done =>
      rintro W ⟨hT, -, hq, o, -, -, hjd⟩ hK
      have hend : ∀ o, racesFrom c.rd.ks o h.length ((moments h c.rd).drop h.length) = none := fun o => by rw [List.drop_eq_nil_of_le (by rw [moments_len]; exact Nat.le_refl _)]; rfl
      rw [List.length_range, hend] at hjd
      clear hend
      have hj : racesP h = (0, false, 0) := by unfold racesP; rw [HRD.out]; simp only; rw [hjd]
      obtain ⟨p0, f0, p1, f1, p2, f2⟩ := hq.facts
      have HQ1 := Lib.hid hq; clear hq
      have HK := Lib.hid hK; clear hK
      have HT := Lib.hid hT; clear hT
      clear hjd
      have hbl : Below w.heap.size w W := Hbel0.out.trans (HT.out.below Hbel0.out.size (fun k h => by obtain ⟨z1, z2, z3, z4⟩ := Hz.out; omega))
      have HBL := Lib.hid hbl; clear hbl
      have hlt : W0.heap.size < W.heap.size := (Array.getElem?_eq_some_iff.1 HK.out).1
      gi_wp2
      have hq2 := HQ1.out.set 0 false 0
      have hK2 : ((((W.setCell ⟨w.heap.size, 0, none⟩ (.int .i64 0)).setCell ⟨w.heap.size + 1, 0, none⟩ (.bool false)).setCell ⟨w.heap.size + 1 + 1, 0, none⟩ (.int .i64 0))).heap[W0.heap.size]? = some (.deferred (some [])) := by
        obtain ⟨z1, z2, z3, z4⟩ := Hz.out
        rw [Below.heap_setCell _ _ _ _ (show W0.heap.size ≠ w.heap.size + 1 + 1 by omega), Below.heap_setCell _ _ _ _ (show W0.heap.size ≠ w.heap.size + 1 by omega), Below.heap_setCell _ _ _ _ (show W0.heap.size ≠ w.heap.size by omega)]
        exact HK.out
      obtain ⟨r0, r1, r2⟩ := (hq2.putObj hK2 rfl (.deferred none)).run
      exact leaves_mark hK2 ⟨_, results_ccc rfl rfl rfl rfl r0 r1 r2, _, rfl, by rw [hj]; rfl, (below_three HBL.out (Nat.le_refl _) _ _ _).trans (belowK_b (w := W0) Hbel0.out.size _ W0.heap.size _ _ (Nat.le_refl _) hK2 rfl rfl)⟩
    case stop =>
      rintro cd pre W hp ⟨⟨rfl, i, hji, hq⟩, hT⟩ hK
      have hj : racesP h = ((i : Int), true, 0) := by unfold racesP; rw [HRD.out]; simp only; rw [hji]
      have HQ1 := Lib.hid hq; clear hq
      have HK := Lib.hid hK; clear hK
      have HT := Lib.hid hT; clear hT
      clear hji
      have hbl : Below w.heap.size w W := Hbel0.out.trans (HT.out.below Hbel0.out.size (fun k h => by obtain ⟨z1, z2, z3, z4⟩ := Hz.out; omega))
      have HBL := Lib.hid hbl; clear hbl
      gi_wp2
      obtain ⟨r0, r1, r2⟩ := (HQ1.out.putObj HK.out rfl (.deferred none)).run
      exact leaves_mark HK.out ⟨_, results_ccc rfl rfl rfl rfl r0 r1 r2, _, rfl, by rw [hj]; rfl, HBL.out.trans (belowK_b (w := W0) Hbel0.out.size _ W0.heap.size _ _ (Nat.le_refl _) HK.out rfl rfl)⟩

end Go.Proofs.Ytgjbhcnadenojaa
