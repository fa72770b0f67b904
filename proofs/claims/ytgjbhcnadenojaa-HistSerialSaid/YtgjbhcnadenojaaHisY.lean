/- hist: Final. Conditions: those stated in each theorem. -/
import Derived.Test.YtgjbhcnadenojaaHisX
import Derived.Maps.AppendAt
namespace Go.Proofs.Ytgjbhcnadenojaa
open Go.RowKit Go.BigFrame Go.Maps Go.Shelf
attribute [local go_sem] Oper.semAt_some
attribute [local simp] wide_fn

def wordsP (m : Wd) (n : Nat) : List Int := (List.range n).map fun (a : Nat) => m.word (a : Int)
/-- What Final answers. -/
def finalP (h : List Ev) (first : List Int) (words : Int) : List Int × Int := match readH h with
  | none => ([], 120)
  | some s => if words < 0 then ([], 120) else if 512 < words then ([], 120) else (wordsP (finalM ⟨first, Mp.none⟩ (moments h s)) words.toNat, 0)
def RowU (w : World) (lo : Nat) (v : Value) (l : List Int) : Prop := w.ownsRow lo 46 1 v l.length (l.map (.int .u64))
theorem wordsP_succ (m : Wd) (n : Nat) : wordsP m (n + 1) = wordsP m n ++ [m.word (n : Int)] := by unfold wordsP; rw [List.range_succ, List.map_append]; rfl
theorem Try.infoU : (Try.prog.info? 46).map (fun i => (i.zero, i.size, i.bytes)) = some (some (.int .u64 0), 1, 8) := by kernel_rfl
/-- Between two rounds of Final. -/
def FiI (C : Nat → Prop) (W0 : World) (lo mid B : Nat) (c : SC) (h : List Ev) (mp ml : Nat) (fv : Value) (m0 : Wd) (pre : List Nat) (W : World) : Prop :=
  Tch C W0 W ∧ StoR lo mid B W c h ∧ WmAt W mp ml (1001 * pre.length) fv (finalM m0 ((moments h c.rd).take pre.length))
theorem fiI_own {C : Nat → Prop} {W0 : World} {lo mid B : Nat} {c : SC} {h : List Ev} {mp ml : Nat} {fv : Value} {m0 : Wd} (hB : B ≤ W0.heap.size) (hm : ml < W0.heap.size) : OwnFrom W0.heap.size (FiI C W0 lo mid B c h mp ml fv m0) :=
  OwnFrom.and (ownFrom_tch (Nat.le_refl _)) (OwnFrom.and (StoR.own hB) (WmAt.own (fun s : List Nat => 1001 * s.length) (fun s => finalM m0 ((moments h c.rd).take s.length)) hm))
def NoXN (_ : Code) (_ : List Nat) (_ : World) : Prop := False
theorem noXN_own {B : Nat} (c : Code) : OwnFrom B (NoXN c) := fun _ _ _ _ hs _ _ => hs

set_option maxRecDepth 100000 in
set_option maxHeartbeats 4000000 in
theorem final_in {a b : Option Addr} {cap cap2 : Nat} {h : List Ev} {first : List Int} (w : World) (hr : RowsIn w a 9 Ev.cells h) (hl : h.length ≤ 900) (hf : ∀ e ∈ h, e.fit) (hr2 : RowsIn w b 1 ucell first) (words : Int) :
    CallsIn Fence.wide 9 Try.prog 18 #[.slice a h.length cap, .slice b first.length cap2, .int .i64 words] w fun z w' => ∃ v, z = .returned (.tuple #[v, .int .i64 (finalP h first words).2]) ∧ RowU w' w.heap.size v (finalP h first words).1 ∧ Below w.heap.size w w' := by
  have Hr := Lib.hid hr; clear hr
  have Hr2 := Lib.hid hr2; clear hr2
  have Hf := Lib.hid hf; clear hf
  refine callsIn_of_wp_marks Try.func18 rfl trivial ?_ rfl
  simp only [Try.ntmps18, List.size_toArray, List.length_cons, List.length_nil, Nat.reduceAdd, Nat.reduceSub, Array.replicate_succ, Array.replicate_zero, List.push_toArray, List.append_toArray, List.nil_append, List.cons_append]
  gi_wp2_with (fail)
  refine (callsIn_wide.2 (read_any w Hr.out hl Hf.out)).mono ?_
  rintro z w1 (⟨hn, rfl, hb⟩ | ⟨c, hrd, rfl, hev, hri, hap⟩)
  · have hj : finalP h first words = ([], 120) := by unfold finalP; rw [hn]
    have HB := Lib.hid hb; clear hn hb
    gi_wp2
    refine ⟨_, results_tmp2 rfl _ _ _, .slice none 0 0, by rw [hj]; rfl, by rw [hj]; exact World.ownsRow_nil _ _ _ _, HB.out⟩
  · by_cases hw0 : words < 0
    · have hj : finalP h first words = ([], 120) := by unfold finalP; rw [hrd]; simp [hw0]
      have HB := Lib.hid hap.below
      clear hrd hev hri hap
      gi_wp2
      refine ⟨_, results_tmp2 rfl _ _ _, .slice none 0 0, by rw [hj]; rfl, by rw [hj]; exact World.ownsRow_nil _ _ _ _, HB.out⟩
    have d0 : decide (words < 0) = false := by simpa using hw0
    by_cases hw1 : 512 < words
    · have hj : finalP h first words = ([], 120) := by unfold finalP; rw [hrd]; simp [hw0, hw1]
      have HB := Lib.hid hap.below
      have d1 : decide (512 < words) = true := by simpa using hw1
      clear hrd hev hri hap
      gi_wp2
      refine ⟨_, results_tmp2 rfl _ _ _, .slice none 0 0, by rw [hj]; rfl, by rw [hj]; exact World.ownsRow_nil _ _ _ _, HB.out⟩
    have d1 : decide (512 < words) = false := by simpa using hw1
    obtain ⟨nw, rfl⟩ : ∃ nw : Nat, words = (nw : Int) := ⟨words.toNat, by omega⟩
    have hj : finalP h first (nw : Int) = (wordsP (finalM ⟨first, Mp.none⟩ (moments h c.rd)) nw, 0) := by unfold finalP; rw [hrd]; simp only [if_neg hw0, if_neg hw1, Int.toNat_natCast]
    have HJ := Lib.hid hj; clear hj
    have hs1 : StoR w.heap.size w.heap.size w1.heap.size w1 c h := StoR.of hrd hri hap hev (rows_lo Hr.out (Below.refl _ w)) (Nat.le_refl _) hl Hf.out
    have hb1 : Below w.heap.size w w1 := hap.below
    have HS1 := Lib.hid hs1; clear hs1
    have HB1 := Lib.hid hb1; clear hb1
    have HRD := Lib.hid hrd; clear hrd
    have hnw : nw ≤ 512 := by omega
    clear hev hri hap hw0 hw1
    gi_wp2_with (first | (gi_at_call 35; refine (callsIn_wide.2 (fresh_any (cap := cap2) (Hr2.out.below HB1.out))).mono ?_; rintro z w2 ⟨mp, ml, rfl, hm2, hml, hmp, hb2⟩; have Hm2 := Lib.hid hm2; have Hml := Lib.hid hml; have Hb2 := Lib.hid hb2; clear hm2 hml hmp hb2) | (gi_at_call 27; refine (callsIn_wide.2 (moments_any c.p _)).mono ?_; rintro z w3 ⟨rfl, rfl⟩))
    have hW0s : ((w2.alloc (.cells #[.pointer (some ⟨mp, 0, none⟩)] 94)).alloc (.cells #[.pointer (some ⟨c.p, 0, none⟩)] 69)).heap.size = w2.heap.size + 2 := by simp
    have hbW : Below w2.heap.size w2 ((w2.alloc (.cells #[.pointer (some ⟨mp, 0, none⟩)] 94)).alloc (.cells #[.pointer (some ⟨c.p, 0, none⟩)] 69)) := ((Below.refl _ w2).alloc (Nat.le_refl _) _).alloc (by simp) _
    have hnb : Holds ((w2.alloc (.cells #[.pointer (some ⟨mp, 0, none⟩)] 94)).alloc (.cells #[.pointer (some ⟨c.p, 0, none⟩)] 69)) w2.heap.size 94 [.pointer (some ⟨mp, 0, none⟩)] := (Holds.new w2 94 [.pointer (some ⟨mp, 0, none⟩)]).alloc _
    have hBc : ((w2.alloc (.cells #[.pointer (some ⟨mp, 0, none⟩)] 94)).alloc (.cells #[.pointer (some ⟨c.p, 0, none⟩)] 69)).cell? ⟨w2.heap.size + 1, 0, none⟩ = some (.pointer (some ⟨c.p, 0, none⟩)) := by
      have := (Holds.new (w2.alloc (.cells #[.pointer (some ⟨mp, 0, none⟩)] 94)) 69 [.pointer (some ⟨c.p, 0, none⟩)]).cell (i := 0) rfl
      rwa [World.size_alloc] at this
    generalize ((w2.alloc (.cells #[.pointer (some ⟨mp, 0, none⟩)] 94)).alloc (.cells #[.pointer (some ⟨c.p, 0, none⟩)] 69)) = W0 at *
    have hs2 : StoR w.heap.size w.heap.size w1.heap.size W0 c h := (HS1.out.next Hb2.out).next hbW
    have hm0 := Hm2.out.below hbW
    have hbel0 : Below w.heap.size w W0 := (HB1.out.trans (Hb2.out.mono HB1.out.size)).trans (hbW.mono (Nat.le_trans HB1.out.size Hb2.out.size))
    have Hz := Lib.hid (And.intro HB1.out.size (And.intro Hb2.out.size (And.intro Hml.out (And.intro Hm2.out.map.lt hW0s))))
    have Hmlt := Lib.hid hm0.map.lt
    have Hs2 := Lib.hid hs2; clear hs2
    have Hm0 := Lib.hid hm0; clear hm0
    have Hnb := Lib.hid hnb; clear hnb
    have Hbel0 := Lib.hid hbel0; clear hbel0
    have HBc := Lib.hid hBc; clear hBc
    clear hW0s hbW HS1 HB1 Hm2 Hml Hb2
    have hCF : ∀ k, (W0.heap.size ≤ k ∨ k = ml) → Free w.heap.size w.heap.size w1.heap.size k := fun k hk => by
      obtain ⟨z1, z2, z3, z4, z5⟩ := Hz.out
      unfold Free
      omega
    have HCF := Lib.hid hCF; clear hCF
    refine each_own rfl rfl (gf := 43) (lb := #[.pointer (some ⟨w2.heap.size + 1, 0, none⟩)]) rfl trivial (enters_of Try.func43 (by kernel_rfl) rfl)
      (moments_each (fun k => W0.heap.size ≤ k ∨ k = ml) _ W0 (fun _ h => .inl h) HCF.out Hs2.out HBc.out (fun e => by obtain ⟨z1, z2, z3, z4, z5⟩ := Hz.out; omega)) kpC_t (kpC_b (.inl (by omega))) (fun _ => rfl)
      (FiI (fun k => W0.heap.size ≤ k ∨ k = ml) W0 w.heap.size w.heap.size w1.heap.size c h mp ml (.slice b first.length cap2) ⟨first, Mp.none⟩) NoXN
      (fiI_own (by obtain ⟨z1, z2, z3, z4, z5⟩ := Hz.out; omega) Hmlt.out) noXN_own ⟨Tch.refl _ _, Hs2.out, by simpa [finalM] using Hm0.out⟩ ?round ?done ?stop
    case round =>
      rintro pre k rest W hx hl hi
      obtain ⟨rfl, hk⟩ := leaf_pre hx
      obtain ⟨e, hxk⟩ : ∃ e, h[pre.length]? = some e := ⟨_, List.getElem?_eq_getElem hk⟩
      have hem := List.mem_of_getElem? hxk
      have hmay : e.may = true := go_may h _ _ _ HRD.out e hem
      have hfe := Hf.out e hem
      have hgd : h.getD pre.length Ev.zero = e := by simp [List.getD, hxk]
      have hpi := hp_is Hs2.out hk
      obtain ⟨hpo, hhpo⟩ : ∃ hpo, (moAt h c.rd pre.length).hp = hpo := ⟨_, rfl⟩
      have hmo : moAt h c.rd pre.length = ⟨e, c.pl.getD pre.length 0, hpo⟩ := by rw [← hhpo, ← hgd]; rfl
      rw [hhpo] at hpi
      have hmc : moCells c h pre.length = [.int .i64 e.k, .int .i64 e.tm, .int .i64 e.co, .int .i64 e.bl, .int .i64 e.tr, .int .i64 e.la, .int .i64 e.ad, .int .u64 e.va, .int .i64 e.cd, .int .i64 (c.pl.getD pre.length 0), c.hp (c.pl.getD pre.length 0) pre.length] := by unfold moCells; rw [hgd]; rfl
      have hfa := final_at (m := ⟨first, Mp.none⟩) hk c.rd
      rw [hmo] at hfa
      obtain ⟨mw, hmw⟩ : ∃ mw, finalM ⟨first, Mp.none⟩ ((moments h c.rd).take pre.length) = mw := ⟨_, rfl⟩
      obtain ⟨pl, hpl⟩ : ∃ pl, c.pl.getD pre.length 0 = pl := ⟨_, rfl⟩
      obtain ⟨po, hv⟩ : ∃ po, c.hp pl pre.length = .pointer po := by unfold SC.hp; split <;> exact ⟨_, rfl⟩
      rw [hpl] at hmo hmc hpi hfa
      rw [hv] at hmc hpi
      rw [hmw] at hfa
      have HPA : Hid (∀ V, StoR w.heap.size w.heap.size w1.heap.size V c h → WmAt V mp ml (1001 * pre.length) (.slice b first.length cap2) mw → Calls Try.prog 37 #[.pointer (some ⟨mp, 0, none⟩), moVal e pl (.pointer po)] V fun z w' => z = .returned (.tuple #[]) ∧ WmAt w' mp ml (1001 * pre.length + 1001) (.slice b first.length cap2) (mw.pass ⟨e, pl, hpo⟩) ∧ Tch (fun k => k = ml) V w') := Lib.hid (fun V h1 h2 => mpass_any h1 (HCF.out ml (.inr rfl)) h2 (by omega) e hfe pl hpi)
      unfold encM RoundOwes
      rw [hmc]
      have Hfa := Lib.hid hfa; clear hfa
      have Hmw := Lib.hid hmw; clear hmw
      clear hx hl hxk hem hmay hfe hgd hpi hhpo hmo hmc hpl hv
      obtain ⟨ek, etm, eco, ebl, etr, ela, ead, eva, ecd⟩ := e
      have Hi := Lib.hid hi; clear hi
      dsimp only
      have bW : Below W.heap.size W (W.alloc (.cells #[.int .i64 ek, .int .i64 etm, .int .i64 eco, .int .i64 ebl, .int .i64 etr, .int .i64 ela, .int .i64 ead, .int .u64 eva, .int .i64 ecd, .int .i64 pl, .pointer po] 85)) := (Below.refl _ W).alloc (Nat.le_refl _) _
      have hT1 : Tch (fun k => W0.heap.size ≤ k ∨ k = ml) W (W.alloc (.cells #[.int .i64 ek, .int .i64 etm, .int .i64 eco, .int .i64 ebl, .int .i64 etr, .int .i64 ela, .int .i64 ead, .int .u64 eva, .int .i64 ecd, .int .i64 pl, .pointer po] 85)) := Tch.of_idle bW
      have hX := fiI_own (C := fun k => W0.heap.size ≤ k ∨ k = ml) (lo := w.heap.size) (mid := w.heap.size) (B := w1.heap.size) (c := c) (h := h) (mp := mp) (fv := .slice b first.length cap2) (m0 := ⟨first, Mp.none⟩) (by obtain ⟨z1, z2, z3, z4, z5⟩ := Hz.out; omega) Hmlt.out pre W _ none Hi.out (grown_below bW) (fun r e => by cases e)
      have hB1 : Holds (W.alloc (.cells #[.int .i64 ek, .int .i64 etm, .int .i64 eco, .int .i64 ebl, .int .i64 etr, .int .i64 ela, .int .i64 ead, .int .u64 eva, .int .i64 ecd, .int .i64 pl, .pointer po] 85)) W.heap.size 85 [.int .i64 ek, .int .i64 etm, .int .i64 eco, .int .i64 ebl, .int .i64 etr, .int .i64 ela, .int .i64 ead, .int .u64 eva, .int .i64 ecd, .int .i64 pl, .pointer po] := Holds.new W _ _
      have hKF : KeepsFrom W0.heap.size W (W.alloc (.cells #[.int .i64 ek, .int .i64 etm, .int .i64 eco, .int .i64 ebl, .int .i64 etr, .int .i64 ela, .int .i64 ead, .int .u64 eva, .int .i64 ecd, .int .i64 pl, .pointer po] 85)) := ⟨bW.size, fun k o _ hk _ => (bW.block k (Array.getElem?_eq_some_iff.1 hk).1).trans hk⟩
      have HX := Lib.hid (And.intro hX hB1)
      have HT1 := Lib.hid (And.intro hKF hT1)
      have hsz : W0.heap.size ≤ W.heap.size := Hi.out.1.size
      have Hsz := Lib.hid hsz
      clear bW hX hB1 hT1 hKF hsz
      gi_wp2
      refine ⟨HT1.out.1, HT1.out.2, fun V => FiI (fun k => W0.heap.size ≤ k ∨ k = ml) W0 w.heap.size w.heap.size w1.heap.size c h mp ml (.slice b first.length cap2) ⟨first, Mp.none⟩ pre V ∧ Holds V W.heap.size 85 [.int .i64 ek, .int .i64 etm, .int .i64 eco, .int .i64 ebl, .int .i64 etr, .int .i64 ela, .int .i64 ead, .int .u64 eva, .int .i64 ecd, .int .i64 pl, .pointer po], fun u Y Z row hs hg hr => ⟨fiI_own (by obtain ⟨z1, z2, z3, z4, z5⟩ := Hz.out; omega) Hmlt.out pre Y Z row hs.1 hg hr, ownFrom_holds W0.heap.size W.heap.size _ (fun _ : Unit => [.int .i64 ek, .int .i64 etm, .int .i64 eco, .int .i64 ebl, .int .i64 etr, .int .i64 ela, .int .i64 ead, .int .u64 eva, .int .i64 ecd, .int .i64 pl, .pointer po]) () Y Z row hs.2 hg hr⟩, HX.out, ?_⟩
      rintro W2 - - ⟨⟨hT2, hS2, hM2⟩, hbx2⟩
      rw [Hmw.out] at hM2
      have hn2 : Holds W2 w2.heap.size 94 [.pointer (some ⟨mp, 0, none⟩)] := hT2.holds (fun e => by obtain ⟨z1, z2, z3, z4, z5⟩ := Hz.out; omega) Hnb.out
      have hB2l : W.heap.size < W2.heap.size := hbx2.lt
      have x9 := hn2.cell (i := 0) rfl
      have y0 := hbx2.cell (i := 0) rfl
      have y1 := hbx2.cell (i := 1) rfl
      have y2 := hbx2.cell (i := 2) rfl
      have y3 := hbx2.cell (i := 3) rfl
      have y4 := hbx2.cell (i := 4) rfl
      have y5 := hbx2.cell (i := 5) rfl
      have y6 := hbx2.cell (i := 6) rfl
      have y7 := hbx2.cell (i := 7) rfl
      have y8 := hbx2.cell (i := 8) rfl
      have y10 := hbx2.cell (i := 10) rfl
      have y11 := hbx2.cell (i := 9) rfl
      have HT2 := Lib.hid hT2; clear hT2
      have HS2 := Lib.hid hS2; clear hS2
      have HM2 := Lib.hid hM2; clear hM2
      have HPA2 := Lib.hid (HPA.out W2 HS2.out HM2.out)
      unfold moVal at HPA2
      simp only at HPA2
      clear hn2 hbx2
      gi_wp2_with (gi_at_call 37; refine (CallsIn.inRound _ (callsIn_wide.2 HPA2.out)).mono ?_; rintro z w4 ⟨rfl, hm4, ht4⟩; have Hm4 := Lib.hid hm4; have Ht4 := Lib.hid ht4; clear hm4 ht4)
      have hT4 := Ht4.out.mono (D := fun k => W0.heap.size ≤ k ∨ k = ml) (fun k _ h => .inr h)
      refine ⟨Ht4.out.keepsFrom (fun k o h hk _ => by have := Hmlt.out; omega), hT4, HT2.out.trans hT4, HS2.out.frame hT4 HCF.out, ?_⟩
      rw [List.length_append, List.length_singleton, Hfa.out]; exact Hm4.out
    case done =>
      rintro W ⟨hT, -, hm⟩ hK
      rw [List.length_range] at hm
      have hfull : finalM ⟨first, Mp.none⟩ ((moments h c.rd).take h.length) = finalM ⟨first, Mp.none⟩ (moments h c.rd) := by rw [List.take_of_length_le (by rw [moments_len]; exact Nat.le_refl _)]
      rw [hfull] at hm
      clear hfull
      have hn1 : Holds W w2.heap.size 94 [.pointer (some ⟨mp, 0, none⟩)] := hT.holds (fun e => by obtain ⟨z1, z2, z3, z4, z5⟩ := Hz.out; omega) Hnb.out
      have HK := Lib.hid hK; clear hK
      have HT := Lib.hid hT; clear hT
      have HM := Lib.hid hm; clear hm
      have HN1 := Lib.hid hn1; clear hn1
      have hbl : Below w.heap.size w W := Hbel0.out.trans (HT.out.below Hbel0.out.size (fun k h => by obtain ⟨z1, z2, z3, z4, z5⟩ := Hz.out; omega))
      have HBL := Lib.hid hbl; clear hbl
      have hlt : W0.heap.size < W.heap.size := (Array.getElem?_eq_some_iff.1 HK.out).1
      obtain ⟨i0, hi0, hz0, hz1, hz2⟩ := info_parts Try.infoU
      have HI0 := Lib.hid hi0; clear hi0
      have HZ0 := Lib.hid hz0; clear hz0
      have HZ1 := Lib.hid hz1; clear hz1
      have HZ2 := Lib.hid hz2; clear hz2
      gi_wp2
      gi_loopw [13, 14, 39] (fun v _ i wr => ∃ k : Nat, k ≤ nw ∧ i = .int .i64 k ∧ wr.ownsRow W.heap.size 46 1 v k ((wordsP (finalM ⟨first, Mp.none⟩ (moments h c.rd)) k).map (.int .u64)) ∧ Below W.heap.size W wr) (fun _ _ i _ => nw - (intOf i).toNat)
      case atStart => exact ⟨0, Nat.zero_le _, rfl, World.ownsRow_nil _ _ _ _, Below.refl _ _⟩
      case round =>
        obtain ⟨k, hk, rfl, hrow, hbw⟩ := hrel
        have Hrow := Lib.hid hrow; clear hrow
        have Hbw := Lib.hid hbw; clear hbw
        have hmr := HM.out.below Hbw.out
        have x10 := (HN1.out.below Hbw.out).cell (i := 0) rfl
        have Hmr := Lib.hid hmr; clear hmr
        by_cases hlt2 : k < nw
        · have HW : Hid (Calls Try.prog 38 #[.pointer (some ⟨mp, 0, none⟩), .int .i64 (k : Int)] wr fun z w' => z = .returned (.int .u64 ((finalM ⟨first, Mp.none⟩ (moments h c.rd)).word (k : Int))) ∧ wr = w') := Lib.hid (word_any Hmr.out _ (by omega) (WalkArith.wf_i64 (by omega)))
          obtain ⟨wv, hwv⟩ : ∃ wv, (finalM ⟨first, Mp.none⟩ (moments h c.rd)).word (k : Int) = wv := ⟨_, rfl⟩
          rw [hwv] at HW
          have HWV := Lib.hid hwv; clear hwv
          gi_wp2_with (first
            | (gi_at_call 38; refine (callsIn_wide.2 HW.out).mono ?_; rintro z w3 ⟨rfl, rfl⟩)
            | (gi_at_builtin; refine wpListIn_append_own_at _ rfl _ _ 51 rfl W.heap.size 46 i0 _ 1 8 Try.underlying51 HI0.out HZ0.out HZ1.out HZ2.out rfl (by decide) u13 k _ rfl (World.ownsRow.alloc Hrow.out _) ⟨wr.heap.size, 0, none⟩ 1 1 [.int .u64 wv] rfl rfl (World.news_of_block (t := 46) (fr := (0, 0)) (new_block wr _)) (by simp [Value.oneCell']) (by unfold maxLen; omega) (by omega) (by have := Hbw.out.size; simp; omega) ?_; intro v6 w6 hown6 hgrow6 hnil6 hat6; have Hown6 := Lib.hid hown6; have HB6 := Lib.hid ((Hbw.out.alloc Hbw.out.size (.cells #[.int .u64 wv] 46)).grown hgrow6 (by have := Hbw.out.size; simp; omega) (fun g e => (owns_lt Hrow.out e).1)); clear hown6 hgrow6 hnil6 hat6))
          go_roundw
          case rel => exact ⟨k + 1, by omega, by go_num, by rw [wordsP_succ, List.map_append, HWV.out]; exact Hown6.out, HB6.out⟩
          case measure => simp [intOf]; omega
        · obtain rfl : k = nw := by omega
          gi_wp2
          have hK2 : wr.heap[W0.heap.size]? = some (.deferred (some [])) := (Hbw.out.block _ hlt).trans HK.out
          refine leaves_mark hK2 ⟨_, results_tmp2 rfl _ _ _, _, by rw [HJ.out]; rfl, ?_, (HBL.out.trans (Hbw.out.mono HBL.out.size)).trans (belowK_b (w := W0) Hbel0.out.size _ W0.heap.size _ _ (Nat.le_refl _) hK2 rfl rfl)⟩
          rw [HJ.out]
          have hl2 : (wordsP (finalM ⟨first, Mp.none⟩ (moments h c.rd)) k).length = k := by unfold wordsP; simp
          unfold RowU
          simp only [hl2]
          refine owns_mono (owns_same Hrow.out (fun g e => World.putObj_heap_other (fun e2 => ?_))) (fun g e => Nat.le_trans HBL.out.size (owns_lt Hrow.out e).1)
          obtain ⟨c2, hc2⟩ := owns_kind Hrow.out e
          rw [e2, hK2] at hc2
          cases hc2
    case stop =>
      rintro cd pre W _ h _
      exact h.elim

end Go.Proofs.Ytgjbhcnadenojaa
