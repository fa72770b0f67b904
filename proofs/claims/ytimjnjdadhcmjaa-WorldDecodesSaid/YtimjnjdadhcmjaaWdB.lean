/- A script's acts: the iterator, Collect, Decode. Conditions: those stated in each theorem. -/
import Derived.Test.YtimjnjdadhcmjaaWdA
import Derived.BigFrameIn
import Derived.Shelf.Abstract
import Derived.Shelf.RegionOpen
import Derived.Maps.OwnIn
namespace Go.Proofs.Ytimjnjdadhcmjaa
open Go.RowKit Go.BigFrame Go.Shelf
attribute [local go_sem] Oper.semAt_some
attribute [local simp] wide_fn

set_option maxHeartbeats 400000 in
theorem acts_of (a : Option Addr) (n cap : Nat) (w : World) : Calls Try.prog 7 #[.slice a n cap] w fun e w' => e = .returned (.func (.func 9) #[] #[.pointer (some ⟨w.heap.size, 0, none⟩)]) ∧ w.alloc (.cells #[.slice a n cap] 22) = w' := by
  go_enter Try.func7, Try.ntmps7
  go_wp2
  go_ret
  exact ⟨rfl, rfl⟩

/-- What it tells. -/
def encA (x : Ac) : Array Value := #[x.val]

set_option maxRecDepth 100000 in
set_option maxHeartbeats 2000000 in
theorem acts_each {a : Option Addr} {cap Bc : Nat} {bs : List UInt8} (C : Nat → Prop) (lp : Nat) (w : World) (hr : RowsIn w a 1 cell1 bs) (hcap : bs.length ≤ cap) (hln : bs.length ≤ 1000000)
    (hC : ∀ k, w.heap.size ≤ k → C k) (hB : w.cell? ⟨Bc, 0, none⟩ = some (.slice a bs.length cap)) (hCq : ∀ q c, a = some ⟨q, c, none⟩ → 3 ≤ bs.length → ¬ C q) :
    SeqEach Fence.wide Try.prog 9 #[.pointer (some ⟨Bc, 0, none⟩)] encA (KpC C) (actsL bs) w lp := by
  intro m J Jx W hW _ hJ hJx hY i0
  have cB : W.cell? ⟨Bc, 0, none⟩ = some (.slice a bs.length cap) := (hW.cell (World.block_lt_of_cell? _ _ hB)).trans hB
  have HrW := Lib.hid (hr.below hW)
  have HC : Hid (∀ k, W.heap.size ≤ k → C k) := Lib.hid (fun k h => hC k (Nat.le_trans hW.size h))
  have HY := Lib.hid hY; clear hY
  have HJ := Lib.hid hJ; clear hJ
  clear hr hB hJx
  have HCq := Lib.hid hCq; clear hCq hW
  have Hdl := Lib.hid (actsL_len _ bs (Nat.le_refl _))
  refine callsIn_of_wp Try.func9 rfl trivial ?_ rfl
  simp only [Try.ntmps9, List.size_toArray, List.length_cons, List.length_nil, Nat.reduceAdd, Nat.reduceSub, Array.replicate_succ, Array.replicate_zero, List.push_toArray, List.append_toArray, List.nil_append, List.cons_append]
  gi_wp2
  clear cB
  gi_loopw [3] (fun i wr => ∃ k : Nat, 3 * k ≤ bs.length ∧ (∃ a', i = .slice a' (bs.length - 3 * k) (cap - 3 * k) ∧ (3 * k + 3 ≤ bs.length → ∃ q c, a = some ⟨q, c, none⟩ ∧ a' = some ⟨q, c + 3 * k, none⟩)) ∧ J ((actsL bs).take k) wr ∧ Tch C W wr)
    (fun i _ => match i with | .slice _ n _ => n | _ => 0)
  case atStart => exact ⟨0, by omega, ⟨a, by simp, fun h => by
    rcases HrW.out with rfl | ⟨q, c, rfl, _⟩
    · simp at h
    · exact ⟨q, c, rfl, by simp⟩⟩, by simpa using i0, Tch.refl _ _⟩
  case round =>
    obtain ⟨k, hk, ⟨a', rfl, ha'⟩, hJs, hTr⟩ := hrel
    by_cases hlt : 3 * k + 3 ≤ bs.length
    · obtain ⟨q, c, rfl, rfl⟩ := ha' hlt
      clear ha'
      obtain ⟨b0, b1, b2, hat, h8b⟩ := actsL_at k bs hlt
      obtain ⟨hqW, hrw⟩ : q < W.heap.size ∧ ∀ j x, bs[j]? = some x → W.rangeAt q (c + j * 1) (cell1 x) := by
        rcases HrW.out with rfl | ⟨q', c', e, hq, h⟩
        · simp at hlt
        · cases e; exact ⟨hq, h⟩
      have hrr : ∀ j x, bs[j]? = some x → wr.rangeAt q (c + j * 1) (cell1 x) := fun j x hx i v hi => by
        rw [← hrw j x hx i v hi]; exact World.cell?_of_block (a := ⟨q, c + j * 1 + i, none⟩) (hTr.block q hqW (HCq.out q c rfl (by omega)))
      have hqr : q < wr.heap.size := Nat.lt_of_lt_of_le hqW hTr.size
      have hg := act_any q (c + 3 * k) (bs.length - 3 * k) (cap - 3 * k) b0 b1 b2 wr (by omega) (three hrr h8b) hqr
      generalize actB b0 b1 b2 = x at *
      have hsp : actsL bs = (actsL bs).take k ++ x :: (actsL bs).drop (k + 1) := by
        have hk' : k < (actsL bs).length := (List.getElem?_eq_some_iff.1 hat).1
        have hxe : (actsL bs)[k] = x := (List.getElem?_eq_some_iff.1 hat).2
        rw [← hxe, ← List.drop_eq_getElem_cons hk', List.take_append_drop]
      have htk : (actsL bs).take (k + 1) = (actsL bs).take k ++ [x] := by rw [List.take_add_one, hat]; rfl
      have Hsp := Lib.hid hsp; clear hsp
      have Htk := Lib.hid htk; clear htk
      have HG := Lib.hid hg; clear hg
      have HTr := Lib.hid hTr; clear hTr
      have HJs := Lib.hid hJs; clear hJs
      clear hrr hrw hat h8b
      have hge : (3 : Int) ≤ ((bs.length - 3 * k : Nat) : Int) := by omega
      gi_wp2_with (refine ⟨fun h => (by cases h), ?_⟩; gi_at_call 10; refine (callsIn_wide.2 HG.out).mono ?_; rintro e w2 ⟨rfl, hb2⟩; refine Hid.out ?_)
      refine Lib.hid ?_
      have hJ2 := HJ.out _ wr w2 none HJs.out (grown_below hb2) (fun r e => by cases e)
      obtain ⟨fn, tmps, assign, body, hy, hR⟩ := HY.out (m - 1) _ x _ w2 Hsp.out hJ2
      have HR := Lib.hid hR; clear hR hJ2
      have HT2 := Lib.hid (HTr.out.trans (Tch.of_idle hb2)); clear hb2
      unfold encA at hy
      gi_wp2
      refine ⟨fun h => (by cases h), HR.out.mono ?_⟩
      rintro e W3 (⟨rfl, hJ3, hk3⟩ | ⟨rfl, hJx3, _⟩)
      · have hJ4 := Lib.hid hJ3
        have hT3 := Lib.hid (HT2.out.trans hk3)
        clear hJ3 hk3 hy
        have hcc : 3 ≤ bs.length - 3 * k ∧ bs.length - 3 * k ≤ cap - 3 * k := by omega
        have hci : (3 : Int) ≤ ((bs.length - 3 * k : Nat) : Int) ∧ ((bs.length - 3 * k : Nat) : Int) ≤ ((cap - 3 * k : Nat) : Int) := by omega
        obtain ⟨hcc1, hcc2⟩ := hcc
        obtain ⟨hci1, hci2⟩ := hci
        gi_wp2
        go_roundw
        case rel => exact ⟨k + 1, by omega, ⟨_, by rw [show bs.length - 3 * (k + 1) = bs.length - 3 * k - 3 by omega, show cap - 3 * (k + 1) = cap - 3 * k - 3 by omega], fun h => ⟨q, c, rfl, by
          rw [if_neg (by omega), show 3 * (k + 1) = 3 * k + 3 by omega, Nat.add_assoc]⟩⟩, by rw [Htk.out]; exact hJ4.out, hT3.out⟩
        case measure => dsimp only; omega
      · gi_wp2
        refine bodyPost_ret (results_none rfl _ _ _) rfl ?_
        exact ⟨⟨_, rfl⟩, .inr ⟨_, ⟨(actsL bs).drop (k + 1), (by rw [List.append_assoc]; exact Hsp.out.symm)⟩, hJx3⟩⟩
    · have hfull : (actsL bs).take k = actsL bs := List.take_of_length_le (by rw [Hdl.out]; omega)
      rw [hfull] at hJs
      have hlt2 : ((bs.length - 3 * k : Nat) : Int) < 3 := by omega
      gi_wp2
      go_end0
      exact ⟨⟨_, rfl⟩, .inl hJs⟩

/-- Between two rounds: the box of the list, and its row. -/
def CollA (C : Nat → Prop) (n0 B0 : Nat) (W0 : World) (pre : List Ac) (W : World) : Prop :=
  (Tch C W0 W ∧ ∃ v, Holds W n0 23 [v] ∧ W.ownsRow B0 26 3 v pre.length (flatA pre)) ∧ pre.length ≤ 1000000
theorem collA_own {C : Nat → Prop} {n0 B0 : Nat} {W0 : World} (h : W0.heap.size = B0) : OwnFrom B0 (CollA C n0 B0 W0) :=
  OwnFrom.and (OwnFrom.and (ownFrom_tch (Nat.le_of_eq h)) (fun s X Y row hs hg hr => by
    obtain ⟨v, h1, h2⟩ := hs
    exact ⟨v, ownFrom_holds B0 n0 _ (fun _ : List Ac => [v]) s X Y row h1 hg hr, ownsRow_own B0 B0 _ _ v (fun s : List Ac => s.length) (fun s => flatA s) s X Y row h2 hg hr⟩)) (fun _ _ _ _ hs _ _ => hs)
def CollN (_ : Code) (_ : List Ac) (_ : World) : Prop := False
theorem collN_own {B : Nat} (c : Code) : OwnFrom B (CollN c) := fun _ _ _ _ hs _ _ => hs
theorem lenA {V : World} {lo : Nat} {v : Value} {n : Nat} {xs : List Value} (h : V.ownsRow lo 26 3 v n xs) (W : World) : (Builtin.len_ #[23] 3 #[v]).run Try.prog W = .ok (.int .i64 n) W := by
  rcases owns_form h with ⟨rfl, rfl, -⟩ | ⟨g, cap, rfl, -⟩
  · kernel_rfl
  · simp [Builtin.len_, Try.underlying23]; rfl

set_option maxRecDepth 100000 in
set_option maxHeartbeats 4000000 in
theorem appendA_in {a : Option Addr} {cap Bc : Nat} {bs : List UInt8} (w : World) (hr : RowsIn w a 1 cell1 bs) (hcap : bs.length ≤ cap) (hln : bs.length ≤ 1000000) (hB : w.cell? ⟨Bc, 0, none⟩ = some (.slice a bs.length cap)) :
    CallsIn Fence.wide 9 Try.prog 8 #[.slice none 0 0, .func (.func 9) #[] #[.pointer (some ⟨Bc, 0, none⟩)]] w fun e w' => ∃ v, e = .returned v ∧ w'.ownsRow w.heap.size 26 3 v (actsL bs).length (flatA (actsL bs)) ∧ Below w.heap.size w w' := by
  have hBl := World.block_lt_of_cell? _ _ hB
  have hbl0 : Below w.heap.size w (w.alloc (.cells #[.slice none 0 0] 23)) := (Below.refl _ w).alloc (Nat.le_refl _) _
  have hr0 := hr.below hbl0
  have hbx : Holds (w.alloc (.cells #[.slice none 0 0] 23)) w.heap.size 23 [.slice none 0 0] := Holds.new w 23 [.slice none 0 0]
  have hBc : (w.alloc (.cells #[.slice none 0 0] 23)).cell? ⟨Bc, 0, none⟩ = some (.slice a bs.length cap) := (hbl0.cell hBl).trans hB
  have hs0 : (w.alloc (.cells #[.slice none 0 0] 23)).heap.size = w.heap.size + 1 := by simp
  have hqb : ∀ q c, a = some ⟨q, c, none⟩ → 3 ≤ bs.length → q < w.heap.size := fun q c e h3 => by
    rcases hr with rfl | ⟨q', c', e', hq, _⟩
    · simp at h3
    · rw [e] at e'; cases e'; exact hq
  have Hdl := Lib.hid (actsL_len _ bs (Nat.le_refl _))
  refine callsIn_of_wp_marks Try.func8 rfl trivial ?_ rfl
  simp only [Try.ntmps8, List.size_toArray, List.length_cons, List.length_nil, Nat.reduceAdd, Nat.reduceSub, Array.replicate_succ, Array.replicate_zero, List.push_toArray, List.append_toArray, List.nil_append, List.cons_append]
  have Hs0 := Lib.hid hs0; clear hs0
  have Hr0 := Lib.hid hr0; clear hr0 hr
  have Hbl0 := Lib.hid hbl0; clear hbl0
  have HBc := Lib.hid hBc; clear hBc hB
  have Hbx := Lib.hid hbx; clear hbx
  have Hqb := Lib.hid hqb; clear hqb
  gi_wp2
  generalize w.alloc (.cells #[.slice none 0 0] 23) = W0 at *
  refine each_own rfl rfl (gf := 9) (lb := #[.pointer (some ⟨Bc, 0, none⟩)]) rfl trivial (enters_of Try.func9 (by kernel_rfl) rfl)
    (acts_each (fun k => W0.heap.size ≤ k ∨ k = w.heap.size) _ W0 Hr0.out hcap hln (fun _ h => .inl h) HBc.out (fun q c e h3 h => by have := Hs0.out; have := Hqb.out q c e h3; rcases h with h | h <;> omega)) kpC_t (kpC_b (.inl (by omega))) (fun _ => rfl)
    (CollA (fun k => W0.heap.size ≤ k ∨ k = w.heap.size) w.heap.size W0.heap.size W0) CollN (collA_own rfl) (fun cd => collN_own cd) ⟨⟨Tch.refl _ _, _, Hbx.out, World.ownsRow_nil _ _ _ _⟩, by simp⟩ ?round ?done ?stop
  case round =>
    rintro pre x rest W hx hl hi
    unfold encA RoundOwes
    have hple : pre.length < (actsL bs).length := by rw [hx]; simp
    have hpl6 : pre.length + 1 ≤ 1000000 := by rw [Hdl.out] at hple; omega
    clear hx hl hple
    have Hi := Lib.hid hi; clear hi
    dsimp only
    obtain ⟨xo, xa, xb⟩ := x
    unfold Ac.val
    have bW : Below W.heap.size W (W.alloc (.cells #[.int .i64 xo, .int .i64 xa, .int .i64 xb] 26)) := (Below.refl _ W).alloc (Nat.le_refl _) _
    have hT1 : Tch (fun k => W0.heap.size ≤ k ∨ k = w.heap.size) W (W.alloc (.cells #[.int .i64 xo, .int .i64 xa, .int .i64 xb] 26)) := Tch.of_idle bW
    have hX := collA_own (C := fun k => W0.heap.size ≤ k ∨ k = w.heap.size) (n0 := w.heap.size) (W0 := W0) rfl pre W _ none Hi.out (grown_below bW) (fun r e => by cases e)
    have hB1 : Holds (W.alloc (.cells #[.int .i64 xo, .int .i64 xa, .int .i64 xb] 26)) W.heap.size 26 [.int .i64 xo, .int .i64 xa, .int .i64 xb] := Holds.new W 26 [.int .i64 xo, .int .i64 xa, .int .i64 xb]
    have hKF : KeepsFrom W0.heap.size W (W.alloc (.cells #[.int .i64 xo, .int .i64 xa, .int .i64 xb] 26)) := ⟨bW.size, fun k o _ hk _ => (bW.block k (Array.getElem?_eq_some_iff.1 hk).1).trans hk⟩
    have HX := Lib.hid (And.intro hX hB1)
    have HT1 := Lib.hid (And.intro hKF hT1)
    have hsz : W0.heap.size ≤ W.heap.size := Hi.out.1.1.size
    clear bW hX hB1 hT1 hKF
    gi_wp2
    refine ⟨HT1.out.1, HT1.out.2, fun V => CollA (fun k => W0.heap.size ≤ k ∨ k = w.heap.size) w.heap.size W0.heap.size W0 pre V ∧ Holds V W.heap.size 26 [.int .i64 xo, .int .i64 xa, .int .i64 xb], fun u Y Z row hs hg hr => ⟨collA_own rfl pre Y Z row hs.1 hg hr, ownFrom_holds W0.heap.size W.heap.size _ (fun _ : Unit => [.int .i64 xo, .int .i64 xa, .int .i64 xb]) () Y Z row hs.2 hg hr⟩, HX.out, ?_⟩
    rintro W2 - - ⟨⟨⟨hT2, v, hv, hrow⟩, hpl⟩, hbx2⟩
    have q0 := hbx2.cell (i := 0) rfl
    have q1 := hbx2.cell (i := 1) rfl
    have q2 := hbx2.cell (i := 2) rfl
    have hc3 : W2.cell? ⟨w.heap.size, 0, none⟩ = some v := hv.cell (i := 0) rfl
    have hn0l : w.heap.size < W0.heap.size := by have := Hs0.out; omega
    have hs2 : W0.heap.size ≤ W2.heap.size := hT2.size
    obtain ⟨i0, z0, hi, hz0, hz1, hz2, hz3⟩ := info_act
    have HI := Lib.hid hi; clear hi
    have HZ0 := Lib.hid hz0; clear hz0
    have HZ1 := Lib.hid hz1; clear hz1
    have HZ2 := Lib.hid hz2; clear hz2
    have HZ3 := Lib.hid hz3; clear hz3
    have hlen := lenA hrow
    have Hrow := Lib.hid hrow; clear hrow
    have Hv := Lib.hid hv; clear hv
    have HT2 := Lib.hid hT2; clear hT2
    clear hbx2 HX HT1
    gi_wp2_with (gi_at_builtin; refine wpListIn_append_own_at _ rfl _ _ 23 rfl W0.heap.size 26 i0 z0 3 24 Try.underlying23 HI.out HZ0.out HZ1.out HZ2.out HZ3.out (by decide) v pre.length _ rfl (Hrow.out.alloc _) ⟨W2.heap.size, 0, none⟩ 1 1 [.int .i64 xo, .int .i64 xa, .int .i64 xb] rfl rfl (World.news_of_block (t := 26) (fr := (0, 0)) (new_block W2 _)) (by simp [Value.oneCell']) (by unfold maxLen; omega) (by omega) (by simp; omega) ?_; intro v' w5 hown5 hgrow5 hnil5 hat5; obtain ⟨g, cap5, rfl, -, hglt⟩ := hown5.form (by omega); have hT5 : Tch (fun k => v.ownBlock = some k) W2 w5 := ((Tch.refl _ W2).alloc _).grown hgrow5 (fun k e => .inl e); have hv5 : Holds w5 w.heap.size 23 [v] := hT5.holds (fun e => by have := (owns_lt Hrow.out e).1; omega) Hv.out; have k5 : w5.cell? ⟨w.heap.size, 0, none⟩ = some v := hv5.cell (i := 0) rfl; have f5 := hv5.free 0; have Hown5 := Lib.hid hown5; have HT5 := Lib.hid hT5; have Hv5 := Lib.hid hv5; clear hown5 hgrow5 hnil5 hat5 hT5 hv5)
    have hT6 : Tch (fun k => v.ownBlock = some k ∨ k = w.heap.size) W2 (w5.setCell ⟨w.heap.size, 0, none⟩ (.slice (some ⟨g, 0, none⟩) (pre.length + 1) cap5)) := (HT5.out.mono (fun _ _ h => .inl h)).setCell (p := ⟨w.heap.size, 0, none⟩) (.inl (.inr rfl)) _
    refine ⟨hT6.keepsFrom (fun k o h hk ho => ?_), ?_, ⟨?_, .slice (some ⟨g, 0, none⟩) (pre.length + 1) cap5, Hv5.out.set 0 _, ?_⟩, by rw [List.length_append, List.length_singleton]; omega⟩
    · rcases h with h | h
      · obtain ⟨c, hc⟩ := owns_kind Hrow.out h
        rw [hc] at ho; cases ho; rfl
      · omega
    · exact hT6.mono (fun k _ h => h.imp (fun e => (owns_lt Hrow.out e).1) id)
    · exact HT2.out.trans (hT6.mono (fun k _ h => h.imp (fun e => (owns_lt Hrow.out e).1) id))
    · rw [List.length_append, List.length_singleton, flatA_snoc]
      exact ownsRow_setCell_other Hown5.out (a := ⟨w.heap.size, 0, none⟩) (fun h => by have := (owns_lt Hown5.out h).1; simp at this; omega) (.slice (some ⟨g, 0, none⟩) (pre.length + 1) cap5)
  case done =>
    rintro W ⟨⟨hT, v, hv, hrow⟩, hle1⟩ hK
    have hc3 : W.cell? ⟨w.heap.size, 0, none⟩ = some v := hv.cell (i := 0) rfl
    have hle : w.heap.size ≤ W0.heap.size := by have := Hs0.out; omega
    have hbel : Below w.heap.size w W := Hbl0.out.trans (hT.below hle (fun k h => by rcases h with h | h <;> omega))
    have Hbel := Lib.hid hbel; clear hbel
    have HK := Lib.hid hK; clear hK
    have Hrow := Lib.hid hrow; clear hrow
    have HT := Lib.hid hT; clear hT hv
    gi_wp2
    refine leaves_mark HK.out ⟨_, results_tmp rfl _ _ _, v, rfl, ?_, Hbel.out.trans (belowK_b (w := W0) hle W W0.heap.size _ _ (Nat.le_refl _) HK.out rfl rfl)⟩
    have hro := Hrow.out
    refine owns_mono (owns_same hro (fun g' e => World.putObj_heap_other (fun e2 => ?_))) (fun g' e => by have := (owns_lt hro e).1; omega)
    obtain ⟨c, hc⟩ := owns_kind hro e
    rw [e2, HK.out] at hc
    cases hc
  case stop =>
    rintro c pre W _ h _
    exact h.elim

/-- Decode: the acts, in new memory. -/
theorem decodeA_any {a : Option Addr} {cap : Nat} {bs : List UInt8} (w : World) (hr : RowsIn w a 1 cell1 bs) (hcap : bs.length ≤ cap) (hln : bs.length ≤ 1000000) :
    Calls Try.prog 4 #[.slice a bs.length cap] w fun e w' => ∃ v, e = .returned v ∧ w'.ownsRow w.heap.size 26 3 v (actsL bs).length (flatA (actsL bs)) ∧ Below w.heap.size w w' := by
  have hb1 : Below w.heap.size w (w.alloc (.cells #[.slice a bs.length cap] 22)) := (Below.refl _ w).alloc (Nat.le_refl _) _
  have hB : (w.alloc (.cells #[.slice a bs.length cap] 22)).cell? ⟨w.heap.size, 0, none⟩ = some (.slice a bs.length cap) := (Holds.new w 22 [.slice a bs.length cap]).cell (i := 0) rfl
  have hA := callsIn_wide.1 (appendA_in (w.alloc (.cells #[.slice a bs.length cap] 22)) (hr.below hb1) hcap hln hB)
  have HA := Lib.hid hA; clear hA hB hr
  have Hb1 := Lib.hid hb1; clear hb1
  have HC : Hid (Calls Try.prog 6 #[.func (.func 9) #[] #[.pointer (some ⟨w.heap.size, 0, none⟩)]] (w.alloc (.cells #[.slice a bs.length cap] 22)) fun e w' => ∃ v, e = .returned v ∧ w'.ownsRow w.heap.size 26 3 v (actsL bs).length (flatA (actsL bs)) ∧ Below w.heap.size w w') := by
    refine Lib.hid ?_
    go_enter Try.func6, Try.ntmps6
    go_wp2_with (refine HA.out.mono ?_; rintro e w' ⟨v, rfl, hrow, hb⟩; refine Hid.out ?_)
    refine Lib.hid ?_
    have Hf := Lib.hid (And.intro (owns_mono hrow (lo' := w.heap.size) (fun g e => by have := (owns_lt hrow e).1; simp at this; omega)) (Hb1.out.trans (hb.mono (by simp)))); clear hrow hb
    go_wp2
    go_ret
    exact ⟨v, rfl, Hf.out⟩
  go_enter Try.func4, Try.ntmps4
  go_wp2_with (go_at_call 7; refine (acts_of a bs.length cap _).mono ?_; rintro e w2 ⟨rfl, rfl⟩; refine Hid.out ?_)
  refine Lib.hid ?_
  go_wp2_with (go_at_call 6; refine HC.out.mono ?_; rintro e w2 ⟨v, rfl, hrow, hb⟩; refine Hid.out ?_)
  refine Lib.hid ?_
  have Hf := Lib.hid (And.intro hrow hb); clear hrow hb
  go_wp2
  go_ret
  exact ⟨v, rfl, Hf.out⟩

end Go.Proofs.Ytimjnjdadhcmjaa
