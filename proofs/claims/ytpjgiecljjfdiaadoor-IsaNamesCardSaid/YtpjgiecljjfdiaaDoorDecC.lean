/- Decode: the instructions of bytes, at most 1024. Conditions: those stated in each theorem. -/
import Derived.Test.YtpjgiecljjfdiaaDoorDecB
import Derived.Test.YtpjgiecljjfdiaaDoorEncE
import Derived.BigFrameIn
import Derived.Shelf.Abstract
import Derived.Shelf.RegionOpen
import Derived.Maps.OwnIn
namespace Go.Proofs.YtpjgiecljjfdiaaDoor
open Go.RowKit Go.BigFrame Go.Shelf
attribute [local go_sem] Oper.semAt_some
attribute [local simp] wide_fn

theorem flatI_snoc (l : List In) (x : In) : flatI (l ++ [x]) = flatI l ++ x.cells := by simp [flatI, List.flatMap_append]
/-- Between two rounds: the box of the list, and its row. -/
def CollD (C : Nat → Prop) (n0 B0 : Nat) (W0 : World) (pre : List In) (W : World) : Prop :=
  (Tch C W0 W ∧ ∃ v, Holds W n0 40 [v] ∧ W.ownsRow B0 23 5 v pre.length (flatI pre)) ∧ pre.length ≤ 1024
theorem collD_own {C : Nat → Prop} {n0 B0 : Nat} {W0 : World} (h : W0.heap.size = B0) : OwnFrom B0 (CollD C n0 B0 W0) :=
  OwnFrom.and (OwnFrom.and (ownFrom_tch (Nat.le_of_eq h)) (fun s X Y row hs hg hr => by
    obtain ⟨v, h1, h2⟩ := hs
    exact ⟨v, ownFrom_holds B0 n0 _ (fun _ : List In => [v]) s X Y row h1 hg hr, ownsRow_own B0 B0 _ _ v (fun s : List In => s.length) (fun s => flatI s) s X Y row h2 hg hr⟩)) (fun _ _ _ _ hs _ _ => hs)
/-- Where there are enough. -/
def CollX (C : Nat → Prop) (n0 B0 : Nat) (W0 : World) (cd : Code) (pre : List In) (W : World) : Prop :=
  (Tch C W0 W ∧ ∃ v, Holds W n0 40 [v] ∧ W.ownsRow B0 23 5 v 1024 (flatI (pre.take 1024))) ∧ cd = .exit 0 ∧ 1024 ≤ pre.length
theorem collX_own {C : Nat → Prop} {n0 B0 : Nat} {W0 : World} (h : W0.heap.size = B0) (cd : Code) : OwnFrom B0 (CollX C n0 B0 W0 cd) :=
  OwnFrom.and (OwnFrom.and (ownFrom_tch (Nat.le_of_eq h)) (fun s X Y row hs hg hr => by
    obtain ⟨v, h1, h2⟩ := hs
    exact ⟨v, ownFrom_holds B0 n0 _ (fun _ : List In => [v]) s X Y row h1 hg hr, ownsRow_own B0 B0 _ _ v (fun _ : List In => 1024) (fun s => flatI (s.take 1024)) s X Y row h2 hg hr⟩)) (fun _ _ _ _ hs _ _ => hs)
theorem lenI {V : World} {lo : Nat} {v : Value} {n : Nat} {xs : List Value} (h : V.ownsRow lo 23 5 v n xs) (W : World) : (Builtin.len_ #[40] 3 #[v]).run Tryd.prog W = .ok (.int .i64 n) W := by
  rcases owns_form h with ⟨rfl, rfl, -⟩ | ⟨g, cap, rfl, -⟩
  · kernel_rfl
  · simp [Builtin.len_, Tryd.underlying40]; rfl

set_option maxRecDepth 100000 in
set_option maxHeartbeats 4000000 in
theorem decode_in {q c cap : Nat} {bs : List UInt8} (w : World) (hq : q < w.heap.size) (hr : ∀ k x, bs[k]? = some x → w.rangeAt q (c + k * 1) (cell1 x)) (h8 : 8 ≤ bs.length) (hcap : bs.length ≤ cap) (hln : bs.length ≤ 1000000) :
    CallsIn Fence.wide 9 Tryd.prog 19 #[.slice (some ⟨q, c, none⟩) bs.length cap] w fun e w' => ∃ v, e = .returned v ∧ w'.ownsRow w.heap.size 23 5 v (decP bs).length (flatI (decP bs)) ∧ Below w.heap.size w w' := by
  have hbl0 : Below w.heap.size w ((w.alloc (.cells #[.slice none 0 0] 40)).alloc (.cells #[.slice (some ⟨q, c, none⟩) bs.length cap] 42)) := ((Below.refl _ w).alloc (Nat.le_refl _) _).alloc (by simp) _
  have hr0 : ∀ k x, bs[k]? = some x → ((w.alloc (.cells #[.slice none 0 0] 40)).alloc (.cells #[.slice (some ⟨q, c, none⟩) bs.length cap] 42)).rangeAt q (c + k * 1) (cell1 x) := fun k x hx i v hi => by
    rw [← hr k x hx i v hi]; exact World.cell?_of_block (a := ⟨q, c + k * 1 + i, none⟩) (hbl0.block q hq)
  have hbx : Holds ((w.alloc (.cells #[.slice none 0 0] 40)).alloc (.cells #[.slice (some ⟨q, c, none⟩) bs.length cap] 42)) w.heap.size 40 [.slice none 0 0] := (Holds.new w 40 [.slice none 0 0]).alloc _
  have hBc : ((w.alloc (.cells #[.slice none 0 0] 40)).alloc (.cells #[.slice (some ⟨q, c, none⟩) bs.length cap] 42)).cell? ⟨w.heap.size + 1, 0, none⟩ = some (.slice (some ⟨q, c, none⟩) bs.length cap) := (newAt (w := w.alloc _) (by simp) 42 [.slice (some ⟨q, c, none⟩) bs.length cap]).cell (i := 0) rfl
  have hs0 : ((w.alloc (.cells #[.slice none 0 0] 40)).alloc (.cells #[.slice (some ⟨q, c, none⟩) bs.length cap] 42)).heap.size = w.heap.size + 2 := by simp
  refine callsIn_of_wp_marks Tryd.func19 rfl trivial ?_ rfl
  simp only [Tryd.ntmps19, List.size_toArray, List.length_cons, List.length_nil, Nat.reduceAdd, Nat.reduceSub, Array.replicate_succ, Array.replicate_zero, List.push_toArray, List.append_toArray, List.nil_append, List.cons_append]
  have Hs0 := Lib.hid hs0; clear hs0
  have Hr0 := Lib.hid hr0; clear hr0 hr
  have Hbl0 := Lib.hid hbl0; clear hbl0
  have HBc := Lib.hid hBc; clear hBc
  have Hbx := Lib.hid hbx; clear hbx
  gi_wp2_with (gi_at_call 41; refine (callsIn_wide.2 (each_any _ (some ⟨q, c, none⟩) bs.length cap rfl _)).mono ?_; rintro e w2 ⟨rfl, rfl⟩)
  generalize (w.alloc (.cells #[.slice none 0 0] 40)).alloc (.cells #[.slice (some ⟨q, c, none⟩) bs.length cap] 42) = W0 at *
  refine each_own rfl rfl (gf := 52) (lb := #[.pointer (some ⟨w.heap.size + 1, 0, none⟩)]) rfl trivial (enters_of Tryd.func52 (by kernel_rfl) rfl)
    (each1_each (fun k => W0.heap.size ≤ k ∨ k = w.heap.size) _ W0 (by have := Hs0.out; omega) Hr0.out h8 hcap hln (fun _ h => .inl h) HBc.out (fun h => by have := Hs0.out; rcases h with h | h <;> omega)) kpC_t (kpC_b (.inl (by omega))) (fun _ => rfl)
    (CollD (fun k => W0.heap.size ≤ k ∨ k = w.heap.size) w.heap.size W0.heap.size W0) (CollX (fun k => W0.heap.size ≤ k ∨ k = w.heap.size) w.heap.size W0.heap.size W0) (collD_own rfl) (fun cd => collX_own rfl cd) ⟨⟨Tch.refl _ _, _, Hbx.out, World.ownsRow_nil _ _ _ _⟩, by simp⟩ ?round ?done ?stop
  case round =>
    rintro pre x rest W hx hl hi
    unfold encI RoundOwes
    clear hx hl
    have Hi := Lib.hid hi; clear hi
    dsimp only
    obtain ⟨xo, xa, xb, xc, xi⟩ := x
    unfold In.val
    have bW : Below W.heap.size W (W.alloc (.cells #[.int .i64 xo, .int .i64 xa, .int .i64 xb, .int .i64 xc, .int .i64 xi] 23)) := (Below.refl _ W).alloc (Nat.le_refl _) _
    have hT1 : Tch (fun k => W0.heap.size ≤ k ∨ k = w.heap.size) W (W.alloc (.cells #[.int .i64 xo, .int .i64 xa, .int .i64 xb, .int .i64 xc, .int .i64 xi] 23)) := Tch.of_idle bW
    have hX := collD_own (C := fun k => W0.heap.size ≤ k ∨ k = w.heap.size) (n0 := w.heap.size) (W0 := W0) rfl pre W _ none Hi.out (grown_below bW) (fun r e => by cases e)
    have hB1 : Holds (W.alloc (.cells #[.int .i64 xo, .int .i64 xa, .int .i64 xb, .int .i64 xc, .int .i64 xi] 23)) W.heap.size 23 [.int .i64 xo, .int .i64 xa, .int .i64 xb, .int .i64 xc, .int .i64 xi] := Holds.new W 23 [.int .i64 xo, .int .i64 xa, .int .i64 xb, .int .i64 xc, .int .i64 xi]
    have hKF : KeepsFrom W0.heap.size W (W.alloc (.cells #[.int .i64 xo, .int .i64 xa, .int .i64 xb, .int .i64 xc, .int .i64 xi] 23)) := ⟨bW.size, fun k o _ hk _ => (bW.block k (Array.getElem?_eq_some_iff.1 hk).1).trans hk⟩
    have HX := Lib.hid (And.intro hX hB1)
    have HT1 := Lib.hid (And.intro hKF hT1)
    have hsz : W0.heap.size ≤ W.heap.size := Hi.out.1.1.size
    clear bW hX hB1 hT1 hKF
    gi_wp2
    refine ⟨HT1.out.1, HT1.out.2, fun V => CollD (fun k => W0.heap.size ≤ k ∨ k = w.heap.size) w.heap.size W0.heap.size W0 pre V ∧ Holds V W.heap.size 23 [.int .i64 xo, .int .i64 xa, .int .i64 xb, .int .i64 xc, .int .i64 xi], fun u Y Z row hs hg hr => ⟨collD_own rfl pre Y Z row hs.1 hg hr, ownFrom_holds W0.heap.size W.heap.size _ (fun _ : Unit => [.int .i64 xo, .int .i64 xa, .int .i64 xb, .int .i64 xc, .int .i64 xi]) () Y Z row hs.2 hg hr⟩, HX.out, ?_⟩
    rintro W2 - - ⟨⟨⟨hT2, v, hv, hrow⟩, hpl⟩, hbx2⟩
    have q0 := hbx2.cell (i := 0) rfl
    have q1 := hbx2.cell (i := 1) rfl
    have q2 := hbx2.cell (i := 2) rfl
    have q3 := hbx2.cell (i := 3) rfl
    have q4 := hbx2.cell (i := 4) rfl
    have hc3 : W2.cell? ⟨w.heap.size, 0, none⟩ = some v := hv.cell (i := 0) rfl
    have hn0l : w.heap.size < W0.heap.size := by have := Hs0.out; omega
    have hs2 : W0.heap.size ≤ W2.heap.size := hT2.size
    obtain ⟨i0, z0, hi, hz0, hz1, hz2, hz3⟩ := info27
    have HI := Lib.hid hi; clear hi
    have HZ0 := Lib.hid hz0; clear hz0
    have HZ1 := Lib.hid hz1; clear hz1
    have HZ2 := Lib.hid hz2; clear hz2
    have HZ3 := Lib.hid hz3; clear hz3
    have hlen := lenI hrow
    have Hrow := Lib.hid hrow; clear hrow
    have Hv := Lib.hid hv; clear hv
    have HT2 := Lib.hid hT2; clear hT2
    clear hbx2 HX HT1
    by_cases hful : pre.length = 1024
    · have hful1 : ((pre.length : Nat) : Int) = 1024 := by omega
      rw [hful1] at hlen
      gi_wp2
      refine ⟨⟨Nat.le_refl _, fun _ _ _ h _ => h⟩, Tch.refl _ _, ⟨HT2.out, v, Hv.out, ?_⟩, rfl, by rw [List.length_append]; omega⟩
      have hro := Hrow.out
      rw [hful] at hro
      rw [List.take_append_of_le_length (by omega), List.take_of_length_le (by omega)]
      exact hro
    · have hne1 : (((pre.length : Nat) : Int) == 1024) = false := by rw [beq_eq_false_iff_ne]; omega
      gi_wp2_with (gi_at_builtin; refine wpListIn_append_own_at _ rfl _ _ 40 rfl W0.heap.size 23 i0 z0 5 40 Tryd.underlying40 HI.out HZ0.out HZ1.out HZ2.out HZ3.out (by decide) v pre.length _ rfl (Hrow.out.alloc _) ⟨W2.heap.size, 0, none⟩ 1 1 [.int .i64 xo, .int .i64 xa, .int .i64 xb, .int .i64 xc, .int .i64 xi] rfl rfl (World.news_of_block (t := 23) (fr := (0, 0)) (new_block W2 _)) (by simp [Value.oneCell']) (by unfold maxLen; omega) (by omega) (by simp; omega) ?_; intro v' w5 hown5 hgrow5 hnil5 hat5; obtain ⟨g, cap5, rfl, -, hglt⟩ := hown5.form (by omega); have hT5 : Tch (fun k => v.ownBlock = some k) W2 w5 := ((Tch.refl _ W2).alloc _).grown hgrow5 (fun k e => .inl e); have hv5 : Holds w5 w.heap.size 40 [v] := hT5.holds (fun e => by have := (owns_lt Hrow.out e).1; omega) Hv.out; have k5 : w5.cell? ⟨w.heap.size, 0, none⟩ = some v := hv5.cell (i := 0) rfl; have f5 := hv5.free 0; have Hown5 := Lib.hid hown5; have HT5 := Lib.hid hT5; have Hv5 := Lib.hid hv5; clear hown5 hgrow5 hnil5 hat5 hT5 hv5)
      have hT6 : Tch (fun k => v.ownBlock = some k ∨ k = w.heap.size) W2 (w5.setCell ⟨w.heap.size, 0, none⟩ (.slice (some ⟨g, 0, none⟩) (pre.length + 1) cap5)) := (HT5.out.mono (fun _ _ h => .inl h)).setCell (p := ⟨w.heap.size, 0, none⟩) (.inl (.inr rfl)) _
      refine ⟨hT6.keepsFrom (fun k o h hk ho => ?_), ?_, ⟨?_, .slice (some ⟨g, 0, none⟩) (pre.length + 1) cap5, Hv5.out.set 0 _, ?_⟩, by rw [List.length_append, List.length_singleton]; omega⟩
      · rcases h with h | h
        · obtain ⟨c, hc⟩ := owns_kind Hrow.out h
          rw [hc] at ho; cases ho; rfl
        · omega
      · exact hT6.mono (fun k _ h => h.imp (fun e => (owns_lt Hrow.out e).1) id)
      · exact HT2.out.trans (hT6.mono (fun k _ h => h.imp (fun e => (owns_lt Hrow.out e).1) id))
      · rw [List.length_append, List.length_singleton, flatI_snoc]
        exact ownsRow_setCell_other Hown5.out (a := ⟨w.heap.size, 0, none⟩) (fun h => by have := (owns_lt Hown5.out h).1; simp at this; omega) (.slice (some ⟨g, 0, none⟩) (pre.length + 1) cap5)
  case done =>
    rintro W ⟨⟨hT, v, hv, hrow⟩, hle1⟩ hK
    have hdp : decP bs = decAll bs := List.take_of_length_le hle1
    rw [← hdp] at hrow
    have hc3 : W.cell? ⟨w.heap.size, 0, none⟩ = some v := hv.cell (i := 0) rfl
    have hle : w.heap.size ≤ W0.heap.size := by have := Hs0.out; omega
    have hbel : Below w.heap.size w W := Hbl0.out.trans (hT.below hle (fun k h => by rcases h with h | h <;> omega))
    have Hbel := Lib.hid hbel; clear hbel
    have HK := Lib.hid hK; clear hK
    have Hrow := Lib.hid hrow; clear hrow
    have HT := Lib.hid hT; clear hT hv
    gi_wp2
    refine leaves_mark HK.out ⟨_, results_tmp rfl _ _ _, v, rfl, ?_, Hbel.out.trans (belowK_b (w := W0) hle W W0.heap.size _ _ (Nat.le_refl _) HK.out rfl rfl)⟩
    have hro := Hrow.out
    refine owns_mono (owns_same hro (fun g' e => World.putObj_heap_other (fun e2 => ?_))) (fun g' e => by have := (owns_lt hro e).1; omega)
    obtain ⟨c, hc⟩ := owns_kind hro e
    rw [e2, HK.out] at hc
    cases hc
  case stop =>
    rintro cd pre W hp ⟨⟨hT, v, hv, hrow⟩, rfl, hge⟩ hK
    have hdp : pre.take 1024 = decP bs := by
      obtain ⟨t, ht⟩ := hp
      unfold decP
      rw [← ht, List.take_append_of_le_length hge]
    have hdl : (decP bs).length = 1024 := by rw [← hdp, List.length_take]; omega
    rw [hdp, ← hdl] at hrow
    have hc3 : W.cell? ⟨w.heap.size, 0, none⟩ = some v := hv.cell (i := 0) rfl
    have hle : w.heap.size ≤ W0.heap.size := by have := Hs0.out; omega
    have hbel : Below w.heap.size w W := Hbl0.out.trans (hT.below hle (fun k h => by rcases h with h | h <;> omega))
    have Hbel := Lib.hid hbel; clear hbel
    have HK := Lib.hid hK; clear hK
    have Hrow := Lib.hid hrow; clear hrow
    have HT := Lib.hid hT; clear hT hv
    gi_wp2
    refine leaves_mark HK.out ⟨_, results_tmp rfl _ _ _, v, rfl, ?_, Hbel.out.trans (belowK_b (w := W0) hle W W0.heap.size _ _ (Nat.le_refl _) HK.out rfl rfl)⟩
    have hro := Hrow.out
    refine owns_mono (owns_same hro (fun g' e => World.putObj_heap_other (fun e2 => ?_))) (fun g' e => by have := (owns_lt hro e).1; omega)
    obtain ⟨c, hc⟩ := owns_kind hro e
    rw [e2, HK.out] at hc
    cases hc

theorem decode_some {q c cap : Nat} {bs : List UInt8} (w : World) (hq : q < w.heap.size) (hr : ∀ k x, bs[k]? = some x → w.rangeAt q (c + k * 1) (cell1 x)) (h8 : 8 ≤ bs.length) (hcap : bs.length ≤ cap) (hln : bs.length ≤ 1000000) :
    Calls Tryd.prog 19 #[.slice (some ⟨q, c, none⟩) bs.length cap] w fun e w' => ∃ v, e = .returned v ∧ w'.ownsRow w.heap.size 23 5 v (decP bs).length (flatI (decP bs)) ∧ Below w.heap.size w w' := callsIn_wide.1 (decode_in w hq hr h8 hcap hln)

end Go.Proofs.YtpjgiecljjfdiaaDoor
