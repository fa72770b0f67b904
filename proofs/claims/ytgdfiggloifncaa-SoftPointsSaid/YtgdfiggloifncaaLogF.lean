/- A log: told, Reads, Writes. Conditions: those stated in each theorem. -/
import Derived.Test.YtgdfiggloifncaaLogE
namespace Go.Proofs.Ytgdfiggloifncaa
open Go.RowKit Go.BigFrame Go.Shelf Go.Maps
attribute [local go_sem] Oper.semAt_some
attribute [local simp] wide_fn

/-- A row of pairs that the call made. -/
def RowL (w : World) (lo : Nat) (v : Value) (l : List Pr) : Prop := w.ownsRow lo 84 2 v l.length (flatP l)

theorem tk_succ {l : List Pr} {k : Nat} {x : Pr} (h : l[k]? = some x) : l.take (k + 1) = l.take k ++ [x] := by simp [List.take_add_one, h]
/-- Between two rounds of told: the box of 'all', and its row. -/
def CollL (l : List Pr) (C : Nat → Prop) (n0 B0 : Nat) (W0 : World) (pre : List Nat) (W : World) : Prop :=
  Tch C W0 W ∧ ∃ v, Holds W n0 27 [v] ∧ W.ownsRow B0 84 2 v pre.length (flatP (l.take pre.length))
theorem collL_own {l : List Pr} {C : Nat → Prop} {n0 B0 : Nat} {W0 : World} (h : W0.heap.size = B0) : OwnFrom B0 (CollL l C n0 B0 W0) :=
  OwnFrom.and (ownFrom_tch (Nat.le_of_eq h)) (fun s X Y row hs hg hr => by
    obtain ⟨v, h1, h2⟩ := hs
    exact ⟨v, ownFrom_holds B0 n0 _ (fun _ : List Nat => [v]) s X Y row h1 hg hr, ownsRow_own B0 B0 _ _ v (fun s : List Nat => s.length) (fun s => flatP (l.take s.length)) s X Y row h2 hg hr⟩)
def NoXN (_ : Code) (_ : List Nat) (_ : World) : Prop := False
theorem noXN_own {B : Nat} (c : Code) : OwnFrom B (NoXN c) := fun _ _ _ _ hs _ _ => hs
theorem leaf_pre {n k : Nat} {pre rest : List Nat} (h : List.range n = pre ++ k :: rest) : pre.length = k ∧ k < n := by
  have h1 := congrArg (fun s => s[pre.length]?) h
  have h2 : pre.length < n := by
    have := congrArg List.length h
    simp at this; omega
  simp [h2] at h1
  omega

set_option maxRecDepth 100000 in
set_option maxHeartbeats 2000000 in
theorem told_in {L off : Nat} {pv : Value} {l : List Pr} (w : World) (hrow : w.ownsRow 0 84 2 pv l.length (flatP l)) (hln : l.length ≤ 128) (h0 : w.cell? ⟨L, off, none⟩ = some pv) :
    CallsIn Fence.wide 9 Try.prog 81 #[.pointer (some ⟨L, off, none⟩)] w fun e w' => ∃ v, e = .returned v ∧ RowL w' w.heap.size v l ∧ Below w.heap.size w w' := by
  have hL := World.block_lt_of_cell? _ _ h0
  have hgl : ∀ g, pv.ownBlock = some g → g < w.heap.size := fun g e => (owns_lt hrow e).2
  have hbl0 : Below w.heap.size w ((w.alloc (.cells #[.slice none 0 0] 27)).alloc (.cells #[.pointer (some ⟨L, off, none⟩)] 108)) := ((Below.refl _ w).alloc (Nat.le_refl _) _).alloc (by simp) _
  have hr0 := owns_same hrow (w' := (w.alloc (.cells #[.slice none 0 0] 27)).alloc (.cells #[.pointer (some ⟨L, off, none⟩)] 108)) (fun g e => hbl0.block g (hgl g e))
  have hc0 := (hbl0.cell (p := ⟨L, off, none⟩) hL).trans h0
  have hbx : Holds ((w.alloc (.cells #[.slice none 0 0] 27)).alloc (.cells #[.pointer (some ⟨L, off, none⟩)] 108)) w.heap.size 27 [.slice none 0 0] := (Holds.new w 27 [.slice none 0 0]).alloc _
  have hBc : ((w.alloc (.cells #[.slice none 0 0] 27)).alloc (.cells #[.pointer (some ⟨L, off, none⟩)] 108)).cell? ⟨w.heap.size + 1, 0, none⟩ = some (.pointer (some ⟨L, off, none⟩)) := by
    have := (Holds.new (w.alloc (.cells #[.slice none 0 0] 27)) 108 [.pointer (some ⟨L, off, none⟩)]).cell (i := 0) rfl
    rwa [World.size_alloc] at this
  have hs0 : ((w.alloc (.cells #[.slice none 0 0] 27)).alloc (.cells #[.pointer (some ⟨L, off, none⟩)] 108)).heap.size = w.heap.size + 2 := by simp
  refine callsIn_of_wp_marks Try.func81 rfl trivial ?_ rfl
  simp only [Try.ntmps81, List.size_toArray, List.length_cons, List.length_nil, Nat.reduceAdd, Nat.reduceSub, Array.replicate_succ, Array.replicate_zero, List.push_toArray, List.append_toArray, List.nil_append, List.cons_append]
  have Hs0 := Lib.hid hs0; clear hs0
  have Hr0 := Lib.hid hr0; clear hr0 hrow
  have Hc0 := Lib.hid hc0; clear hc0 h0
  have Hbl0 := Lib.hid hbl0; clear hbl0
  have HBc := Lib.hid hBc; clear hBc
  have Hbx := Lib.hid hbx; clear hbx
  have Hgl := Lib.hid hgl; clear hgl
  gi_wp2_with (gi_at_call 98; refine (callsIn_wide.2 (each_any L off _)).mono ?_; rintro e w2 ⟨rfl, rfl⟩)
  generalize (w.alloc (.cells #[.slice none 0 0] 27)).alloc (.cells #[.pointer (some ⟨L, off, none⟩)] 108) = W0 at *
  refine each_own rfl rfl (gf := 105) (lb := #[.pointer (some ⟨w.heap.size + 1, 0, none⟩)]) rfl trivial (enters_of Try.func105 (by kernel_rfl) rfl)
    (each1_each (fun k => W0.heap.size ≤ k ∨ k = w.heap.size) _ W0 (fun _ h => .inl h) Hr0.out hln Hc0.out HBc.out (fun g e h => by have := Hgl.out g e; have := Hs0.out; rcases h with h | h <;> omega)) kpC_t (kpC_b (.inl (by omega))) (fun _ => rfl)
    (CollL l (fun k => W0.heap.size ≤ k ∨ k = w.heap.size) w.heap.size W0.heap.size W0) NoXN (collL_own rfl) noXN_own ⟨Tch.refl _ _, _, Hbx.out, World.ownsRow_nil _ _ _ _⟩ ?round ?done ?stop
  case round =>
    rintro pre k rest W hx hl hi
    obtain ⟨rfl, hk⟩ := leaf_pre hx
    obtain ⟨x, hxk⟩ : ∃ x, l[pre.length]? = some x := ⟨_, List.getElem?_eq_getElem hk⟩
    unfold encL RoundOwes
    rw [show l.getD pre.length Pr.zero = x from by simp [List.getD, hxk]]
    have Hxk := Lib.hid (tk_succ hxk)
    clear hx hl hxk
    have Hi := Lib.hid hi; clear hi
    dsimp only
    have bW : Below W.heap.size W (W.alloc (.cells #[.int .i64 x.a, .int .u64 x.v] 84)) := (Below.refl _ W).alloc (Nat.le_refl _) _
    have hT1 : Tch (fun k => W0.heap.size ≤ k ∨ k = w.heap.size) W (W.alloc (.cells #[.int .i64 x.a, .int .u64 x.v] 84)) := Tch.of_idle bW
    have hX := collL_own (l := l) (C := fun k => W0.heap.size ≤ k ∨ k = w.heap.size) (n0 := w.heap.size) (W0 := W0) rfl pre W _ none Hi.out (grown_below bW) (fun r e => by cases e)
    have hB1 : Holds (W.alloc (.cells #[.int .i64 x.a, .int .u64 x.v] 84)) W.heap.size 84 [.int .i64 x.a, .int .u64 x.v] := Holds.new W 84 [.int .i64 x.a, .int .u64 x.v]
    have hKF : KeepsFrom W0.heap.size W (W.alloc (.cells #[.int .i64 x.a, .int .u64 x.v] 84)) := ⟨bW.size, fun k o _ hk _ => (bW.block k (Array.getElem?_eq_some_iff.1 hk).1).trans hk⟩
    have HX := Lib.hid (And.intro hX hB1)
    have HT1 := Lib.hid (And.intro hKF hT1)
    have hsz : W0.heap.size ≤ W.heap.size := Hi.out.1.size
    clear bW hX hB1 hT1 hKF
    gi_wp2
    refine ⟨HT1.out.1, HT1.out.2, fun V => CollL l (fun k => W0.heap.size ≤ k ∨ k = w.heap.size) w.heap.size W0.heap.size W0 pre V ∧ Holds V W.heap.size 84 [.int .i64 x.a, .int .u64 x.v], fun u Y Z row hs hg hr => ⟨collL_own rfl pre Y Z row hs.1 hg hr, ownFrom_holds W0.heap.size W.heap.size _ (fun _ : Unit => [.int .i64 x.a, .int .u64 x.v]) () Y Z row hs.2 hg hr⟩, HX.out, ?_⟩
    rintro W2 - - ⟨⟨hT2, v, hv, hrow⟩, hbx2⟩
    obtain ⟨xa, xv⟩ := x
    have q0 := hbx2.cell (i := 0) rfl
    have q1 := hbx2.cell (i := 1) rfl
    have hc3 : W2.cell? ⟨w.heap.size, 0, none⟩ = some v := hv.cell (i := 0) rfl
    have hn0l : w.heap.size < W0.heap.size := by have := Hs0.out; omega
    have hs2 : W0.heap.size ≤ W2.heap.size := hT2.size
    obtain ⟨i0, hi, hz0, hz1, hz2⟩ := info_parts Try.infoPair
    have HI := Lib.hid hi; clear hi
    have HZ0 := Lib.hid hz0; clear hz0
    have HZ1 := Lib.hid hz1; clear hz1
    have HZ2 := Lib.hid hz2; clear hz2
    have Hrow := Lib.hid hrow; clear hrow
    have Hv := Lib.hid hv; clear hv
    have HT2 := Lib.hid hT2; clear hT2
    clear hbx2 HX HT1
    gi_wp2_with (gi_at_builtin; refine wpListIn_append_own_at _ rfl _ _ 27 rfl W0.heap.size 84 i0 _ 2 16 Try.underlying27 HI.out HZ0.out HZ1.out HZ2.out rfl (by decide) v pre.length _ rfl (Hrow.out.alloc _) ⟨W2.heap.size, 0, none⟩ 1 1 [.int .i64 xa, .int .u64 xv] rfl rfl (World.news_of_block (t := 84) (fr := (0, 0)) (new_block W2 _)) (by simp [Value.oneCell']) (by unfold maxLen; omega) (by omega) (by simp; omega) ?_; intro v' w5 hown5 hgrow5 hnil5 hat5; obtain ⟨g, cap, rfl, -, hglt⟩ := hown5.form (by omega); have hT5 : Tch (fun k => v.ownBlock = some k) W2 w5 := ((Tch.refl _ W2).alloc _).grown hgrow5 (fun k e => .inl e); have hv5 : Holds w5 w.heap.size 27 [v] := hT5.holds (fun e => by have := (owns_lt Hrow.out e).1; omega) Hv.out; have k5 : w5.cell? ⟨w.heap.size, 0, none⟩ = some v := hv5.cell (i := 0) rfl; have f5 := hv5.free 0; have Hown5 := Lib.hid hown5; have HT5 := Lib.hid hT5; have Hv5 := Lib.hid hv5; clear hown5 hgrow5 hnil5 hat5 hT5 hv5)
    have hT6 : Tch (fun k => v.ownBlock = some k ∨ k = w.heap.size) W2 (w5.setCell ⟨w.heap.size, 0, none⟩ (.slice (some ⟨g, 0, none⟩) (pre.length + 1) cap)) := (HT5.out.mono (fun _ _ h => .inl h)).setCell (p := ⟨w.heap.size, 0, none⟩) (.inl (.inr rfl)) _
    refine ⟨hT6.keepsFrom (fun k o h hk ho => ?_), ?_, ?_, .slice (some ⟨g, 0, none⟩) (pre.length + 1) cap, Hv5.out.set 0 _, ?_⟩
    · rcases h with h | h
      · obtain ⟨c, hc⟩ := owns_kind Hrow.out h
        rw [hc] at ho; cases ho; rfl
      · omega
    · exact hT6.mono (fun k _ h => h.imp (fun e => (owns_lt Hrow.out e).1) id)
    · exact HT2.out.trans (hT6.mono (fun k _ h => h.imp (fun e => (owns_lt Hrow.out e).1) id))
    · rw [List.length_append, List.length_singleton, Hxk.out, flatP_snoc]
      exact ownsRow_setCell_other Hown5.out (a := ⟨w.heap.size, 0, none⟩) (fun h => by have := (owns_lt Hown5.out h).1; simp at this; omega) (.slice (some ⟨g, 0, none⟩) (pre.length + 1) cap)
  case done =>
    rintro W ⟨hT, v, hv, hrow⟩ hK
    have hc3 : W.cell? ⟨w.heap.size, 0, none⟩ = some v := hv.cell (i := 0) rfl
    have hle : w.heap.size ≤ W0.heap.size := by have := Hs0.out; omega
    have hbel : Below w.heap.size w W := Hbl0.out.trans (hT.below hle (fun k h => by rcases h with h | h <;> omega))
    have Hbel := Lib.hid hbel; clear hbel
    have HK := Lib.hid hK; clear hK
    have Hrow := Lib.hid hrow; clear hrow
    have HT := Lib.hid hT; clear hT hv
    gi_wp2
    refine leaves_mark HK.out ⟨_, results_tmp rfl _ _ _, v, rfl, ?_, Hbel.out.trans (belowK_b (w := W0) hle W W0.heap.size _ _ (Nat.le_refl _) HK.out rfl rfl)⟩
    have hro := Hrow.out
    rw [List.length_range, List.take_length] at hro
    refine owns_mono (owns_same hro (fun g' e => World.putObj_heap_other (fun e2 => ?_))) (fun g' e => by have := (owns_lt hro e).1; omega)
    obtain ⟨c, hc⟩ := owns_kind hro e
    rw [e2, HK.out] at hc
    cases hc
  case stop =>
    rintro c pre W _ h _
    exact h.elim

section
variable {w : World} {a : Nat} {f : Lg} {S : Nat → Prop}
set_option maxHeartbeats 400000 in
theorem reads_any (h : LgAt w S a f) : Calls Try.prog 55 #[.pointer (some ⟨a, 0, none⟩)] w fun e w' => ∃ v, e = .returned v ∧ RowL w' w.heap.size v f.r ∧ Below w.heap.size w w' := by
  have HN := Lib.hid (none_any h)
  obtain ⟨pr, br, pw, bw, h, -⟩ := h
  have HV := Lib.hid (callsIn_wide.1 (told_in (off := 1) w h.rl.row h.rl.len (h.c 1 rfl)))
  clear h
  go_enter Try.func55, Try.ntmps55
  go_wp2_with (first | (go_at_call 65; refine HN.out.mono ?_; rintro e w' ⟨rfl, rfl⟩) | (go_at_call 81; refine HV.out.mono ?_; rintro e w' ⟨v, rfl, hv⟩; have Hv := Lib.hid hv; clear hv))
  go_ret
  exact ⟨v, rfl, Hv.out⟩
set_option maxHeartbeats 400000 in
theorem writes_any (h : LgAt w S a f) : Calls Try.prog 53 #[.pointer (some ⟨a, 0, none⟩)] w fun e w' => ∃ v, e = .returned v ∧ RowL w' w.heap.size v f.w ∧ Below w.heap.size w w' := by
  have HN := Lib.hid (none_any h)
  obtain ⟨pr, br, pw, bw, h, -⟩ := h
  have HV := Lib.hid (callsIn_wide.1 (told_in (off := 3) w h.wl.row h.wl.len (h.c 3 rfl)))
  clear h
  go_enter Try.func53, Try.ntmps53
  go_wp2_with (first | (go_at_call 65; refine HN.out.mono ?_; rintro e w' ⟨rfl, rfl⟩) | (go_at_call 81; refine HV.out.mono ?_; rintro e w' ⟨v, rfl, hv⟩; have Hv := Lib.hid hv; clear hv))
  go_ret
  exact ⟨v, rfl, Hv.out⟩
theorem reads_none {p : Value} (hn : Calls Try.prog 65 #[p] w fun e w' => e = .returned (.bool true) ∧ w = w') : Calls Try.prog 55 #[p] w fun e w' => e = .returned (.slice none 0 0) ∧ w = w' := by
  have HN := Lib.hid hn; clear hn
  go_enter Try.func55, Try.ntmps55
  go_wp2_with (go_at_call 65; refine HN.out.mono ?_; rintro e w' ⟨rfl, rfl⟩)
  go_ret
  exact ⟨rfl, rfl⟩
theorem writes_none {p : Value} (hn : Calls Try.prog 65 #[p] w fun e w' => e = .returned (.bool true) ∧ w = w') : Calls Try.prog 53 #[p] w fun e w' => e = .returned (.slice none 0 0) ∧ w = w' := by
  have HN := Lib.hid hn; clear hn
  go_enter Try.func53, Try.ntmps53
  go_wp2_with (go_at_call 65; refine HN.out.mono ?_; rintro e w' ⟨rfl, rfl⟩)
  go_ret
  exact ⟨rfl, rfl⟩
end

end Go.Proofs.Ytgdfiggloifncaa
