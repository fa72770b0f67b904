/- A node: All. Conditions: those stated in each theorem. -/
import Derived.Test.YtddajnpichchfaaNodeQ
import Derived.Deep.AppendLies
import Derived.Maps.OwnIn
namespace Go.Proofs.Ytddajnpichchfaa
open Go.RowKit Go.BigFrame Go.Shelf Go.Maps
attribute [local go_sem] Oper.semAt_some
attribute [local simp] wide_fn

theorem Try.infoE : (Try.prog.info? 42).map (fun i => (i.zero, i.size, i.bytes)) = some (some (.agg Ent.zero.cells.toArray), 21, 160) := by kernel_rfl
theorem ownsRow_own {β : Type} (B base : Nat) (e : TypeId) (size : Nat) (v : Value) (f : β → Nat) (g : β → List Value) : OwnFrom B (fun s W => W.ownsRow base e size v (f s) (g s)) := fun s X Y row hs hg hr => by
  refine hs.kept hg ?_
  by_cases h : v.ownBlock = none
  · exact .inl h
  · refine .inr fun e' => ?_
    cases hrow : row with
    | none => rw [hrow] at e'; exact h e'
    | some r =>
      obtain ⟨_, o, ho, hc⟩ := hr r hrow
      rw [hrow] at e'
      obtain ⟨_, h1 | ⟨g', _, _, h1, _, h2, _⟩⟩ := hs
      · rw [h1.1] at e'; cases e'
      · rw [h1] at e'
        simp only [Value.ownBlock, Option.some.injEq] at e'
        rw [← e', h2] at ho; cases ho; cases hc
theorem ownBlock_cells {W : World} {base : Nat} {e : TypeId} {size : Nat} {v : Value} {n : Nat} {xs : List Value} (h : W.ownsRow base e size v n xs) {k : Nat} (hk : v.ownBlock = some k) : base ≤ k ∧ k < W.heap.size ∧ ∃ c m, W.heap[k]? = some (.cells c e m) := by
  obtain ⟨_, h1 | ⟨g', _, _, h1, h3, h2, _⟩⟩ := h
  · rw [h1.1] at hk; cases hk
  · rw [h1] at hk; simp only [Value.ownBlock, Option.some.injEq] at hk; subst hk
    exact ⟨h3, (Array.getElem?_eq_some_iff.1 h2).1, _, _, h2⟩

set_option maxHeartbeats 400000 in
theorem entries_any (a : Nat) (w : World) : Calls Try.prog 67 #[.pointer (some ⟨a, 0, none⟩)] w fun e w' => e = .returned (.func (.func 93) #[] #[.pointer (some ⟨w.heap.size, 0, none⟩)]) ∧ w.alloc (.cells #[.pointer (some ⟨a, 0, none⟩)] 44) = w' := by
  go_enter Try.func67, Try.ntmps67
  go_wp2
  go_ret
  exact ⟨rfl, rfl⟩

/-- Between two rounds of All: the box of 'all', and its row. -/
def CollN (n : Nd) (n0 B0 : Nat) (W0 : World) (pre : List Nat) (W : World) : Prop :=
  Tch (fun k => B0 ≤ k ∨ k = n0) W0 W ∧ ∃ v, Holds W n0 27 [v] ∧ W.ownsRow B0 42 21 v pre.length (pre.flatMap fun (k : Nat) => (findX n.ss (k : Int)).1.cells)
theorem collN_own {n : Nd} {n0 B0 : Nat} {W0 : World} (h : W0.heap.size = B0) : OwnFrom B0 (CollN n n0 B0 W0) :=
  OwnFrom.and (ownFrom_tch (Nat.le_of_eq h)) (fun s X Y row hs hg hr => by
    obtain ⟨v, h1, h2⟩ := hs
    exact ⟨v, ownFrom_holds B0 n0 _ (fun _ : List Nat => [v]) s X Y row h1 hg hr, ownsRow_own B0 B0 _ _ v (fun s : List Nat => s.length) (fun s => s.flatMap fun (k : Nat) => (findX n.ss (k : Int)).1.cells) s X Y row h2 hg hr⟩)
def NoXN (_ : Code) (_ : List Nat) (_ : World) : Prop := False
theorem noXN_own {B : Nat} (c : Code) : OwnFrom B (NoXN c) := fun _ _ _ _ hs _ _ => hs

theorem filter_map_if {α β : Type} (q : α → Bool) (f : α → β) : ∀ l : List α, (l.filter q).map f = l.filterMap fun k => if q k = true then some (f k) else none
  | [] => rfl
  | x :: l => by
    cases h : q x <;> simp [h, filter_map_if q f l]
theorem heldL_all (n : Nd) (L : Nat) (hL : n.lines = L) : (heldL n L).map (fun (k : Nat) => (findX n.ss (k : Int)).1) = n.all := by
  unfold heldL Nd.all
  rw [hL, Int.toNat_natCast, filter_map_if]

/-- What All answers. -/
def AllN (n : Nd) (w : World) (e : Ending) (w' : World) : Prop := ∃ v, e = .returned v ∧ w'.ownsRow w.heap.size 42 21 v n.all.length (n.all.flatMap Ent.cells) ∧ Below w.heap.size w w'

set_option maxRecDepth 100000 in
set_option maxHeartbeats 2000000 in
theorem nall_in {lo a p S : Nat} {bs : List Nat} {ways : Nat} {bv : Value} {n : Nd} (w : World) (h : NodeAt w lo a p S bs ways bv n) (L : Nat) (hL : n.lines = L) (hL64 : L ≤ 64) :
    CallsIn Fence.wide 9 Try.prog 27 #[.pointer (some ⟨a, 0, none⟩)] w (AllN n w) := by
  have hlts := h.lts
  have hgl : ∀ g, bv.ownBlock = some g → g < w.heap.size := fun g e => (owns_lt h.own e).2
  have hbl0 : Below w.heap.size w ((w.alloc (.cells #[.slice none 0 0] 27)).alloc (.cells #[.pointer (some ⟨a, 0, none⟩)] 44)) := ((Below.refl _ w).alloc (Nat.le_refl _) _).alloc (by simp) _
  have h0 := h.below hbl0 (Nat.le_refl _)
  have hbx : Holds ((w.alloc (.cells #[.slice none 0 0] 27)).alloc (.cells #[.pointer (some ⟨a, 0, none⟩)] 44)) w.heap.size 27 [.slice none 0 0] := (Holds.new w 27 [.slice none 0 0]).alloc _
  have hBc : Holds ((w.alloc (.cells #[.slice none 0 0] 27)).alloc (.cells #[.pointer (some ⟨a, 0, none⟩)] 44)) (w.heap.size + 1) 44 [.pointer (some ⟨a, 0, none⟩)] := by
    have := Holds.new (w.alloc (.cells #[.slice none 0 0] 27)) 44 [.pointer (some ⟨a, 0, none⟩)]
    rwa [World.size_alloc] at this
  have hs0 : ((w.alloc (.cells #[.slice none 0 0] 27)).alloc (.cells #[.pointer (some ⟨a, 0, none⟩)] 44)).heap.size = w.heap.size + 2 := by simp
  have hn0 : w.heap.size ≠ a ∧ w.heap.size ≠ p ∧ w.heap.size ≠ S ∧ w.heap.size ∉ bs ∧ bv.ownBlock ≠ some w.heap.size ∧ w.heap.size ≠ w.heap.size + 1 := ⟨by omega, by omega, by omega, fun hm => by have := hlts.2.2.2 _ hm; omega, fun e => by have := hgl _ e; omega, by omega⟩
  refine callsIn_of_wp_marks Try.func27 rfl trivial ?_ rfl
  simp only [Try.ntmps27, List.size_toArray, List.length_cons, List.length_nil, Nat.reduceAdd, Nat.reduceSub, Array.replicate_succ, Array.replicate_zero, List.push_toArray, List.append_toArray, List.nil_append, List.cons_append]
  have Hs0 := Lib.hid hs0; clear hs0
  have H0 := Lib.hid h0; clear h0 h
  have Hbl0 := Lib.hid hbl0; clear hbl0
  have HBc := Lib.hid hBc; clear hBc
  have Hbx := Lib.hid hbx; clear hbx
  have Hn0 := Lib.hid hn0; clear hn0
  have HhL := Lib.hid hL; clear hL
  clear hlts hgl
  gi_wp2_with (gi_at_call 67; refine (callsIn_wide.2 (entries_any a _)).mono ?_; rintro e w2 ⟨rfl, rfl⟩)
  generalize (w.alloc (.cells #[.slice none 0 0] 27)).alloc (.cells #[.pointer (some ⟨a, 0, none⟩)] 44) = W0 at *
  refine each_own rfl rfl (gf := 93) (lb := #[.pointer (some ⟨w.heap.size + 1, 0, none⟩)]) rfl trivial (enters_of Try.func93 (by kernel_rfl) rfl)
    (entries1_each _ (w.heap.size + 1) W0.heap.size w.heap.size W0 H0.out HBc.out rfl Hn0.out L HhL.out hL64) kpQ_t (kpQ_b (by omega)) (fun _ => rfl)
    (CollN n w.heap.size W0.heap.size W0) NoXN (collN_own rfl) noXN_own ⟨Tch.refl _ _, _, Hbx.out, World.ownsRow_nil _ _ _ _⟩ ?round ?done ?stop
  case round =>
    rintro pre x rest W hx hl hi
    have hpre : pre.length ≤ 64 := by
      have h1 := congrArg List.length hx
      have h2 : (heldL n L).length ≤ L := Nat.le_trans (List.length_filter_le _ _) (by simp)
      simp only [List.length_append, List.length_cons] at h1
      omega
    clear hx hl
    dsimp only
    obtain ⟨e0, he0⟩ : ∃ e0, (findX n.ss (x : Int)).1 = e0 := ⟨_, rfl⟩
    have Hi := Lib.hid hi; clear hi
    rw [he0]
    have He0 := Lib.hid he0; clear he0
    unfold RoundOwes
    obtain ⟨W1, eW, bW, hn, hr, -⟩ := ebox W e0
    have hT1 : Tch (fun k => W0.heap.size ≤ k ∨ k = w.heap.size) W W1 := ⟨bW.os, bW.tape, bW.output, bW.size, fun k hk _ => bW.block k hk⟩
    have hX : CollN n w.heap.size W0.heap.size W0 pre W1 := collN_own rfl pre W W1 none Hi.out (grown_below bW) (fun r e => by cases e)
    have hB1 : Holds W1 W.heap.size 42 e0.cells := by
      rw [eW]
      have := (Holds.new W 42 Ent.zero.cells).sets e0.cells 0
      rwa [show splice Ent.zero.cells 0 e0.cells = e0.cells from by have := Ent.over Ent.zero e0; simpa only [splices, List.foldl_cons, List.foldl_nil] using this] at this
    have hsz : W0.heap.size ≤ W.heap.size := Hi.out.1.size
    have hKF : KeepsFrom W0.heap.size W W1 := ⟨bW.size, fun k o _ hk _ => (bW.block k (Array.getElem?_eq_some_iff.1 hk).1).trans hk⟩
    have EW := Lib.hid eW
    have Hn := Lib.hid hn
    have HX := Lib.hid (And.intro hX hB1)
    have HT1 := Lib.hid (And.intro hKF hT1)
    clear eW bW hn hr hX hB1 hT1 hKF
    gi_wp2_with (refine in_store_mid rfl 42 (.tmp 4) (.tmp 9) rfl W.heap.size 0 e0.cells.toArray rfl rfl ?_ Try.size42 (oneEnt _) ?_; exact Hn.out; change wpListIn _ _ _ _ _ _ _ ((W.alloc (.cells Ent.zero.cells.toArray 42)).setCells W.heap.size 0 e0.cells); rw [← EW.out])
    refine ⟨HT1.out.1, HT1.out.2, fun V => CollN n w.heap.size W0.heap.size W0 pre V ∧ Holds V W.heap.size 42 e0.cells, fun u Y Z row hs hg hr => ⟨collN_own rfl pre Y Z row hs.1 hg hr, ownFrom_holds W0.heap.size W.heap.size _ (fun _ : Unit => e0.cells) () Y Z row hs.2 hg hr⟩, HX.out, ?_⟩
    rintro W2 - - ⟨⟨hT2, v, hv, hrow⟩, hbx2⟩
    obtain ⟨ln, st, rd, wr, ⟨x0, x1, x2, x3, x4, x5, x6, x7⟩, ⟨y0, y1, y2, y3, y4, y5, y6, y7⟩, us⟩ := e0
    have Hr0 : Hid (W2.rangeAt W.heap.size 0 [.int .i64 ln, .int .i64 st, .bool rd, .bool wr, .int .u64 x0, .int .u64 x1, .int .u64 x2, .int .u64 x3, .int .u64 x4, .int .u64 x5, .int .u64 x6, .int .u64 x7, .int .u64 y0, .int .u64 y1, .int .u64 y2, .int .u64 y3, .int .u64 y4, .int .u64 y5, .int .u64 y6, .int .u64 y7, .int .i64 us]) := Lib.hid (show W2.rangeAt W.heap.size 0 (Ent.cells ⟨ln, st, rd, wr, ⟨x0, x1, x2, x3, x4, x5, x6, x7⟩, ⟨y0, y1, y2, y3, y4, y5, y6, y7⟩, us⟩) from hbx2.range0)
    have hc3 : W2.cell? ⟨w.heap.size, 0, none⟩ = some v := hv.cell (i := 0) rfl
    have hn0l : w.heap.size < W0.heap.size := by have := Hs0.out; omega
    have hs2 : W0.heap.size ≤ W2.heap.size := hT2.size
    obtain ⟨i0, hi, hz0, hz1, hz2⟩ := info_parts Try.infoE
    have HI := Lib.hid hi; clear hi
    have HZ0 := Lib.hid hz0; clear hz0
    have HZ1 := Lib.hid hz1; clear hz1
    have HZ2 := Lib.hid hz2; clear hz2
    have Hrow := Lib.hid hrow; clear hrow
    have Hv := Lib.hid hv; clear hv
    have HT2 := Lib.hid hT2; clear hT2
    clear hbx2 HX HT1 Hn EW
    gi_wp2_with (first | (refine in_load_mid rfl 42 (.tmp 4) rfl W.heap.size 0 rfl [.int .i64 ln, .int .i64 st, .bool rd, .bool wr, .int .u64 x0, .int .u64 x1, .int .u64 x2, .int .u64 x3, .int .u64 x4, .int .u64 x5, .int .u64 x6, .int .u64 x7, .int .u64 y0, .int .u64 y1, .int .u64 y2, .int .u64 y3, .int .u64 y4, .int .u64 y5, .int .u64 y6, .int .u64 y7, .int .i64 us] _ ?_ Try.underlying42 rfl Try.size42 ?_; exact Hr0.out) | (gi_at_builtin; refine wpListIn_append_own_at _ rfl _ _ 27 rfl W0.heap.size 42 i0 _ 21 160 Try.underlying27 HI.out HZ0.out HZ1.out HZ2.out rfl (by decide) v pre.length _ rfl (Hrow.out.alloc _) ⟨W2.heap.size, 0, none⟩ 1 1 [.int .i64 ln, .int .i64 st, .bool rd, .bool wr, .int .u64 x0, .int .u64 x1, .int .u64 x2, .int .u64 x3, .int .u64 x4, .int .u64 x5, .int .u64 x6, .int .u64 x7, .int .u64 y0, .int .u64 y1, .int .u64 y2, .int .u64 y3, .int .u64 y4, .int .u64 y5, .int .u64 y6, .int .u64 y7, .int .i64 us] rfl rfl (World.news_of_block (t := 42) (fr := (0, 0)) (World.alloc_heap_new W2 _)) (by simp [Value.oneCell']) (by unfold maxLen; omega) (by omega) (by simp; omega) ?_; intro v' w5 hown5 hgrow5 hnil5 hat5; obtain ⟨g, cap, rfl, -, hglt⟩ := hown5.form (by omega); have hT5 : Tch (fun k => v.ownBlock = some k) W2 w5 := ((Tch.refl _ W2).alloc _).grown hgrow5 (fun k e => .inl e); have hv5 : Holds w5 w.heap.size 27 [v] := hT5.holds (fun e => by have := (ownBlock_cells Hrow.out e).1; omega) Hv.out; have k5 : w5.cell? ⟨w.heap.size, 0, none⟩ = some v := hv5.cell (i := 0) rfl; have f5 := hv5.free 0; have Hown5 := Lib.hid hown5; have HT5 := Lib.hid hT5; have Hv5 := Lib.hid hv5; clear hown5 hgrow5 hnil5 hat5 hT5 hv5))
    have hT6 : Tch (fun k => v.ownBlock = some k ∨ k = w.heap.size) W2 (w5.setCell ⟨w.heap.size, 0, none⟩ (.slice (some ⟨g, 0, none⟩) (pre.length + 1) cap)) := (HT5.out.mono (fun _ _ h => .inl h)).setCell (p := ⟨w.heap.size, 0, none⟩) (.inl (.inr rfl)) _
    refine ⟨hT6.keepsFrom (fun k o h hk ho => ?_), ?_, ?_, .slice (some ⟨g, 0, none⟩) (pre.length + 1) cap, Hv5.out.set 0 _, ?_⟩
    · rcases h with h | h
      · obtain ⟨_, _, c, m, hc⟩ := ownBlock_cells Hrow.out h
        rw [hc] at ho; cases ho; rfl
      · omega
    · exact hT6.mono (fun k _ h => h.imp (fun e => (ownBlock_cells Hrow.out e).1) id)
    · exact HT2.out.trans (hT6.mono (fun k _ h => h.imp (fun e => (ownBlock_cells Hrow.out e).1) id))
    · rw [List.length_append, List.flatMap_append]
      have := ownsRow_setCell_other Hown5.out (a := ⟨w.heap.size, 0, none⟩) (fun h => by have := (ownBlock_cells Hown5.out h).1; simp at this; omega) (.slice (some ⟨g, 0, none⟩) (pre.length + 1) cap)
      rw [show List.flatMap (fun (k : Nat) => (findX n.ss (k : Int)).1.cells) [x] = [.int .i64 ln, .int .i64 st, .bool rd, .bool wr, .int .u64 x0, .int .u64 x1, .int .u64 x2, .int .u64 x3, .int .u64 x4, .int .u64 x5, .int .u64 x6, .int .u64 x7, .int .u64 y0, .int .u64 y1, .int .u64 y2, .int .u64 y3, .int .u64 y4, .int .u64 y5, .int .u64 y6, .int .u64 y7, .int .i64 us] from by simp only [List.flatMap_cons, List.flatMap_nil, List.append_nil, He0.out]; rfl]
      exact this
  case done =>
    rintro W ⟨hT, v, hv, hrow⟩ hK
    have hc3 : W.cell? ⟨w.heap.size, 0, none⟩ = some v := hv.cell (i := 0) rfl
    have hle : w.heap.size ≤ W0.heap.size := by have := Hs0.out; omega
    have hbel : Below w.heap.size w W := Hbl0.out.trans (hT.below hle (fun k h => by rcases h with h | h <;> omega))
    have Hbel := Lib.hid hbel; clear hbel
    have HK := Lib.hid hK; clear hK
    have Hrow := Lib.hid hrow; clear hrow
    have HT := Lib.hid hT; clear hT hv
    gi_wp2
    refine leaves_mark HK.out ⟨_, results_tmp rfl _ _ _, v, rfl, ?_, Hbel.out.trans (belowK_b (w := W0) hle W W0.heap.size _ _ (Nat.le_refl _) HK.out rfl rfl)⟩
    have hro := Hrow.out
    have hal := heldL_all n L HhL.out
    rw [← hal, List.length_map, List.flatMap_map]
    refine owns_mono (owns_same hro (fun g' e => World.putObj_heap_other (fun e2 => ?_))) (fun g' e => by have := (owns_lt hro e).1; omega)
    obtain ⟨_, _, c, m, hc⟩ := ownBlock_cells hro e
    rw [e2, HK.out] at hc
    cases hc
  case stop =>
    rintro c pre W _ h _
    exact h.elim

end Go.Proofs.Ytddajnpichchfaa
