/- The directory: cores are asked to let a line go. Conditions: those stated in each theorem. -/
import Derived.Test.YtnhainjdaafmiaaDoorDirL
import Derived.Test.YtnhainjdaafmiaaDoorDirG
import Derived.Stop.RegionWithIn
namespace Go.Proofs.YtnhainjdaafmiaaDoor
open Go.RowKit Go.Shelf
attribute [local go_sem] Oper.semAt_some

def invMsg (i : Int) (c : Nat) : MsgV := ⟨11, (c : Nat), i, L8.zero⟩
theorem Tryd.infoMsg : (Tryd.prog.info? 45).map (fun i => (i.zero, i.size, i.bytes)) = some (some (.agg MsgV.zero.cells.toArray), 11, 88) := by kernel_rfl

/-- An append of one message. -/
noncomputable def appS (xs : Array Value) : Sem Value := Builtin.append_ #[24, 24] 24 xs
theorem appS_eq (xs : Array Value) : Builtin.append_ #[24, 24] 24 xs = appS xs := rfl
theorem msg_cells (W : World) (m : MsgV) : ∀ j u, m.cells[j]? = some u → (W.alloc (.cells m.cells.toArray 45)).drew.cell? ((⟨W.heap.size, 0, none⟩ : Addr).add j) = some u := fun j u h => by
  rw [show (⟨W.heap.size, 0, none⟩ : Addr).add j = ⟨W.heap.size, j, none⟩ from by unfold Addr.add; split <;> simp_all]
  have := (Holds.new W 45 m.cells).cell h
  exact this
theorem appM_own (base : Nat) (v : Value) (n : Nat) (xs : List Value) (m : MsgV) (W : World) (hown : W.ownsRow base 45 11 v n xs) (hn : n ≤ 1000000) (hb : base ≤ W.heap.size) :
    ∃ v' w', (appS #[v, .slice (some ⟨W.heap.size, 0, none⟩) 1 1]).run Tryd.prog (W.alloc (.cells m.cells.toArray 45)).drew = .ok v' w' ∧ w'.ownsRow base 45 11 v' (n + 1) (xs ++ m.cells) ∧ (W.alloc (.cells m.cells.toArray 45)).grownBy w' v.ownBlock := by
  obtain ⟨i0, hi, hz0, hz1, hz2⟩ := info_parts Tryd.infoMsg
  obtain ⟨v', w', h1, h2, h3, -⟩ := run_append_own (P := Tryd.prog) (w := (W.alloc (.cells m.cells.toArray 45)).drew) base 24 24 45 i0 (.agg MsgV.zero.cells.toArray) 11 88 Tryd.underlying24 hi hz0 hz1 hz2 rfl (by decide) v n xs (show (W.alloc _).drew.ownsRow _ _ _ _ _ _ from hown.alloc _) ⟨W.heap.size, 0, none⟩ 1 1 m.cells rfl (msg_cells W m) (fun u hu => by simp only [MsgV.cells, List.mem_cons, List.not_mem_nil, or_false] at hu; rcases hu with rfl | rfl | rfl | rfl | rfl | rfl | rfl | rfl | rfl | rfl | rfl <;> rfl) (by unfold maxLen; omega) (by omega) (by show base ≤ (W.alloc _).heap.size; simp; omega)
  exact ⟨v', w', h1, h2, ⟨h3.os, h3.tape, h3.output, h3.size, h3.block⟩⟩
attribute [local go_sem ↓ high] appS_eq

theorem Only.trim {C D : Nat → Prop} {L o : Nat} {a b : World} (h : Only C L o a b) (hC : ∀ k, k < a.heap.size → C k → D k) : Only D L o a b := ⟨h.tch.mono (fun k hk hc => hc.imp_left (hC k hk)), h.row⟩
theorem Only.later {L o : Nat} {a b c : World} (h : Only (fun _ => False) L o a b) (hb : Below a.heap.size b c) (hL : L < a.heap.size) : Only (fun _ => False) L o a c :=
  ((h.mono (D := (a.heap.size ≤ ·)) (fun _ h => h.elim)).trans (Only.of_tch (Tch.of_below hb) (by omega))).trim (fun k hk hc => by omega)
theorem known.later {L o : Nat} {k : KnV} {a b c : World} (h : known b L o k) (hb : Below a.heap.size b c) (hL : L < a.heap.size) : known c L o k := h.tch (C := (a.heap.size ≤ ·)) (Tch.of_below hb) (by omega)
theorem Boxed.other2 {W : World} {B B' : Nat} {t : TypeId} {v u : Value} (h : Boxed W B t v) (hne : B' ≠ B) : Boxed (W.setCell ⟨B', 0, none⟩ u) B t v := (Below.heap_setCell W ⟨B', 0, none⟩ u B hne.symm).trans h

set_option maxRecDepth 100000 in
set_option maxHeartbeats 4000000 in
theorem invalidate_in (L o s : Nat) (k : KnV) (i : Int) (w : World) (h : known w L o k) (hi : k.under.line = i) (hs : s < 16) (hg : 1 < w.heap.size) (hgL : 1 ≠ L) (hT : TabAt w) :
    CallsIn Fence.wide 4 Tryd.prog 70 #[.pointer (some ⟨L, o, none⟩), .int .u64 s] w fun e w' => ∃ v, e = .returned v ∧ DOut w.heap.size w' v ((coresL s).map (invMsg i)) ∧ known w' L o { k with phase := 3, asked := s } ∧ Only (fun _ => False) L o w w' := by
  have hlL := World.block_lt_of_cell? _ _ h.c0
  have hb1 : Below w.heap.size w (w.alloc (.cells #[.pointer (some ⟨L, o, none⟩)] 86)) := (Below.refl _ w).alloc (Nat.le_refl _) _
  have h1 := h.below hb1 (Nat.le_refl _)
  have hka := h1
  have c13 := hka.c13
  have c14 := hka.c14
  have f13 := hka.2 13
  have f14 := hka.2 14
  have cb : (w.alloc (.cells #[.pointer (some ⟨L, o, none⟩)] 86)).cell? ⟨w.heap.size, 0, none⟩ = some (.pointer (some ⟨L, o, none⟩)) := by simp
  have H1 := Lib.hid h1; clear h1
  have Hi := Lib.hid hi; clear hi
  have HT := Lib.hid hT; clear hT
  clear h hka
  refine callsIn_of_wp_marks Tryd.func70 rfl trivial ?_ rfl
  simp only [Tryd.ntmps70, List.size_toArray, List.length_cons, List.length_nil, Nat.reduceAdd, Nat.reduceSub, Array.replicate_succ, Array.replicate_zero, List.push_toArray, List.append_toArray, List.nil_append, List.cons_append]
  gi_wp2
  generalize hW1 : (w.alloc (.cells #[.pointer (some ⟨L, o, none⟩)] 86)) = W1 at *
  have HW1 := Lib.hid hW1; clear hW1
  refine wpIn_wide.2 ?_
  go_region
  have hk2 : known ((W1.setCell ⟨L, o + 13, none⟩ (.int .i64 3)).setCell ⟨L, o + 14, none⟩ (.int .u64 s)).drew L o { k with phase := 3, asked := s } := (H1.out.set 13 (.int .i64 3) { k with phase := 3 } (by omega) rfl).set 14 (.int .u64 s) { k with phase := 3, asked := s } (by omega) rfl
  have ho2 : Only (fun _ => False) L o w ((W1.setCell ⟨L, o + 13, none⟩ (.int .i64 3)).setCell ⟨L, o + 14, none⟩ (.int .u64 s)).drew := (((Only.of_below hb1).set 13 (by omega) _).set 14 (by omega) _).drew
  have hB : w.heap.size ≠ L := by omega
  have kb : ((W1.setCell ⟨L, o + 13, none⟩ (.int .i64 3)).setCell ⟨L, o + 14, none⟩ (.int .u64 s)).drew.heap[w.heap.size]? = some (.cells #[.pointer (some ⟨L, o, none⟩)] 86 (0, 0)) := by
    show ((W1.setCell ⟨L, o + 13, none⟩ (.int .i64 3)).setCell ⟨L, o + 14, none⟩ (.int .u64 s)).heap[w.heap.size]? = _
    rw [Below.heap_setCell _ _ _ _ hB, Below.heap_setCell _ _ _ _ hB, ← HW1.out]
    exact World.alloc_heap_new w _
  have hz2 : ((W1.setCell ⟨L, o + 13, none⟩ (.int .i64 3)).setCell ⟨L, o + 14, none⟩ (.int .u64 s)).drew.heap.size = w.heap.size + 1 := by
    show ((W1.setCell ⟨L, o + 13, none⟩ (.int .i64 3)).setCell ⟨L, o + 14, none⟩ (.int .u64 s)).heap.size = _
    rw [World.size_setCell, World.size_setCell, ← HW1.out, World.size_alloc]
  have HK2 := Lib.hid hk2; clear hk2
  have HO2 := Lib.hid ho2; clear ho2
  have KB := Lib.hid kb; clear kb
  have HZ2 := Lib.hid hz2; clear hz2
  clear c13 c14 f13 f14 cb hb1 H1 HW1
  generalize ((W1.setCell ⟨L, o + 13, none⟩ (.int .i64 3)).setCell ⟨L, o + 14, none⟩ (.int .u64 s)).drew = W2 at *
  gi_wp2_with (refine ⟨trivial, ?_⟩; gi_at_call 39; refine (callsIn_wide.2 (seach_any s _)).mono ?_; rintro e w2 ⟨rfl, rfl⟩)
  have hbO := (Boxed.new W2 24 (.slice none 0 0)).alloc (.cells #[.int .u64 s] 77)
  have hbK : Boxed ((W2.alloc (.cells #[.slice none 0 0] 24)).alloc (.cells #[.int .u64 s] 77)) w.heap.size 86 (.pointer (some ⟨L, o, none⟩)) := ((show Boxed W2 w.heap.size 86 (.pointer (some ⟨L, o, none⟩)) from KB.out).alloc _).alloc _
  have hbS : ((W2.alloc (.cells #[.slice none 0 0] 24)).alloc (.cells #[.int .u64 s] 77)).cell? ⟨W2.heap.size + 1, 0, none⟩ = some (.int .u64 s) := by
    have := (Boxed.new (W2.alloc (.cells #[.slice none 0 0] 24)) 77 (.int .u64 s)).cell
    rwa [World.size_alloc] at this
  have hBW : Below w.heap.size W2 ((W2.alloc (.cells #[.slice none 0 0] 24)).alloc (.cells #[.int .u64 s] 77)) := ((Below.refl _ W2).alloc (by rw [HZ2.out]; omega) _).alloc (by rw [World.size_alloc, HZ2.out]; omega) _
  have hz3 : ((W2.alloc (.cells #[.slice none 0 0] 24)).alloc (.cells #[.int .u64 s] 77)).heap.size = w.heap.size + 3 := by rw [World.size_alloc, World.size_alloc, HZ2.out]
  rw [HZ2.out] at hbO hbS
  simp only [HZ2.out]
  have HbK := Lib.hid hbK; clear hbK
  have HbS := Lib.hid hbS; clear hbS
  have hzW : w.heap.size ≤ ((W2.alloc (.cells #[.slice none 0 0] 24)).alloc (.cells #[.int .u64 s] 77)).heap.size := by rw [hz3]; omega
  have HZ3 := Lib.hid hz3; clear hz3
  generalize ((W2.alloc (.cells #[.slice none 0 0] 24)).alloc (.cells #[.int .u64 s] 77)) = W3 at *
  have hT3 : TabAt W3 := by
    have hb := HO2.out.tch.block 1 hg (by rintro (h | h); exact h; exact hgL h)
    have hT2 : TabAt W2 := ⟨(World.cell?_of_block (a := ⟨1, 0, none⟩) hb).trans HT.out.t0, (World.cell?_of_block (a := ⟨1, 1, none⟩) hb).trans HT.out.t1, (World.cell?_of_block (a := ⟨1, 3, none⟩) hb).trans HT.out.t3, (World.cell?_of_block (a := ⟨1, 7, none⟩) hb).trans HT.out.t7⟩
    exact hT2.below hBW hg
  have hst := seach1_stops 3 (w.heap.size + 1 + 1) w.heap.size s (by omega) hs hg W3 (by rw [HZ3.out]; omega) HbS.out hT3
  obtain ⟨i0, hi0, hz0, hz1, hz2⟩ := info_parts Tryd.infoMsg
  have HI := Lib.hid hi0; clear hi0
  have HZa := Lib.hid hz0; clear hz0
  have HZb := Lib.hid hz1; clear hz1
  have HZc := Lib.hid hz2; clear hz2
  refine wpIn_rangeFunc_ownF rfl (by omega) (gf := 56) (lb := #[.pointer (some ⟨w.heap.size + 1 + 1, 0, none⟩)]) rfl trivial (enters_of Tryd.func56 (by kernel_rfl) rfl)
    hst belowK_t (belowK_b hzW) (Below.refl _ _) (fun _ => rfl)
    (fun pre W => (∃ v, Boxed W (w.heap.size + 1) 24 v ∧ W.ownsRow w.heap.size 45 11 v pre.length ((pre.map (invMsg i)).flatMap MsgV.cells) ∧ True) ∧ (Boxed W w.heap.size 86 (.pointer (some ⟨L, o, none⟩)) ∧ Below w.heap.size W2 W)) (fun _ _ _ => False) ?hI (fun _ _ _ _ _ hs _ _ => hs) ⟨⟨_, hbO, World.ownsRow_nil _ _ _ _, trivial⟩, HbK.out, hBW⟩
    (fun x => { tmps := #[.pointer (some ⟨L, o, none⟩), .int .u64 s, .pointer (some ⟨w.heap.size, 0, none⟩), undef, .slice none 0 0, .pointer (some ⟨w.heap.size + 1, 0, none⟩), .int .i64 (x : Nat), .pointer (some ⟨L, o, none⟩), .pointer (some ⟨L, o, none⟩), .int .u64 s, .pointer (some ⟨L, o, none⟩), .pointer (some ⟨L, o + 13, none⟩), .pointer (some ⟨L, o, none⟩), .pointer (some ⟨L, o + 14, none⟩), .int .u64 s, .func (.func 56) #[] #[.pointer (some ⟨w.heap.size + 1 + 1, 0, none⟩)], .int .i64 (x : Nat), undef, undef, undef, undef, undef, undef, undef, undef, undef, undef, undef], defers := [] }) ?assign ?body ?done ?stop
  case hI => exact OwnFrom.and (Own.from (holdsRow_own w.heap.size (w.heap.size + 1) 24 45 11 (fun pre : List Nat => pre.length) (fun pre => (pre.map (invMsg i)).flatMap MsgV.cells) (fun _ _ => True)) _) (OwnFrom.and (Own.from (boxed_own w.heap.size 86 (fun _ : List Nat => .pointer (some ⟨L, o, none⟩))) _) (ownFrom_below (by rw [HZ2.out]; omega) hzW))
  case assign =>
    intro l x W K hK
    gi_wp2
    exact hK
  case body =>
    rintro l pre x W ⟨⟨v, hbox, hrow, -⟩, hbk, hB⟩ hlt
    have hv1 := hbox.cell
    have hk1 := hbk.cell
    have hkn := HK2.out.later hB hlL
    have c4 : W.cell? ⟨L, o + 2 + 2, none⟩ = some (.int .i64 i) := by rw [hkn.c4]; exact congrArg (fun x => some (Value.int .i64 x)) Hi.out
    have Hbox := Lib.hid hbox
    have Hrow := Lib.hid hrow; clear hrow
    have HB := Lib.hid hB; clear hB
    clear hbO hst hT3 hBW hkn
    obtain ⟨v', w1, hap, hown', hgrow⟩ := appM_own w.heap.size v pre.length _ (invMsg i x) W Hrow.out (by omega) (by have := HB.out.size; rw [HZ2.out] at this; omega)
    obtain ⟨g', cap', rfl⟩ := ownsRow_succ hown'
    obtain ⟨hv2, hv3, hr2, hk2, hb2⟩ := Hbox.out.appended (by decide) Hrow.out (by have := HB.out.size; rw [HZ2.out] at this; omega) (by omega) hown' hgrow
    have hK2 : Boxed (w1.setCell ⟨w.heap.size + 1, 0, none⟩ (.slice (some ⟨g', 0, none⟩) (pre.length + 1) cap')) w.heap.size 86 (.pointer (some ⟨L, o, none⟩)) :=
      Boxed.other2 (((hbk.alloc (.cells (invMsg i x).cells.toArray 45)).kept hgrow (hbk.not_row (by decide) Hrow.out))) (by omega)
    have Hfin := Lib.hid (show (∃ v, Boxed (w1.setCell ⟨w.heap.size + 1, 0, none⟩ (.slice (some ⟨g', 0, none⟩) (pre.length + 1) cap')) (w.heap.size + 1) 24 v ∧ (w1.setCell ⟨w.heap.size + 1, 0, none⟩ (.slice (some ⟨g', 0, none⟩) (pre.length + 1) cap')).ownsRow w.heap.size 45 11 v (pre ++ [x]).length (((pre ++ [x]).map (invMsg i)).flatMap MsgV.cells) ∧ True) ∧ (Boxed (w1.setCell ⟨w.heap.size + 1, 0, none⟩ (.slice (some ⟨g', 0, none⟩) (pre.length + 1) cap')) w.heap.size 86 (.pointer (some ⟨L, o, none⟩)) ∧ Below w.heap.size W2 (w1.setCell ⟨w.heap.size + 1, 0, none⟩ (.slice (some ⟨g', 0, none⟩) (pre.length + 1) cap'))) from ⟨⟨_, hv3, by simpa using hr2, trivial⟩, hK2, HB.out.trans hb2⟩)
    have Hk2 := Lib.hid hk2; clear hk2 hr2 hv3 hK2
    have hc1 := hv2.cell
    have hf1 := hv2.frozen
    have hv1a := (Hbox.out.alloc (.cells (invMsg i x).cells.toArray 45)).cell
    clear hgrow hown'
    simp only [invMsg, MsgV.cells, L8.zero] at hap hv1a
    gi_wp2
    gi_region_with (fail)
    all_goals exact ⟨Hk2.out, hb2, Hfin.out⟩
  case done =>
    rintro D ys W hD rfl ⟨⟨v, hbox, hrow, -⟩, hbk, hB⟩ hK
    have hbc := hbox.cell
    have HB := Lib.hid hB; clear hB
    have Hrow := Lib.hid hrow; clear hrow
    gi_wp2
    refine ⟨by simp, .inl ⟨_, _, rfl, run_takeDeferred hK, ?_⟩⟩
    have hbf : Below w.heap.size W2 (W.putObj D (.deferred none)) := HB.out.trans (belowK_b (w := w) (Nat.le_refl _) W D _ _ (by omega) hK rfl rfl)
    refine ⟨_, results_tmp rfl _ _ _, v, rfl, ?_, HK2.out.later hbf hlL, HO2.out.later hbf hlL⟩
    have := ownsRow_putObj Hrow.out (.deferred none) hK rfl
    unfold DOut
    rw [List.length_map]
    exact this
  case stop =>
    rintro D c pre W _ _ h _
    exact h.elim

end Go.Proofs.YtnhainjdaafmiaaDoor
