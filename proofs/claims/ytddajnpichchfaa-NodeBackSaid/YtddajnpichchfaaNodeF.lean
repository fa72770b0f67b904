/- A node: letGo, hearPutAck. Conditions: those stated in each theorem. -/
import Derived.Test.YtddajnpichchfaaNodeE
import Derived.Deep.RegionLaw
namespace Go.Proofs.Ytddajnpichchfaa
open Go.RowKit Go.BigFrame Go.Sort

section
variable {w w' : World} {lo a p S : Nat} {bs : List Nat} {ways : Nat} {bv : Value} {n : Nd}

theorem Tch.trans2 {C D : Nat → Prop} {a b c : World} (h : Tch C a b) (k : Tch D b c) (hD : ∀ i, i < a.heap.size → D i → C i) : Tch C a c :=
  ⟨k.os.trans h.os, k.tape.trans h.tape, k.output.trans h.output, Nat.le_trans h.size k.size, fun i hi hc => (k.block i (Nat.lt_of_lt_of_le hi h.size) (fun d => hc (hD i hi d))).trans (h.block i hi hc)⟩
theorem sortI_any (g cap : Nat) (zs : List Int) (w : World) {lo : Nat} (h : w.ownsRow lo 3 1 (.slice (some ⟨g, 0, none⟩) zs.length cap) zs.length (zs.map (Value.int .i64))) (hz : zs.length < 1000000) :
    Calls Try.prog 91 #[.slice (some ⟨g, 0, none⟩) zs.length cap] w fun e w' => e = .returned (.tuple #[]) ∧ w'.ownsRow lo 3 1 (.slice (some ⟨g, 0, none⟩) (sortL zs).length cap) (sortL zs).length ((sortL zs).map (Value.int .i64)) ∧ Tch (fun k => k = g) w w' := by
  have hcon := AnyM.slices_Sort_int Try.sortI g 0 cap zs w (fun j hj => by
    have hj' : j < zs.length := by simpa using hj
    rw [Nat.zero_add]
    have := owns_cell h (g := g) rfl (j := j) (u := .int .i64 zs[j]) (by rw [List.getElem?_map, List.getElem?_eq_getElem hj']; rfl)
    rw [show zs.toArray[j]! = zs[j] from by rw [getElem!_pos zs.toArray j hj]; simp]
    exact this) (owns_lt h (g := g) rfl).2 (by omega)
  change Calls Try.prog 91 _ _ _ at hcon
  rw [sortL_eq] at hcon
  have hlen : (sortL zs).length = zs.length := by rw [← sortL_eq]; simp
  refine hcon.mono ?_
  rintro e w' ⟨rfl, q, os, rfl⟩
  refine ⟨rfl, ?_, tch_put w g q _ os⟩
  have := owns_put h (sortL zs) hlen zs.length (Nat.le_refl _) os q
  rw [hlen]
  rwa [List.take_of_length_le (by omega)] at this

/-- The row of lines given back, turned in place. -/
theorem NodeAt.resort (h : NodeAt w lo a p S bs ways bv n) {l : List Int} (hT : Tch (fun k => bv.ownBlock = some k) w w') (ho : w'.ownsRow lo 3 1 bv l.length (l.map (Value.int .i64))) : NodeAt w' lo a p S bs ways bv { n with backs := l } := by
  have hne : ∀ g, bv.ownBlock = some g → g ≠ a ∧ g ≠ p ∧ g ≠ S ∧ g ∉ bs := fun g e => by
    have := h.loose g e
    simpa only [List.mem_cons, not_or] using this
  exact ⟨h.cache.frame hT (fun e => (hne _ e).2.1 rfl) (fun e => (hne _ e).2.2.1 rfl) (fun b hb e => (hne _ e).2.2.2 hb), hT.holds (fun e => (hne _ e).1 rfl) h.head, ho, h.apart, h.loose, h.above⟩

set_option maxRecDepth 100000 in
set_option maxHeartbeats 2000000 in
theorem letGo_any (h : NodeAt w lo a p S bs ways bv n) (e0 : Ent) (hl : n.backs.length < 100000) :
    Calls Try.prog 65 #[.pointer (some ⟨a, 0, none⟩), .agg e0.cells.toArray] w fun e w' => ∃ v, e = .returned v ∧ NOut w lo a p S bs ways bv (n.letGo e0).1 (n.letGo e0).2 v w' := by
  have hb0 : Below w.heap.size w (w.alloc (.cells e0.cells.toArray 42)) := (Below.refl _ w).alloc (Nat.le_refl _) _
  unfold Nd.letGo
  by_cases hs : e0.state = 2
  · rw [if_pos hs]
    have h0 := h.below hb0 (Nat.le_refl _)
    have hB : Holds (w.alloc (.cells e0.cells.toArray 42)) w.heap.size 42 e0.cells := Holds.new w _ _
    have H0 := Lib.hid h0
    have HB := Lib.hid hB
    have hb00 := Lib.hid hb0
    have Hsz := Lib.hid (show (w.alloc (.cells e0.cells.toArray 42)).heap.size = w.heap.size + 1 by simp)
    have HT0 := Lib.hid (below_own (a := a) (p := p) (bs := bs) (bv := bv) hb0)
    have Hal := Lib.hid h.head.lt
    have Hbl := Lib.hid (show ∀ g, bv.ownBlock = some g → g < w.heap.size from fun g e => (owns_lt h.own e).2)
    clear h h0 hB hb0
    obtain ⟨ln, st, rd, wr, d, old, us⟩ := e0
    simp only at hs
    subst hs
    simp only [Ent.cells] at H0 HB HT0 hb00 Hsz ⊢
    go_enter Try.func65, Try.ntmps65
    go_wp2
    have c14 := H0.out.c 14 rfl
    have cl : (w.alloc (.cells #[.int .i64 ln, .int .i64 2, .bool rd, .bool wr, .int .u64 d.x0, .int .u64 d.x1, .int .u64 d.x2, .int .u64 d.x3, .int .u64 d.x4, .int .u64 d.x5, .int .u64 d.x6, .int .u64 d.x7, .int .u64 old.x0, .int .u64 old.x1, .int .u64 old.x2, .int .u64 old.x3, .int .u64 old.x4, .int .u64 old.x5, .int .u64 old.x6, .int .u64 old.x7, .int .i64 us] 42)).cell? ⟨w.heap.size, 0, none⟩ = some (.int .i64 ln) := HB.out.cell (i := 0) rfl
    have hB0 : (w.heap.size : Nat) < (w.alloc (.cells #[.int .i64 ln, .int .i64 2, .bool rd, .bool wr, .int .u64 d.x0, .int .u64 d.x1, .int .u64 d.x2, .int .u64 d.x3, .int .u64 d.x4, .int .u64 d.x5, .int .u64 d.x6, .int .u64 d.x7, .int .u64 old.x0, .int .u64 old.x1, .int .u64 old.x2, .int .u64 old.x3, .int .u64 old.x4, .int .u64 old.x5, .int .u64 old.x6, .int .u64 old.x7, .int .i64 us] 42)).heap.size := by rw [Hsz.out]; omega
    have hao : w.heap.size ≠ a := by have := Hal.out; omega
    generalize (w.alloc (.cells #[.int .i64 ln, .int .i64 2, .bool rd, .bool wr, .int .u64 d.x0, .int .u64 d.x1, .int .u64 d.x2, .int .u64 d.x3, .int .u64 d.x4, .int .u64 d.x5, .int .u64 d.x6, .int .u64 d.x7, .int .u64 old.x0, .int .u64 old.x1, .int .u64 old.x2, .int .u64 old.x3, .int .u64 old.x4, .int .u64 old.x5, .int .u64 old.x6, .int .u64 old.x7, .int .i64 us] 42)) = W at *
    generalize hB9 : w.heap.size = B at *
    obtain ⟨i0, hi0, hz0, hz1, hz2⟩ := info_parts Try.infoI
    have Hi := Lib.hid hi0; clear hi0
    have Hz0 := Lib.hid hz0; clear hz0
    have Hz1 := Lib.hid hz1; clear hz1
    have Hz2 := Lib.hid hz2; clear hz2
    have HB9 := Lib.hid hB9; clear hB9
    have hawl := H0.out.head.lt
    have ag : bv.ownBlock ≠ some a := fun e => by have := H0.out.loose a e; simp at this
    have ab : bv.ownBlock ≠ some B := fun e => by have := Hbl.out _ e; omega
    have hlo := H0.out.lo_le
    have HlO := Lib.hid hl; clear hl
    have HoW := Lib.hid (show (W.alloc (.cells #[.int .i64 ln] 3)).drew.ownsRow lo 3 1 bv n.backs.length (n.backs.map (Value.int .i64)) from owns_same H0.out.own (fun g e => Below.heap_alloc W _ g (owns_lt H0.out.own e).2))
    have HK : Hid (∀ w1, World.grownBy (W.alloc (.cells #[.int .i64 ln] 3)).drew w1 bv.ownBlock → (w1.cell? ⟨a, 14, none⟩ = some bv ∧ w1.cell? ⟨B, 0, none⟩ = some (.int .i64 ln)) ∧ w1.frozen? ⟨a, 14, none⟩ = false) := Lib.hid (fun w1 hg => by
      have ba : w1.heap[a]? = W.heap[a]? := (hg.block a (by show a < (W.alloc _).heap.size; rw [World.size_alloc]; omega) (Ne.symm ag)).trans (Below.heap_alloc W _ a hawl)
      have bb : w1.heap[B]? = W.heap[B]? := (hg.block B (by show B < (W.alloc _).heap.size; rw [World.size_alloc]; omega) (Ne.symm ab)).trans (Below.heap_alloc W _ B hB0)
      exact ⟨⟨(World.cell?_of_block (a := ⟨a, 14, none⟩) ba).trans c14, (World.cell?_of_block (a := ⟨B, 0, none⟩) bb).trans cl⟩, (World.frozen?_of_block (a := ⟨a, 14, none⟩) ba).trans (H0.out.head.free 14)⟩)
    go_region_law ((refine step_append_lies _ (by rfl) _ _ _ (by rfl) lo 3 i0 _ 1 8 Try.underlying71 Hi.out Hz0.out Hz1.out Hz2.out rfl (by omega) bv n.backs.length (n.backs.map (Value.int .i64)) (by rfl) HoW.out ⟨W.heap.size, 0, none⟩ 1 1 [.int .i64 ln] (by rfl) (by rfl) (World.news_of_block (cs := #[.int .i64 ln]) (t := 3) (fr := (0, 0)) (World.alloc_heap_new W _)) (by simp [Value.oneCell']) (by omega) (by have := HlO.out; unfold maxLen; omega) (by have := HlO.out; omega) (by simp; omega) (W.heap.size + 1) (by simp) ?_; intro g cap w1 hown1 hgrow hat hlt; have kk := (HK.out w1 hgrow).1; have kf := (HK.out w1 hgrow).2; have k14 := kk.1; have k0 := kk.2))
    all_goals
      have hT1 : Tch (fun k => bv.ownBlock = some k) W w1 := ((Tch.refl _ W).alloc _).drew.grown hgrow (fun k e => .inl e)
      have hlen : (n.backs ++ [ln]).length = n.backs.length + 1 := by simp
      have h1 := H0.out.backs (bv' := .slice (some ⟨g, 0, none⟩) (n.backs.length + 1) cap) (l := n.backs ++ [ln]) hT1 (by rw [hlen, List.map_append]; exact hown1) (fun g' e => by
        simp only [Value.ownBlock, Option.some.injEq] at e
        subst e
        exact hat.imp_right (fun e => by omega))
      have hB2 : Holds (w1.setCell ⟨a, 14, none⟩ (.slice (some ⟨g, 0, none⟩) (n.backs.length + 1) cap)) B 42 _ := (hT1.holds ab HB.out).other (p := ⟨a, 14, none⟩) hao _
      have hT2 : Tch (Own a p bs bv) w (w1.setCell ⟨a, 14, none⟩ (.slice (some ⟨g, 0, none⟩) (n.backs.length + 1) cap)) := (HT0.out.trans (hT1.mono (fun _ _ e => .inr (.inr e)))).setCell (p := ⟨a, 14, none⟩) (.inl (.inl rfl)) _
      have hgB : g ≠ B := fun e => by
        rcases hat with h2 | h2
        · exact ab (e ▸ h2)
        · omega
      have hnew : bv.ownBlock = some g ∨ w.heap.size ≤ g := hat.imp_right (fun e => by have := HB9.out; omega)
      have Hh1 := Lib.hid h1
      have HB2 := Lib.hid hB2
      have HT2 := Lib.hid hT2
      have Hnew := Lib.hid hnew
      have Hlen := Lib.hid hlen
      clear hT1 h1 hB2 hT2 hnew hlen kk kf k14 k0 hown1 hgrow hat hlt c14 cl
      generalize w1.setCell ⟨a, 14, none⟩ (.slice (some ⟨g, 0, none⟩) (n.backs.length + 1) cap) = W2 at *
      have c14 := Hh1.out.c 14 rfl
      have hso := sortI_any g cap (n.backs ++ [ln]) W2 (lo := lo) (by rw [Hlen.out]; have := Hh1.out.own; simp only [Hlen.out] at this; exact this) (by rw [Hlen.out]; have := HlO.out; omega)
      rw [Hlen.out] at hso
      have HSo := Lib.hid hso; clear hso
      go_wp2_with fail
      refine HSo.out.mono ?_
      rintro e w3 ⟨rfl, ho3, hT3⟩
      have hln3 : (sortL (n.backs ++ [ln])).length = n.backs.length + 1 := by rw [← sortL_eq]; simp
      have h3 := Hh1.out.resort (l := sortL (n.backs ++ [ln])) (hT3.mono (fun k _ e => by subst e; rfl)) (by rw [hln3] at ho3 ⊢; exact ho3)
      have hB3 := hT3.holds (fun e => hgB e.symm) HB2.out
      have hT3' : Tch (Own a p bs bv) w w3 := HT2.out.trans2 hT3 (fun k hk e => by subst e; rcases Hnew.out with h | h; exact .inr (.inr h); omega)
      have b0 := hB3.cell (i := 0) rfl
      have hr4 : w3.rangeAt B 4 d.cells := fun i v hv => by
        have hi : i < 8 := (List.getElem?_eq_some_iff.1 hv).1
        refine hB3.cell (i := 4 + i) ?_
        rw [← hv]
        match i, hi with
        | 0, _ | 1, _ | 2, _ | 3, _ | 4, _ | 5, _ | 6, _ | 7, _ => rfl
      have R4 := Lib.hid hr4
      have HW := Lib.hid (withWords_any h3 3 ln d)
      have H3 := Lib.hid (And.intro h3 hT3')
      clear hr4 h3 hT3' hB3 hln3 ho3 hT3 c14
      go_wp2_with (refine wpList_load_mid rfl 36 (.tmp 27) rfl B 4 rfl d.cells _ ?_ Try.underlying36 rfl Try.size36 ?_; exact R4.out)
      refine HW.out.mono ?_
      rintro e w4 ⟨rfl, hb4⟩
      have h4 := H3.out.1.below hb4 (Nat.le_refl _)
      have hT4 := H3.out.2.trans (below_own (a := a) (p := p) (bs := bs) (bv := bv) hb4)
      have H4 := Lib.hid (And.intro h4 hT4)
      clear h4 hT4 hb4
      simp only [MsgV.cells]
      go_wp2
      go_ret
      have ho := owns_new w4 52 11 (MsgV.cells ⟨3, n.core, ln, d⟩) rfl
      have hB : Below w4.heap.size w4 (w4.alloc (.cells (MsgV.cells ⟨3, n.core, ln, d⟩).toArray 52)) := (Below.refl _ w4).alloc (Nat.le_refl _) _
      have hsz := H4.out.2.size
      exact ⟨_, rfl, .slice (some ⟨g, 0, none⟩) (n.backs.length + 1) cap, outAt_one (owns_mono (show World.ownsRow _ _ _ _ _ _ _ from ho) (fun g' hg => by cases hg; exact hsz)) (fun g' hg hb => by have h1 := (owns_lt H4.out.1.own hb).2; cases hg; exact absurd h1 (Nat.lt_irrefl _)), H4.out.1.below hB (Nat.le_refl _), H4.out.2.trans (below_own hB), fun g' e => by
        simp only [Value.ownBlock, Option.some.injEq] at e
        subst e
        exact Hnew.out⟩
  · rw [if_neg hs]
    have hs' : (e0.state != 2) = true := by simpa using hs
    have HR := Lib.hid (NOut.idle h hb0)
    clear h hb0 hs
    obtain ⟨ln, st, rd, wr, d, old, us⟩ := e0
    simp only [Ent.cells] at *
    go_enter Try.func65, Try.ntmps65
    go_wp2
    go_ret
    exact ⟨_, rfl, HR.out⟩
end

end Go.Proofs.Ytddajnpichchfaa
