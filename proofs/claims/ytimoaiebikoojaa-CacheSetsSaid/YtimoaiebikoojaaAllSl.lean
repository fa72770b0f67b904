/- All: the entries, put together in new memory. Conditions: those stated in each theorem. -/
import Derived.Test.YtimoaiebikoojaaSort
namespace Go.Proofs.Ytimoaiebikoojaa
open Go.RowKit Go.Shelf
attribute [local go_sem] Oper.semAt_some
attribute [local simp] wide_fn

/-- Between two rounds of All: the box of 'all', and its row. -/
def CollI (p S : Nat) (bs : List Nat) (ways : Nat) (ss : List (List Ent)) (u : Int) (n0 B : Nat) (W0 : World) (pre : List (Nat × Nat)) (W : World) : Prop :=
  CacheAt W p S bs ways ss u ∧ Below n0 W0 W ∧ ∃ v, Holds W n0 27 [v] ∧ W.ownsRow B 42 21 v pre.length ((pre.map fun x => getE ss x.1 x.2).flatMap Ent.cells)

theorem ownsRow_own {β : Type} (B base : Nat) (e : TypeId) (size : Nat) (v : Value) (f : β → Nat) (g : β → List Value) : OwnFrom B (fun s W => W.ownsRow base e size v (f s) (g s)) := fun s X Y row hs hg hr => by
  refine hs.kept hg ?_
  by_cases h : v.ownBlock = none
  · exact .inl h
  · refine .inr fun e' => ?_
    cases hrow : row with
    | none => rw [hrow] at e'; exact h e'
    | some r =>
      obtain ⟨_, o, ho, hc⟩ := hr r hrow
      rw [hrow] at e'
      obtain ⟨_, h1 | ⟨g', _, _, h1, _, h2, _⟩⟩ := hs
      · rw [h1.1] at e'; cases e'
      · rw [h1] at e'
        simp only [Value.ownBlock, Option.some.injEq] at e'
        rw [← e', h2] at ho; cases ho; cases hc

theorem collI_own {p S : Nat} {bs : List Nat} {ways : Nat} {ss : List (List Ent)} {u : Int} {n0 B B' : Nat} {W0 : World} (h0 : n0 ≤ W0.heap.size) (hB : n0 ≤ B) : OwnFrom B (CollI p S bs ways ss u n0 B' W0) :=
  OwnFrom.and (cacheAt_own _ _) (OwnFrom.and (ownFrom_below h0 hB) (fun s X Y row hs hg hr => by
    obtain ⟨v, h1, h2⟩ := hs
    exact ⟨v, ownFrom_holds B n0 _ (fun _ : List (Nat × Nat) => [v]) s X Y row h1 hg hr, ownsRow_own B B' _ _ v (fun s : List (Nat × Nat) => s.length) (fun s => (s.map fun x => getE ss x.1 x.2).flatMap Ent.cells) s X Y row h2 hg hr⟩))

theorem entsAll_len (ss : List (List Ent)) (ways n : Nat) : (entsAll ss ways n).length ≤ n * ways := by
  induction n with
  | zero => simp [entsAll]
  | succ n ih =>
    rw [entsAll_succ, List.length_append, Nat.add_mul, Nat.one_mul]
    have : (entsOf ss ways n).length ≤ ways := by
      unfold entsOf
      rw [List.length_map]
      exact Nat.le_trans (List.length_filter_le _ _) (by simp)
    omega

theorem ownBlock_cells {W : World} {base : Nat} {e : TypeId} {size : Nat} {v : Value} {n : Nat} {xs : List Value} (h : W.ownsRow base e size v n xs) {k : Nat} (hk : v.ownBlock = some k) : base ≤ k ∧ k < W.heap.size ∧ ∃ c m, W.heap[k]? = some (.cells c e m) := by
  obtain ⟨_, h1 | ⟨g', _, _, h1, h3, h2, _⟩⟩ := h
  · rw [h1.1] at hk; cases hk
  · rw [h1] at hk; simp only [Value.ownBlock, Option.some.injEq] at hk; subst hk
    exact ⟨h3, (Array.getElem?_eq_some_iff.1 h2).1, _, _, h2⟩

/-- What a round of All leaves. -/
theorem coll_next {p S Bc : Nat} {bs : List Nat} {ways : Nat} {ss : List (List Ent)} {u : Int} {n0 B n1 : Nat} {W0 W W' : World} {pre : List (Nat × Nat)} {i j : Nat} {v v' : Value} {W1 : World} (hC : CacheAt W p S bs ways ss u) (hBl : Below n0 W0 W) (hv : Holds W n0 27 [v])
    (hrow : W.ownsRow B 42 21 v pre.length ((pre.map fun x => getE ss x.1 x.2).flatMap Ent.cells))
    (hT : Tch (fun k => v.ownBlock = some k) W W1) (hown : W1.ownsRow B 42 21 v' (pre.length + 1) ((pre.map fun x => getE ss x.1 x.2).flatMap Ent.cells ++ (getE ss i j).cells))
    (hlt : p < n0 ∧ S < n0 ∧ ∀ b ∈ bs, b < n0) (h0 : n0 < Bc) (hBc : Bc < B) (hB : B = W0.heap.size) (hn1 : B ≤ n1) (hW : W' = W1.setCell ⟨n0, 0, none⟩ v') (hn0 : n0 ≤ W0.heap.size) :
    KeepsFrom B W W' ∧ AllKp p S Bc bs ways n1 W W' ∧ CollI p S bs ways ss u n0 B W0 (pre ++ [(i, j)]) W' := by
  have hT2 : Tch (fun k => v.ownBlock = some k ∨ k = n0) W W' := by
    rw [hW]; exact (hT.mono (fun k _ h => .inl h)).setCell (.inl (.inr rfl)) _
  have hnot : ∀ k, k < B → k ≠ n0 → ¬ (v.ownBlock = some k ∨ k = n0) := fun k hk hne h => by
    rcases h with h | h
    · have := (ownBlock_cells hrow h).1; omega
    · exact hne h
  have hcell : ∀ k o, (v.ownBlock = some k ∨ k = n0) → B ≤ k → W.heap[k]? = some o → ∃ c m, o = .cells c 42 m := fun k o h hk ho => by
    rcases h with h | h
    · obtain ⟨_, _, c, m, hc⟩ := ownBlock_cells hrow h
      rw [hc] at ho; cases ho; exact ⟨c, m, rfl⟩
    · omega
  have hbox : ∀ k t x, B ≤ k → t ≠ 42 → Holds W k t [x] → Holds W' k t [x] := fun k t x hk ht hx => hT2.holds (fun h => by
    obtain ⟨c, m, hc⟩ := hcell k _ h hk hx
    cases hc; exact ht rfl) hx
  refine ⟨hT2.keepsFrom (fun k o h hk ho => by obtain ⟨c, m, rfl⟩ := hcell k o h hk ho; rfl), ⟨hT2.size, ?_, fun k o hk ho hc => (hT2.block k (Array.getElem?_eq_some_iff.1 ho).1 (fun h => by
      obtain ⟨c, m, rfl⟩ := hcell k o h (by omega) ho; cases hc)).trans ho, fun k hk x hx => hbox k _ x (by omega) (by decide) hx, fun k x hk hx => hbox k _ x (by omega) (by decide) hx, fun b hb jj _ => ?_⟩, ?_⟩
  · have hl := hC.lt
    rintro k (rfl | rfl | rfl)
    · exact hT2.block _ hl.1 (hnot _ (by omega) (by omega))
    · exact hT2.block _ hl.2.1 (hnot _ (by omega) (by omega))
    · exact hT2.block _ (by have := hBl.size; omega) (hnot _ hBc (by omega))
  · have := hlt.2.2 b hb
    exact World.cell?_of_block (hT2.block b (hC.lt.2.2 b hb) (hnot _ (by omega) (by omega)))
  · refine ⟨hC.frame hT2 (hnot _ (by omega) (by omega)) (hnot _ (by omega) (by omega)) (fun b hb => hnot _ (by have := hlt.2.2 b hb; omega) (by have := hlt.2.2 b hb; omega)), hBl.trans (Tch.below hT2 (by have := hBl.size; omega) (fun k h => ?_)), v', ?_, ?_⟩
    · rcases h with h | h
      · have := (ownBlock_cells hrow h).1; omega
      · omega
    · have h1 : Holds W1 n0 27 [v] := hT.holds (fun h => by have := (ownBlock_cells hrow h).1; omega) hv
      rw [hW]; exact h1.set 0 v'
    · rw [hW, List.length_append, List.map_append, List.flatMap_append]
      have := ownsRow_setCell_other hown (a := ⟨n0, 0, none⟩) (fun h => by have := (ownBlock_cells hown h).1; simp at this; omega) v'
      simpa using this

/-- A slice of entries, in memory that begins at lo. -/
def SliceAt (w : World) (lo : Nat) (v : Value) (es : List Ent) : Prop := (es = [] ∧ v = .slice none 0 0) ∨ ∃ g cap, v = .slice (some ⟨g, 0, none⟩) es.length cap ∧ lo ≤ g ∧ g < w.heap.size ∧ Ents w g es
/-- All entries of a cache, set by set. -/
def entries (ss : List (List Ent)) (ways n : Nat) : List Ent := (entsAll ss ways n).map fun x => getE ss x.1 x.2
/-- What All answers. -/
def AllAns (ss : List (List Ent)) (ways n : Nat) (w : World) (e : Ending) (w' : World) : Prop :=
  ∃ v es, e = .returned v ∧ es.Perm (entries ss ways n) ∧ es.Pairwise (fun a b => a.line ≤ b.line) ∧ SliceAt w' w.heap.size v es ∧ Below w.heap.size w w'

theorem ents_own {w : World} {B g cap n : Nat} {es : List Ent} (h : w.ownsRow B 42 21 (.slice (some ⟨g, 0, none⟩) n cap) n (es.flatMap Ent.cells)) (hl : es.length = n) : Ents w g es := fun i e he k v hk => by
  have hi : i < es.length := (List.getElem?_eq_some_iff.1 he).1
  have hk21 : k < 21 := (List.getElem?_eq_some_iff.1 hk).1
  refine ⟨?_, h.frozenAt _⟩
  rw [h.cellAt _ (by omega), rows_get Ent.cells Ent.len es i k e he hk21, hk]

set_option maxRecDepth 100000 in
set_option maxHeartbeats 1000000 in
theorem alls_in (p S ways : Nat) (bs : List Nat) (ss : List (List Ent)) (u : Int) (w : World) (h : CacheAt w p S bs ways ss u) :
    CallsIn Fence.wide 9 Try.prog 10 #[.pointer (some ⟨p, 0, none⟩)] w (AllAns ss ways bs.length w) := by
  have hlt := h.lt
  have hap := h.ap
  have h0 := (h.alloc (.cells #[.slice none 0 0] 27)).alloc (.cells #[.pointer (some ⟨p, 0, none⟩)] 23)
  have hbl0 : Below w.heap.size w ((w.alloc (.cells #[.slice none 0 0] 27)).alloc (.cells #[.pointer (some ⟨p, 0, none⟩)] 23)) := ((Below.refl _ w).alloc (Nat.le_refl _) _).alloc (by simp) _
  have hbx : Holds ((w.alloc (.cells #[.slice none 0 0] 27)).alloc (.cells #[.pointer (some ⟨p, 0, none⟩)] 23)) w.heap.size 27 [.slice none 0 0] := (Holds.new w 27 [.slice none 0 0]).alloc _
  have hBc : Holds ((w.alloc (.cells #[.slice none 0 0] 27)).alloc (.cells #[.pointer (some ⟨p, 0, none⟩)] 23)) (w.heap.size + 1) 23 [.pointer (some ⟨p, 0, none⟩)] := by
    have := Holds.new (w.alloc (.cells #[.slice none 0 0] 27)) 23 [.pointer (some ⟨p, 0, none⟩)]
    rwa [World.size_alloc] at this
  have hs0 : ((w.alloc (.cells #[.slice none 0 0] 27)).alloc (.cells #[.pointer (some ⟨p, 0, none⟩)] 23)).heap.size = w.heap.size + 2 := by simp
  refine callsIn_of_wp_marks Try.func10 rfl trivial ?_ rfl
  simp only [Try.ntmps10, List.size_toArray, List.length_cons, List.length_nil, Nat.reduceAdd, Nat.reduceSub, Array.replicate_succ, Array.replicate_zero, List.push_toArray, List.append_toArray, List.nil_append, List.cons_append]
  have Hs0 := Lib.hid hs0; clear hs0
  have H0 := Lib.hid h0; clear h0
  have Hbl0 := Lib.hid hbl0; clear hbl0
  have HBc := Lib.hid hBc; clear hBc
  have Hbx := Lib.hid hbx; clear hbx
  gi_wp2_with (gi_at_call 34; refine (callsIn_wide.2 (all_any p _)).mono ?_; rintro e w2 ⟨rfl, rfl⟩)
  generalize (w.alloc (.cells #[.slice none 0 0] 27)).alloc (.cells #[.pointer (some ⟨p, 0, none⟩)] 23) = W0 at *
  have hsz := Hs0.out
  have hbW : ∀ b ∈ bs, b < w.heap.size := hlt.2.2
  have hk1 : W0.heap.size + 1 ≠ p := by omega
  have hk2 : W0.heap.size + 1 ≠ S := by omega
  have hk3 : W0.heap.size + 1 ≠ w.heap.size + 1 := by omega
  have hk4 : W0.heap.size + 1 ∉ bs := fun hb => by have := hbW _ hb; omega
  have hle : w.heap.size ≤ W0.heap.size := by omega
  clear hsz
  refine each_own rfl rfl (gf := 48) (lb := #[.pointer (some ⟨w.heap.size + 1, 0, none⟩)]) rfl trivial (enters_of Try.func48 (by kernel_rfl) rfl)
    (all1_each _ p S (w.heap.size + 1) (W0.heap.size + 2) ways bs ss (.int .i64 u) W0 (by omega) h.w4 h.n1 h.n8 H0.out.head H0.out.sets HBc.out H0.out.head2) AllKp.trans (allKp_b (by omega) hk1 hk2 hk3 hk4) (fun _ => rfl)
    (CollI p S bs ways ss u w.heap.size W0.heap.size W0) NoX (collI_own hle hle) noX_own ⟨H0.out, Below.refl _ _, _, Hbx.out, World.ownsRow_nil _ _ _ _⟩ ?round ?done ?stop
  case round =>
    rintro pre ⟨i, j⟩ rest W hx hl hi
    obtain ⟨hil, hjl⟩ := mem_ents_of hx
    have hpre : pre.length ≤ 1000 := by
      have h1 := congrArg List.length hx
      have h2 := entsAll_len ss ways bs.length
      have h3 := Nat.mul_le_mul h.n8 h.w4
      simp only [List.length_append, List.length_cons] at h1
      omega
    clear hx hl
    obtain ⟨b, hb⟩ : ∃ b, bs[i]? = some b := ⟨bs[i], List.getElem?_eq_getElem hil⟩
    have hbk : bs.getD i 0 = b := by simp [List.getD_eq_getElem?_getD, hb]
    dsimp only
    rw [hbk]
    clear hbk
    have Hi := Lib.hid hi; clear hi
    have Hb := Lib.hid hb; clear hb
    unfold RoundOwes
    gi_wp2
    refine BodyOwes.plain (collI_own hle hle) (AllKp.refl _ _ _ _ _ _ _) Hi.out ?_
    clear Hi
    rintro W2 _ ⟨hC, hBl, v, hv, hrow⟩
    obtain ⟨s, hs, he, hr⟩ := hC.ent Hb.out hjl
    have hc3 : W2.cell? ⟨w.heap.size, 0, none⟩ = some v := hv.cell (i := 0) rfl
    have hg : W2.rangeAt b (j * 21) (getE ss i j).cells := by
      have := hr.range he (k := 0) (cs := (getE ss i j).cells) (fun k v hk => ⟨by have := (List.getElem?_eq_some_iff.1 hk).1; rw [Ent.len] at this; omega, by rw [Nat.zero_add]; exact hk⟩)
      rwa [Nat.add_zero] at this
    have hlts : W0.heap.size ≤ W2.heap.size := hBl.size
    obtain ⟨i0, hi, hz0, hz1, hz2⟩ := info_parts Try.infoE
    obtain ⟨v', w', hrun, hown', hgrow, -⟩ := run_append_own (P := Try.prog) ((W2.alloc (.cells (getE ss i j).cells.toArray 42)).drew) W0.heap.size 27 27 42 i0 _ 21 160 Try.underlying27 hi hz0 hz1 hz2 rfl (by decide) v pre.length _ (hrow.alloc _) ⟨W2.heap.size, 0, none⟩ 1 1 (getE ss i j).cells rfl (fun k u hk => by
      rw [Addr.add_mid, Nat.zero_add]; exact (Holds.new W2 42 (getE ss i j).cells).cell hk) (fun u hu => by simp only [Ent.cells, List.mem_cons, List.not_mem_nil, or_false] at hu; rcases hu with rfl | rfl | rfl | rfl | rfl | rfl | rfl | rfl | rfl | rfl | rfl | rfl | rfl | rfl | rfl | rfl | rfl | rfl | rfl | rfl | rfl <;> rfl) (by unfold maxLen; omega) (by omega) (by show W0.heap.size ≤ (W2.alloc _).heap.size; rw [World.size_alloc]; omega)
    clear hi hz0 hz1 hz2
    obtain ⟨g, cap, rfl⟩ := ownsRow_succ hown'
    have hT : Tch (fun k => v.ownBlock = some k) W2 w' := (((Tch.refl _ W2).alloc _).drew).grown hgrow (fun k e => .inl e)
    have hvw : Holds w' w.heap.size 27 [v] := hT.holds (fun e => by have := (ownBlock_cells hrow e).1; have := Hs0.out; omega) hv
    have hnext := coll_next (Bc := w.heap.size + 1) (i := i) (j := j) hC hBl hv hrow hT hown' hlt (by omega) (by have := Hs0.out; omega) rfl (by omega) rfl hle (n1 := W0.heap.size + 2)
    have Hnext := Lib.hid hnext; clear hnext
    have Hrun := Lib.hid hrun; clear hrun
    have Hg := Lib.hid hg; clear hg
    have hn0 : w.heap.size < W2.heap.size := hv.lt
    have hb2 : b < W2.heap.size := hr.lt
    have Hc3 := Lib.hid hc3; clear hc3
    have Hvw := Lib.hid hvw; clear hvw
    clear hown' hgrow hT hrow hv hr hs he hC hBl
    gi_wp2
    exact all_region Fence.wide _ _ w.heap.size b j (getE ss i j) v g (pre.length + 1) cap W2 w' _ _ _ _ _ _ _ _ _ _ _ _ _ _ _ _ _ _ hn0 hb2 Hc3.out Hg.out Hrun.out (Hvw.out.cell (i := 0) rfl) (Hvw.out.free 0) (fun a => by exact Hnext.out)
  case done =>
    rintro W ⟨hC, hBl, v, hv, hrow⟩ hK
    have hbW' := hBl.size
    have hc3 : W.cell? ⟨w.heap.size, 0, none⟩ = some v := hv.cell (i := 0) rfl
    have hbel : Below w.heap.size w W := Hbl0.out.trans hBl
    have Hbel := Lib.hid hbel; clear hbel
    have HK := Lib.hid hK; clear hK
    by_cases hl : (entsAll ss ways bs.length).length = 0
    · have hnil : entsAll ss ways bs.length = [] := List.length_eq_zero_iff.1 hl
      obtain ⟨q, cp, hv0, hq⟩ : ∃ q cp, v = .slice q 0 cp ∧ ((q = none ∧ cp = 0) ∨ ∃ g, q = some ⟨g, 0, none⟩ ∧ w.heap.size ≤ g ∧ g < W.heap.size) := by
        obtain ⟨_, h1 | ⟨g', cap, cur, h1, h3, h2, _⟩⟩ := hrow
        · exact ⟨none, 0, by rw [h1.1], .inl ⟨rfl, rfl⟩⟩
        · rw [hl] at h1; exact ⟨_, _, h1, .inr ⟨g', rfl, by omega, (Array.getElem?_eq_some_iff.1 h2).1⟩⟩
      subst hv0
      clear hrow
      have Hv := Lib.hid hv; clear hv
      have Hnil := Lib.hid hnil; clear hnil
      have Hq := Lib.hid hq; clear hq
      clear hl hC hBl
      have hS := fun W => AnyF.slices_SortFunc_none (P := Try.prog) (ρ := Try.sortE_ren) { Try.sortE with } q cp (.func (.func 36) #[] #[]) W
      change ∀ W, Calls Try.prog 35 _ _ _ at hS
      have HS := Lib.hid hS; clear hS
      gi_wp2_with fail
      refine (callsIn_wide.2 ((HS.out _).mono (R' := fun e w' => e = .returned (.tuple #[]) ∧ W = w') fun _ _ h => ⟨h.1, h.2.symm⟩)).mono ?_
      rintro e w1 ⟨rfl, rfl⟩
      gi_wp2
      refine leaves_mark HK.out ⟨_, results_tmp rfl _ _ _, .slice q 0 cp, [], rfl, by rw [entries, Hnil.out]; exact List.Perm.refl _, List.Pairwise.nil, ?_, ?_⟩
      · rcases Hq.out with ⟨rfl, rfl⟩ | ⟨g, rfl, h1, h2⟩
        · exact .inl ⟨rfl, rfl⟩
        · exact .inr ⟨g, cp, rfl, h1, by rw [World.putObj_size]; exact h2, fun i e he => by cases he⟩
      · exact Hbel.out.trans (belowK_b (w := W0) hle W W0.heap.size _ _ (Nat.le_refl _) HK.out rfl rfl)
    · have hlen : (entries ss ways bs.length).length = (entsAll ss ways bs.length).length := by simp [entries]
      obtain ⟨g, cap, hv0⟩ : ∃ g cap, v = .slice (some ⟨g, 0, none⟩) (entries ss ways bs.length).length cap := by
        rw [hlen]
        obtain ⟨_, h1 | ⟨g', cap, cur, h1, _⟩⟩ := hrow
        · exact absurd h1.2 hl
        · exact ⟨g', cap, h1⟩
      subst hv0
      obtain ⟨hg1, hg2, hgc⟩ := ownBlock_cells hrow (k := g) rfl
      have hents : Ents W g (entries ss ways bs.length) := ents_own (n := (entries ss ways bs.length).length) (by rw [hlen] at hrow ⊢; exact hrow) rfl
      have hmax : (entries ss ways bs.length).length ≤ 1000 := by
        have h2 := entsAll_len ss ways bs.length
        have h3 := Nat.mul_le_mul h.n8 h.w4
        omega
      have hgD : g ≠ W0.heap.size := fun e => by
        obtain ⟨c, m, hc⟩ := hgc
        rw [e, HK.out] at hc; cases hc
      have Hv := Lib.hid hv; clear hv
      have Hents := Lib.hid hents; clear hents
      have HgD := Lib.hid hgD; clear hgD
      clear hlen hl hC hBl hrow hgc
      gi_wp2_with fail
      refine (callsIn_wide.2 (sort_any g cap (entries ss ways bs.length) W Hents.out hg2 hmax)).mono ?_
      rintro e w1 ⟨rfl, ⟨es', hp, hs', he'⟩, hT1⟩
      have hc3' : w1.cell? ⟨w.heap.size, 0, none⟩ = some (.slice (some ⟨g, 0, none⟩) (entries ss ways bs.length).length cap) := (hT1.holds (by omega) Hv.out).cell (i := 0) rfl
      have hK1 : w1.heap[W0.heap.size]? = some (.deferred (some [])) := (hT1.block _ (Array.getElem?_eq_some_iff.1 HK.out).1 (Ne.symm HgD.out)).trans HK.out
      have HT1 := Lib.hid hT1; clear hT1
      have Hp := Lib.hid hp; clear hp
      have Hs' := Lib.hid hs'; clear hs'
      have He' := Lib.hid he'; clear he'
      clear hc3
      have hg3 : g < w1.heap.size := Nat.lt_of_lt_of_le hg2 HT1.out.size
      gi_wp2
      refine leaves_mark hK1 ⟨_, results_tmp rfl _ _ _, _, es', rfl, Hp.out, Hs'.out, .inr ⟨g, cap, by rw [Hp.out.length_eq]; rfl, by omega, by rw [World.putObj_size]; exact hg3, ?_⟩, ?_⟩
      · intro i e he k v hk
        have hc := He'.out i e he k v hk
        have hne : g ≠ W0.heap.size := HgD.out
        have hb := World.putObj_heap_other (w := w1) (r := W0.heap.size) (o := .deferred none) hne
        exact ⟨(World.cell?_of_block (a := ⟨g, i * 21 + k, none⟩) hb).trans hc.1, (World.frozen?_of_block (a := ⟨g, i * 21 + k, none⟩) hb).trans hc.2⟩
      · exact (Hbel.out.trans (Tch.below HT1.out (by omega) (fun k h => by omega))).trans (belowK_b (w := W0) hle w1 W0.heap.size _ _ (Nat.le_refl _) hK1 rfl rfl)
  case stop =>
    rintro c pre W _ h _
    exact h.elim

end Go.Proofs.Ytimoaiebikoojaa
