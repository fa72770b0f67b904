/- Which cores may be: the law's walk. Conditions: what came in. -/
import Derived.Test.YtpgfcjfmhgifiaaMdF
namespace Go.Proofs.Ytpgfcjfmhgifiaa
open Go.ChangeShapes Go.WideShapes Go.ChangeAt Go.RowKit Go.BigFrame

def inKinds : List CK := [⟨0, .i64⟩, ⟨0, .i64⟩, ⟨0, .i64⟩, ⟨0, .i64⟩, ⟨0, .i64⟩]
theorem inKinds_one : ∀ k ∈ inKinds, ∀ v, k.fits v → v.oneCell' = true := by
  intro k hk v hv
  simp only [inKinds, List.mem_cons, List.not_mem_nil, or_false, or_self] at hk
  subst hk
  obtain ⟨m, rfl, _⟩ := hv
  rfl
/-- Cells that came in, in a row. -/
theorem came_flat {w : World} {a : Option Addr} {n : Nat} (h : Came w a n inKinds) : ∃ xs : List Value, xs.length = n * 5 ∧ Ones xs ∧ ∀ ad, a = some ad → ∀ j u, xs[j]? = some u → w.cell? (ad.add j) = some u := by
  have g : ∀ j, ∃ v : Value, j < n * 5 → v.oneCell' = true ∧ ∀ ad, a = some ad → w.cell? (ad.add j) = some v := fun j => by
    by_cases hj : j < n * 5
    · have hm : j % 5 < 5 := Nat.mod_lt _ (by omega)
      obtain ⟨k, hk⟩ : ∃ k, inKinds[j % 5]? = some k := ⟨inKinds[j % 5]'hm, List.getElem?_eq_getElem _⟩
      obtain ⟨b, e, v, hv, hf⟩ := h (j / 5) (by omega) (j % 5) k hk
      refine ⟨v, fun _ => ⟨inKinds_one k (List.mem_of_getElem? hk) v hf, fun ad e2 => ?_⟩⟩
      rw [e] at e2; cases e2
      rw [show j / 5 * inKinds.length + j % 5 = j from by show j / 5 * 5 + j % 5 = j; omega] at hv
      exact hv
    · exact ⟨.bool false, fun h => absurd h hj⟩
  refine ⟨(List.range (n * 5)).map fun j => (g j).choose, by simp, fun u hu => ?_, fun ad e j u hj => ?_⟩
  · rw [List.mem_map] at hu
    obtain ⟨j, hj, rfl⟩ := hu
    exact ((g j).choose_spec (List.mem_range.1 hj)).1
  · rw [List.getElem?_map, Option.map_eq_some_iff] at hj
    obtain ⟨i, hi, rfl⟩ := hj
    obtain ⟨hlt, rfl⟩ := List.getElem?_eq_some_iff.1 hi
    rw [List.length_range] at hlt
    rw [List.getElem_range]
    exact ((g j).choose_spec hlt).2 ad e

theorem NewC.tch {w w' : World} {bc g : Nat} {f s o : Int} (h : NewC w bc f s o) (hT : Tch (fun x => x = g) w w') (hg : ∃ c : Array Value, w.heap[g]? = some (Obj.cells c 51 (0, 0))) : NewC w' bc f s o := by
  obtain ⟨id, wd, v, bf, bl, bp, h1, h2, h3⟩ := h
  obtain ⟨c, hc⟩ := hg
  have n : ∀ (b : Nat) (t : TypeId) (L : List Value), t ≠ 51 → Holds w b t L → Holds w' b t L := fun b t L ht hh => (hT.block b hh.lt (fun e => by
    subst e
    unfold Holds at hh; rw [hc] at hh
    simp only [Option.some.injEq, Obj.cells.injEq] at hh
    exact ht hh.2.1.symm)).trans hh
  exact ⟨id, wd, v, bf, bl, bp, n _ _ _ (by decide) h1, n _ _ _ (by decide) h2, n _ _ _ (by decide) h3.head, h3.ln4⟩

theorem add_zero_at (g j : Nat) : (⟨g, 0, none⟩ : Addr).add j = ⟨g, j, none⟩ := by unfold Addr.add; split <;> simp_all
/-- What is known where the list was copied. -/
structure MdO (w W : World) (n : Nat) (xs : List Value) (g cap : Nat) (f s o lines : Int) : Prop where
  made : Holds W w.heap.size 26 [.int .i64 f, .int .i64 s, .int .i64 o, .int .i64 lines]
  row : W.ownsRow (w.heap.size + 1) 51 5 (.slice (some ⟨g, 0, none⟩) n cap) n xs
  below : Below w.heap.size w W

set_option maxRecDepth 100000 in
set_option maxHeartbeats 4000000 in
theorem made_some {id f s o lines : Int} (n cap : Nat) (ad : Addr) (xs : List Value) (w : World) (hl : xs.length = n * 5) (h1 : Ones xs) (hx : ∀ j u, xs[j]? = some u → w.cell? (ad.add j) = some u) (hn : n * 40 ≤ 140737488355328) :
    Calls Try.prog 3 #[.int .i64 id, .slice (some ad) n cap, .agg #[.int .i64 f, .int .i64 s, .int .i64 o, .int .i64 lines]] w fun e w' => e = .returned (.bool true) ∧ Below w.heap.size w w' := by
  obtain ⟨i0, hi0, hz0, hz1, hz2⟩ := info_parts Try.infoIn
  have Hi := Lib.hid hi0; clear hi0
  have Hz0 := Lib.hid hz0; clear hz0
  have Hz1 := Lib.hid hz1; clear hz1
  have Hz2 := Lib.hid hz2; clear hz2
  have hbm : Below w.heap.size w (w.alloc (.cells #[.int .i64 f, .int .i64 s, .int .i64 o, .int .i64 lines] 26)) := (Below.refl _ w).alloc (Nat.le_refl _) _
  have hmd : Holds (w.alloc (.cells #[.int .i64 f, .int .i64 s, .int .i64 o, .int .i64 lines] 26)) w.heap.size 26 [.int .i64 f, .int .i64 s, .int .i64 o, .int .i64 lines] := Holds.new w _ _
  have hs : (w.alloc (.cells #[.int .i64 f, .int .i64 s, .int .i64 o, .int .i64 lines] 26)).heap.size = w.heap.size + 1 := by simp
  have HM := Lib.hid (And.intro hbm (And.intro hmd hs)); clear hbm hmd hs
  go_enter Try.func3, Try.ntmps3
  go_upto_region 1 with (fail)
  generalize hW0 : w.alloc (.cells #[.int .i64 f, .int .i64 s, .int .i64 o, .int .i64 lines] 26) = w0 at *
  have hx0 : ∀ j u, xs[j]? = some u → (w0.alloc (.cells #[] 51)).cell? (ad.add j) = some u := fun j u hu => by
    have hc := hx j u hu
    have hlt := World.block_lt_of_cell? _ _ hc
    exact ((((Below.refl _ w0).alloc (Nat.le_refl _) (.cells #[] 51)).cell (by have := HM.out.1.size; omega)).trans ((HM.out.1.cell hlt))).trans hc
  have Hx0 := Lib.hid hx0; clear hx0 hx hW0
  go_wp2_with (at_builtin; refine wpList_append_own_at _ rfl (.tmp 13) (.tmp 14) 22 rfl w0.heap.size 51 i0 _ 5 40 Try.underlying22 Hi.out Hz0.out Hz1.out Hz2.out rfl (by decide) (.slice (some ⟨w0.heap.size, 0, none⟩) 0 0) 0 [] rfl (owns_zero w0 _ _) ad n cap xs rfl hl Hx0.out h1 (by unfold maxLen; omega) (by omega) (by simp) ?_; intro v1 w1 hown1 hgrow1 hnil1 _; refine Hid.out ?_)
  refine Lib.hid ?_
  have hb1 : Below w0.heap.size w0 w1 := ((Below.refl _ w0).alloc (Nat.le_refl _) _).grown hgrow1 (by simp) (fun g e => by cases e; exact Nat.le_refl _)
  rw [Nat.zero_add, List.nil_append] at hown1
  rcases owns_form hown1 with ⟨rfl, _, _⟩ | ⟨g, cap1, rfl, _⟩
  · have := (hnil1.1 rfl).1; cases this
  have ho : MdO w w1 n xs g cap1 f s o lines := ⟨(hb1.block _ HM.out.2.1.lt).trans HM.out.2.1, owns_mono hown1 (fun g' e => by have := (owns_lt hown1 e).1; have := HM.out.2.2; omega), HM.out.1.trans (hb1.mono HM.out.1.size)⟩
  clear hown1 hgrow1 hnil1 hb1 HM Hx0
  have HO := Lib.hid ho; clear ho
  have HL := Lib.hid hl; clear hl
  have H1 := Lib.hid h1; clear h1
  have d0 := HO.out.made.cell (i := 0) rfl
  have d1 := HO.out.made.cell (i := 1) rfl
  have d2 := HO.out.made.cell (i := 2) rfl
  have d3 := HO.out.made.cell (i := 3) rfl
  by_cases hc : 0 ≤ id ∧ id < 4 ∧ n ≤ 1024 ∧ 2 ≤ lines ∧ lines ≤ 64 ∧ MayB f s o
  · obtain ⟨c1, c2, c3, c4, c5, c6⟩ := hc
    have hNw := corenew_ok (id := id) (lines := lines) ⟨g, 0, none⟩ n cap1 xs w1 HL.out (fun j u hu => by rw [add_zero_at]; exact (owns_cell HO.out.row (g := g) rfl hu).1) H1.out c3 ⟨c1, c2⟩ ⟨c4, c5⟩ c6
    have hRf := fun V => refnew_ok (id := id) (lines := lines) (some ad) n cap V c3 ⟨c1, c2⟩ ⟨c4, c5⟩ c6
    unfold bud at hNw hRf
    unfold docV at hRf
    obtain ⟨dc, hdc⟩ : ∃ dc : Array Value, (docC id lines (.slice (some ad) n cap) f s o).toArray = dc := ⟨_, rfl⟩
    rw [hdc] at hRf
    have hds : dc.size = 60 := by rw [← hdc]; rfl
    have hd1 : dc.all (·.oneCell') = true := by rw [← hdc]; simp [Value.oneCell']
    have Hdc := Lib.hid hdc; clear hdc
    have HNw := Lib.hid hNw; clear hNw
    have HRf := Lib.hid hRf; clear hRf
    go_wp2_with (go_at_call 4; refine HNw.out.mono ?_; rintro e w2 ⟨bc, rfl, hbc, hnc, hb2⟩; refine Hid.out ?_)
    refine Lib.hid ?_
    have e0 : w2.cell? ⟨w.heap.size, 0, none⟩ = some (.int .i64 f) := (hb2.cell (World.block_lt_of_cell? _ _ d0)).trans d0
    have e1 : w2.cell? ⟨w.heap.size, 1, none⟩ = some (.int .i64 s) := (hb2.cell (World.block_lt_of_cell? _ _ d1)).trans d1
    have e2 : w2.cell? ⟨w.heap.size, 2, none⟩ = some (.int .i64 o) := (hb2.cell (World.block_lt_of_cell? _ _ d2)).trans d2
    have e3 : w2.cell? ⟨w.heap.size, 3, none⟩ = some (.int .i64 lines) := (hb2.cell (World.block_lt_of_cell? _ _ d3)).trans d3
    clear d0 d1 d2 d3
    have Hrow := Lib.hid (owns_same HO.out.row (w' := w2) (fun g' e => hb2.block g' (owns_lt HO.out.row e).2))
    have Hb2 := Lib.hid (HO.out.below.trans (hb2.mono HO.out.below.size))
    have Hnc := Lib.hid hnc
    clear hb2 hnc HNw HO
    go_wp2_with (go_at_call 5; refine (HRf.out _).mono ?_; rintro e w3 ⟨rfl, hb3⟩; refine Hid.out ?_)
    refine Lib.hid ?_
    have Hrow := Lib.hid (owns_same Hrow.out (w' := w3) (fun g' e => hb3.block g' (owns_lt Hrow.out e).2))
    have Hnc := Lib.hid (Hnc.out.below hb3)
    have Hb3 := Lib.hid (Hb2.out.trans (hb3.mono Hb2.out.size))
    clear hb3 Hb2 e0 e1 e2 e3 HRf
    have Hz := Lib.hid (Holds.new w3 47 docZ)
    have Hb34 := Lib.hid ((Below.refl _ w3).alloc (Nat.le_refl _) (.cells docZ.toArray 47))
    have Hbz := Lib.hid (Nat.le_trans Hb3.out.size (Nat.le_refl w3.heap.size))
    have Hsz := Lib.hid (show dc.size = docZ.length from hds)
    go_upto_region 4 with (refine wpList_store_mid rfl 47 (.tmp 10) (.tmp 34) rfl w3.heap.size 0 dc rfl rfl (by have := Hz.out.there (o := 0) (n := 60) (Nat.le_refl _); rw [hds]; exact this) (by rw [hds]; kernel_rfl) hd1 ?_; generalize w3.alloc (.cells docZ.toArray 47) = w4 at *)
    have hw5 : Holds (w4.setCells w3.heap.size 0 dc.toList) w3.heap.size 47 (docC id lines (.slice (some ad) n cap) f s o) := by
      have := Hz.out.over dc.toList (by rw [Array.length_toList]; exact Hsz.out)
      rw [← Hdc.out] at this ⊢
      exact this
    have hb35 : Below w3.heap.size w3 (w4.setCells w3.heap.size 0 dc.toList) := below_cells (Nat.le_refl _) dc.toList 0 _ Hb34.out
    have Hnc5 := Lib.hid (Hnc.out.below hb35)
    have Hrow5 := Lib.hid (owns_same Hrow.out (fun g' e => hb35.block g' (owns_lt Hrow.out e).2))
    have Hg5 := Lib.hid (owns_lt Hrow.out (g := g) rfl)
    have Hb5 := Lib.hid (Hb3.out.trans (hb35.mono Hb3.out.size))
    have Hw5 := Lib.hid hw5
    clear hb35 hw5 Hnc Hrow Hb34 Hb3 Hz Hsz Hdc hds hd1 Hbz
    generalize w4.setCells w3.heap.size 0 dc.toList = w5 at *
    go_wp2_with fail
    go_loopw [12] (fun u12 wr => ∃ k : Nat, k ≤ n ∧ u12 = .int .i64 k ∧ Tch (fun x => x = g) w5 wr ∧ ∃ ys, wr.ownsRow (w.heap.size + 1) 51 5 (.slice (some ⟨g, 0, none⟩) n cap1) n ys) (fun i _ => n - (intOf i).toNat)
    case atStart => exact ⟨0, by omega, by simp, Tch.refl _ _, _, Hrow5.out⟩
    case round =>
      obtain ⟨k, hk, rfl, hT, ys, hown⟩ := hrel
      by_cases hlt : k < n
      · obtain ⟨u, hu⟩ : ∃ u, ys[k * 5]? = some u := ⟨ys[k * 5]'(by rw [hown.1]; omega), List.getElem?_eq_getElem _⟩
        obtain ⟨r0, f0⟩ := owns_cell hown (g := g) rfl hu
        have HS := Lib.hid (hown.stored (k * 5) (.int .i64 77)).1
        have HT := Lib.hid (hT.setCell (p := ⟨g, k * 5, none⟩) (.inl rfl) (.int .i64 77)); clear hT hown hu
        have hbk : (0 : Int) ≤ k ∧ (k : Int) < n := by omega
        go_wp2_with fail
        go_roundw
        case rel => exact ⟨k + 1, by omega, by go_num, HT.out, _, HS.out⟩
        case measure => simp [intOf]; omega
      · obtain rfl : k = n := by omega
        have hne : ¬ w3.heap.size = g := fun e => by have := Hg5.out.2; omega
        have hSm := same_any (Hnc5.out.tch hT (owns_kind Hrow5.out rfl)) (hT.holds (C := fun x => x = g) hne Hw5.out)
        have HF := Lib.hid (Hb5.out.trans ((hT.below Hb5.out.size (fun x e => by subst e; have := Hg5.out.1; omega))))
        have HSm := Lib.hid hSm; clear hSm hT hown
        go_wp2_with (go_at_call 6; refine HSm.out.mono ?_; rintro e w9 ⟨rfl, hb9⟩; refine Hid.out ?_)
        refine Lib.hid ?_
        have HF9 := Lib.hid (HF.out.trans (hb9.mono HF.out.size)); clear hb9
        go_wp2_with fail
        exact bodyPost_ret (results_tmp rfl _ _ _) rfl ⟨rfl, HF9.out⟩
  · have hNw := corenew_no (id := id) (lines := lines) (f := f) (s := s) (o := o) (some ⟨g, 0, none⟩) n cap1 w1 hc
    have hRf := fun V => refnew_no (id := id) (lines := lines) (f := f) (s := s) (o := o) (some ad) n cap V hc
    unfold bud at hNw hRf
    unfold docV at hRf
    obtain ⟨dc, hdc⟩ : ∃ dc : Array Value, docZ.toArray = dc := ⟨_, rfl⟩
    rw [hdc] at hRf
    have hds : dc.size = 60 := by rw [← hdc]; rfl
    have hd1 : dc.all (·.oneCell') = true := by rw [← hdc]; simp [Value.oneCell']
    clear hdc
    have HNw := Lib.hid hNw; clear hNw
    have HRf := Lib.hid hRf; clear hRf hc
    go_wp2_with (go_at_call 4; refine HNw.out.mono ?_; rintro e w2 ⟨rfl, hb2⟩; refine Hid.out ?_)
    refine Lib.hid ?_
    have e0 : w2.cell? ⟨w.heap.size, 0, none⟩ = some (.int .i64 f) := (hb2.cell (World.block_lt_of_cell? _ _ d0)).trans d0
    have e1 : w2.cell? ⟨w.heap.size, 1, none⟩ = some (.int .i64 s) := (hb2.cell (World.block_lt_of_cell? _ _ d1)).trans d1
    have e2 : w2.cell? ⟨w.heap.size, 2, none⟩ = some (.int .i64 o) := (hb2.cell (World.block_lt_of_cell? _ _ d2)).trans d2
    have e3 : w2.cell? ⟨w.heap.size, 3, none⟩ = some (.int .i64 lines) := (hb2.cell (World.block_lt_of_cell? _ _ d3)).trans d3
    clear d0 d1 d2 d3
    have Hb2 := Lib.hid (HO.out.below.trans (hb2.mono HO.out.below.size))
    clear hb2 HNw HO
    go_wp2_with (go_at_call 5; refine (HRf.out _).mono ?_; rintro e w3 ⟨rfl, hb3⟩; refine Hid.out ?_)
    refine Lib.hid ?_
    have Hb3 := Lib.hid (Hb2.out.trans (hb3.mono Hb2.out.size))
    have Hz := Lib.hid (Holds.new w3 47 docZ)
    have Hb4 := Lib.hid (Hb3.out.alloc Hb3.out.size (.cells docZ.toArray 47))
    have Hbz := Lib.hid Hb3.out.size
    clear hb3 Hb2 Hb3 e0 e1 e2 e3 HRf
    go_upto_region 4 with (refine wpList_store_mid rfl 47 (.tmp 10) (.tmp 34) rfl w3.heap.size 0 dc rfl rfl (by have := Hz.out.there (o := 0) (n := 60) (Nat.le_refl _); rw [hds]; exact this) (by rw [hds]; kernel_rfl) hd1 ?_; generalize w3.alloc (.cells docZ.toArray 47) = w4 at *)
    have Hb5 := Lib.hid (below_cells Hbz.out dc.toList 0 _ Hb4.out)
    go_wp2_with fail
    exact bodyPost_ret (results_tmp rfl _ _ _) rfl ⟨by simp, Hb5.out⟩

set_option maxRecDepth 100000 in
set_option maxHeartbeats 4000000 in
theorem made_none {id f s o lines : Int} (n : Nat) (xs : List Value) (w : World) (hn0 : n = 0) (hx0 : xs = []) :
    Calls Try.prog 3 #[.int .i64 id, .slice none n 0, .agg #[.int .i64 f, .int .i64 s, .int .i64 o, .int .i64 lines]] w fun e w' => e = .returned (.bool true) ∧ Below w.heap.size w w' := by
  have hl : xs.length = n * 5 := by rw [hn0, hx0]; rfl
  have h1 : Ones xs := by rw [hx0]; intro u hu; cases hu
  have Hn0 := Lib.hid hn0; clear hn0
  have Hxs := Lib.hid hx0; clear hx0
  obtain ⟨i0, hi0, hz0, hz1, hz2⟩ := info_parts Try.infoIn
  have Hi := Lib.hid hi0; clear hi0
  have Hz0 := Lib.hid hz0; clear hz0
  have Hz1 := Lib.hid hz1; clear hz1
  have Hz2 := Lib.hid hz2; clear hz2
  have hbm : Below w.heap.size w (w.alloc (.cells #[.int .i64 f, .int .i64 s, .int .i64 o, .int .i64 lines] 26)) := (Below.refl _ w).alloc (Nat.le_refl _) _
  have hmd : Holds (w.alloc (.cells #[.int .i64 f, .int .i64 s, .int .i64 o, .int .i64 lines] 26)) w.heap.size 26 [.int .i64 f, .int .i64 s, .int .i64 o, .int .i64 lines] := Holds.new w _ _
  have hs : (w.alloc (.cells #[.int .i64 f, .int .i64 s, .int .i64 o, .int .i64 lines] 26)).heap.size = w.heap.size + 1 := by simp
  have HM := Lib.hid (And.intro hbm (And.intro hmd hs)); clear hbm hmd hs
  go_enter Try.func3, Try.ntmps3
  go_upto_region 1 with (fail)
  generalize hW0 : w.alloc (.cells #[.int .i64 f, .int .i64 s, .int .i64 o, .int .i64 lines] 26) = w0 at *
  clear hW0
  go_wp2_with (at_builtin; refine wpList_append_own_none rfl (.tmp 13) (.tmp 14) 22 rfl w0.heap.size 51 i0 5 Try.underlying22 Hi.out (.slice (some ⟨w0.heap.size, 0, none⟩) 0 0) 0 [] rfl (owns_zero w0 _ _) (show Value.slice none n 0 = _ by rw [Hn0.out]) ?_; refine Hid.out ?_)
  refine Lib.hid ?_
  obtain ⟨g, hg⟩ : ∃ g, w0.heap.size = g := ⟨_, rfl⟩
  have hb1 : Below w0.heap.size w0 (w0.alloc (.cells #[] 51)) := (Below.refl _ w0).alloc (Nat.le_refl _) _
  obtain ⟨cap1, hcap⟩ : ∃ c : Nat, c = 0 := ⟨_, rfl⟩
  have hown1 : (w0.alloc (.cells #[] 51)).ownsRow w0.heap.size 51 5 (.slice (some ⟨g, 0, none⟩) n cap1) n xs := by rw [hcap, Hn0.out, Hxs.out, ← hg]; exact owns_zero w0 _ _
  generalize w0.alloc (.cells #[] 51) = w1 at *
  have ho : MdO w w1 n xs g cap1 f s o lines := ⟨(hb1.block _ HM.out.2.1.lt).trans HM.out.2.1, owns_mono hown1 (fun g' e => by have := (owns_lt hown1 e).1; have := HM.out.2.2; omega), HM.out.1.trans (hb1.mono HM.out.1.size)⟩
  have hs0 : Hid ((.slice (some ⟨w0.heap.size, 0, none⟩) 0 0 : Value) = .slice (some ⟨g, 0, none⟩) n cap1) := Lib.hid (by rw [hg, Hn0.out, hcap])
  rw [hs0.out]
  clear hown1 hb1 HM hg hcap hs0
  have HO := Lib.hid ho; clear ho
  have HL := Lib.hid hl; clear hl
  have H1 := Lib.hid h1; clear h1
  have d0 := HO.out.made.cell (i := 0) rfl
  have d1 := HO.out.made.cell (i := 1) rfl
  have d2 := HO.out.made.cell (i := 2) rfl
  have d3 := HO.out.made.cell (i := 3) rfl
  by_cases hc : 0 ≤ id ∧ id < 4 ∧ n ≤ 1024 ∧ 2 ≤ lines ∧ lines ≤ 64 ∧ MayB f s o
  · obtain ⟨c1, c2, c3, c4, c5, c6⟩ := hc
    have hNw := corenew_ok (id := id) (lines := lines) ⟨g, 0, none⟩ n cap1 xs w1 HL.out (fun j u hu => by rw [add_zero_at]; exact (owns_cell HO.out.row (g := g) rfl hu).1) H1.out c3 ⟨c1, c2⟩ ⟨c4, c5⟩ c6
    have hRf := fun V => refnew_ok (id := id) (lines := lines) none n 0 V c3 ⟨c1, c2⟩ ⟨c4, c5⟩ c6
    unfold bud at hNw hRf
    unfold docV at hRf
    obtain ⟨dc, hdc⟩ : ∃ dc : Array Value, (docC id lines (.slice none n 0) f s o).toArray = dc := ⟨_, rfl⟩
    rw [hdc] at hRf
    have hds : dc.size = 60 := by rw [← hdc]; rfl
    have hd1 : dc.all (·.oneCell') = true := by rw [← hdc]; simp [Value.oneCell']
    have Hdc := Lib.hid hdc; clear hdc
    have HNw := Lib.hid hNw; clear hNw
    have HRf := Lib.hid hRf; clear hRf
    go_wp2_with (go_at_call 4; refine HNw.out.mono ?_; rintro e w2 ⟨bc, rfl, hbc, hnc, hb2⟩; refine Hid.out ?_)
    refine Lib.hid ?_
    have e0 : w2.cell? ⟨w.heap.size, 0, none⟩ = some (.int .i64 f) := (hb2.cell (World.block_lt_of_cell? _ _ d0)).trans d0
    have e1 : w2.cell? ⟨w.heap.size, 1, none⟩ = some (.int .i64 s) := (hb2.cell (World.block_lt_of_cell? _ _ d1)).trans d1
    have e2 : w2.cell? ⟨w.heap.size, 2, none⟩ = some (.int .i64 o) := (hb2.cell (World.block_lt_of_cell? _ _ d2)).trans d2
    have e3 : w2.cell? ⟨w.heap.size, 3, none⟩ = some (.int .i64 lines) := (hb2.cell (World.block_lt_of_cell? _ _ d3)).trans d3
    clear d0 d1 d2 d3
    have Hrow := Lib.hid (owns_same HO.out.row (w' := w2) (fun g' e => hb2.block g' (owns_lt HO.out.row e).2))
    have Hb2 := Lib.hid (HO.out.below.trans (hb2.mono HO.out.below.size))
    have Hnc := Lib.hid hnc
    clear hb2 hnc HNw HO
    go_wp2_with (go_at_call 5; refine (HRf.out _).mono ?_; rintro e w3 ⟨rfl, hb3⟩; refine Hid.out ?_)
    refine Lib.hid ?_
    have Hrow := Lib.hid (owns_same Hrow.out (w' := w3) (fun g' e => hb3.block g' (owns_lt Hrow.out e).2))
    have Hnc := Lib.hid (Hnc.out.below hb3)
    have Hb3 := Lib.hid (Hb2.out.trans (hb3.mono Hb2.out.size))
    clear hb3 Hb2 e0 e1 e2 e3 HRf
    have Hz := Lib.hid (Holds.new w3 47 docZ)
    have Hb34 := Lib.hid ((Below.refl _ w3).alloc (Nat.le_refl _) (.cells docZ.toArray 47))
    have Hbz := Lib.hid (Nat.le_trans Hb3.out.size (Nat.le_refl w3.heap.size))
    have Hsz := Lib.hid (show dc.size = docZ.length from hds)
    go_upto_region 4 with (refine wpList_store_mid rfl 47 (.tmp 10) (.tmp 34) rfl w3.heap.size 0 dc rfl rfl (by have := Hz.out.there (o := 0) (n := 60) (Nat.le_refl _); rw [hds]; exact this) (by rw [hds]; kernel_rfl) hd1 ?_; generalize w3.alloc (.cells docZ.toArray 47) = w4 at *)
    have hw5 : Holds (w4.setCells w3.heap.size 0 dc.toList) w3.heap.size 47 (docC id lines (.slice none n 0) f s o) := by
      have := Hz.out.over dc.toList (by rw [Array.length_toList]; exact Hsz.out)
      rw [← Hdc.out] at this ⊢
      exact this
    have hb35 : Below w3.heap.size w3 (w4.setCells w3.heap.size 0 dc.toList) := below_cells (Nat.le_refl _) dc.toList 0 _ Hb34.out
    have Hnc5 := Lib.hid (Hnc.out.below hb35)
    have Hrow5 := Lib.hid (owns_same Hrow.out (fun g' e => hb35.block g' (owns_lt Hrow.out e).2))
    have Hg5 := Lib.hid (owns_lt Hrow.out (g := g) rfl)
    have Hb5 := Lib.hid (Hb3.out.trans (hb35.mono Hb3.out.size))
    have Hw5 := Lib.hid hw5
    clear hb35 hw5 Hnc Hrow Hb34 Hb3 Hz Hsz Hdc hds hd1 Hbz
    generalize w4.setCells w3.heap.size 0 dc.toList = w5 at *
    go_wp2_with fail
    go_loopw [12] (fun u12 wr => ∃ k : Nat, k ≤ n ∧ u12 = .int .i64 k ∧ Tch (fun x => x = g) w5 wr ∧ ∃ ys, wr.ownsRow (w.heap.size + 1) 51 5 (.slice (some ⟨g, 0, none⟩) n cap1) n ys) (fun i _ => n - (intOf i).toNat)
    case atStart => exact ⟨0, by omega, by simp, Tch.refl _ _, _, Hrow5.out⟩
    case round =>
      obtain ⟨k, hk, rfl, hT, ys, hown⟩ := hrel
      by_cases hlt : k < n
      · obtain ⟨u, hu⟩ : ∃ u, ys[k * 5]? = some u := ⟨ys[k * 5]'(by rw [hown.1]; omega), List.getElem?_eq_getElem _⟩
        obtain ⟨r0, f0⟩ := owns_cell hown (g := g) rfl hu
        have HS := Lib.hid (hown.stored (k * 5) (.int .i64 77)).1
        have HT := Lib.hid (hT.setCell (p := ⟨g, k * 5, none⟩) (.inl rfl) (.int .i64 77)); clear hT hown hu
        have hbk : (0 : Int) ≤ k ∧ (k : Int) < n := by omega
        go_wp2_with fail
        go_roundw
        case rel => exact ⟨k + 1, by omega, by go_num, HT.out, _, HS.out⟩
        case measure => simp [intOf]; omega
      · obtain rfl : k = n := by omega
        have hne : ¬ w3.heap.size = g := fun e => by have := Hg5.out.2; omega
        have hSm := same_any (Hnc5.out.tch hT (owns_kind Hrow5.out rfl)) (hT.holds (C := fun x => x = g) hne Hw5.out)
        have HF := Lib.hid (Hb5.out.trans ((hT.below Hb5.out.size (fun x e => by subst e; have := Hg5.out.1; omega))))
        have HSm := Lib.hid hSm; clear hSm hT hown
        go_wp2_with (go_at_call 6; refine HSm.out.mono ?_; rintro e w9 ⟨rfl, hb9⟩; refine Hid.out ?_)
        refine Lib.hid ?_
        have HF9 := Lib.hid (HF.out.trans (hb9.mono HF.out.size)); clear hb9
        go_wp2_with fail
        exact bodyPost_ret (results_tmp rfl _ _ _) rfl ⟨rfl, HF9.out⟩
  · have hNw := corenew_no (id := id) (lines := lines) (f := f) (s := s) (o := o) (some ⟨g, 0, none⟩) n cap1 w1 hc
    have hRf := fun V => refnew_no (id := id) (lines := lines) (f := f) (s := s) (o := o) none n 0 V hc
    unfold bud at hNw hRf
    unfold docV at hRf
    obtain ⟨dc, hdc⟩ : ∃ dc : Array Value, docZ.toArray = dc := ⟨_, rfl⟩
    rw [hdc] at hRf
    have hds : dc.size = 60 := by rw [← hdc]; rfl
    have hd1 : dc.all (·.oneCell') = true := by rw [← hdc]; simp [Value.oneCell']
    clear hdc
    have HNw := Lib.hid hNw; clear hNw
    have HRf := Lib.hid hRf; clear hRf hc
    go_wp2_with (go_at_call 4; refine HNw.out.mono ?_; rintro e w2 ⟨rfl, hb2⟩; refine Hid.out ?_)
    refine Lib.hid ?_
    have e0 : w2.cell? ⟨w.heap.size, 0, none⟩ = some (.int .i64 f) := (hb2.cell (World.block_lt_of_cell? _ _ d0)).trans d0
    have e1 : w2.cell? ⟨w.heap.size, 1, none⟩ = some (.int .i64 s) := (hb2.cell (World.block_lt_of_cell? _ _ d1)).trans d1
    have e2 : w2.cell? ⟨w.heap.size, 2, none⟩ = some (.int .i64 o) := (hb2.cell (World.block_lt_of_cell? _ _ d2)).trans d2
    have e3 : w2.cell? ⟨w.heap.size, 3, none⟩ = some (.int .i64 lines) := (hb2.cell (World.block_lt_of_cell? _ _ d3)).trans d3
    clear d0 d1 d2 d3
    have Hb2 := Lib.hid (HO.out.below.trans (hb2.mono HO.out.below.size))
    clear hb2 HNw HO
    go_wp2_with (go_at_call 5; refine (HRf.out _).mono ?_; rintro e w3 ⟨rfl, hb3⟩; refine Hid.out ?_)
    refine Lib.hid ?_
    have Hb3 := Lib.hid (Hb2.out.trans (hb3.mono Hb2.out.size))
    have Hz := Lib.hid (Holds.new w3 47 docZ)
    have Hb4 := Lib.hid (Hb3.out.alloc Hb3.out.size (.cells docZ.toArray 47))
    have Hbz := Lib.hid Hb3.out.size
    clear hb3 Hb2 Hb3 e0 e1 e2 e3 HRf
    go_upto_region 4 with (refine wpList_store_mid rfl 47 (.tmp 10) (.tmp 34) rfl w3.heap.size 0 dc rfl rfl (by have := Hz.out.there (o := 0) (n := 60) (Nat.le_refl _); rw [hds]; exact this) (by rw [hds]; kernel_rfl) hd1 ?_; generalize w3.alloc (.cells docZ.toArray 47) = w4 at *)
    have Hb5 := Lib.hid (below_cells Hbz.out dc.toList 0 _ Hb4.out)
    go_wp2_with fail
    exact bodyPost_ret (results_tmp rfl _ _ _) rfl ⟨by simp, Hb5.out⟩

theorem made_any {id f s o lines : Int} (a : Option Addr) (n cap : Nat) (w : World) (h : Came w a n inKinds) (hn : n * 40 ≤ 140737488355328) (hz : a = none → n = 0 ∧ cap = 0) :
    Calls Try.prog 3 #[.int .i64 id, .slice a n cap, .agg #[.int .i64 f, .int .i64 s, .int .i64 o, .int .i64 lines]] w fun e w' => e = .returned (.bool true) ∧ Below w.heap.size w w' := by
  obtain ⟨xs, hl, h1, hx⟩ := came_flat h
  cases a with
  | none =>
    obtain ⟨rfl, rfl⟩ := hz rfl
    exact made_none 0 xs w rfl (List.eq_nil_of_length_eq_zero (by rw [hl]))
  | some ad => exact made_some n cap ad xs w hl h1 (hx ad rfl) hn

end Go.Proofs.Ytpgfcjfmhgifiaa
