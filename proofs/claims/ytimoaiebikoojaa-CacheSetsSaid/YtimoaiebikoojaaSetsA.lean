/- CacheSets: the walk. Conditions: those stated in each theorem. -/
import Derived.Test.YtimoaiebikoojaaBack
import Derived.Test.YtimoaiebikoojaaSetsP
import Derived.Test.YtimoaiebikoojaaStill
import Derived.Deep.RegionHeld3
import Derived.IntWalk
namespace Go.Proofs.Ytimoaiebikoojaa
open Go.RowKit Go.BigFrame

theorem fill_does {w0 w : World} {p S : Nat} {bs : List Nat} {ways : Nat} {ss : Sets} {u : Int} {G : List (Nat × List Value)} (h : St w0 w p S bs ways ss u G) (k : Int) (d : L8) (h0 : 0 ≤ u) (hu : u < 4294967296) {n : Nat} {was : Ent} {had : Bool} {f : Int} (hv : FillV n ways ss (fillL ss u k 1 d) was had f) :
    Calls Try.prog 12 #[.pointer (some ⟨p, 0, none⟩), .int .i64 k, .int .i64 1, .agg #[.int .u64 d.x0, .int .u64 d.x1, .int .u64 d.x2, .int .u64 d.x3, .int .u64 d.x4, .int .u64 d.x5, .int .u64 d.x6, .int .u64 d.x7]] w fun e w' => e = .returned (.tuple #[.agg was.cells.toArray, .bool had, .int .i64 f]) ∧ St w0 w' p S bs ways (fillL ss u k 1 d).1 (fillL ss u k 1 d).2.1 G ∧ Tch (Turns p bs) w w' := by
  rw [← (show (Value.tuple #[.agg was.cells.toArray, .bool had, .int .i64 f]) = _ from hv.ans.symm).symm]
  clear hv
  unfold fillL
  by_cases hk : k < 0 ∨ ((1 : Int) ≠ 1 ∧ (1 : Int) ≠ 2)
  · rw [if_pos hk]
    exact (fill_arg p k 1 d w hk).mono fun e w' hb => ⟨hb.1, h.idle hb.2, turns_of_below hb.2⟩
  · rw [if_neg hk]
    obtain ⟨m, rfl⟩ := Int.eq_ofNat_of_zero_le (show 0 ≤ k by omega)
    split
    next x hf => exact (fill_twice h.cache m 1 d (.inl rfl) hf).mono fun e w' hb => ⟨hb.1, h.idle hb.2, turns_of_below hb.2⟩
    next hf =>
      rw [Int.toNat_natCast]
      split
      next hg => exact (fill_marked h.cache m 1 d (.inl rfl) hf hg).mono fun e w' hb => ⟨hb.1, h.idle hb.2, turns_of_below hb.2⟩
      next i j hg => exact (fill_ok h.cache m 1 (.inl rfl) d hf hg h0 hu).mono fun e w' hb => ⟨hb.1, h.turn hb.2.1 hb.2.2, hb.2.2⟩

theorem St.lay {w0 w : World} {p S : Nat} {bs : List Nat} {ways : Nat} {ss : Sets} {u : Int} {G : List (Nat × List Value)} (h : St w0 w p S bs ways ss u G) (n0 : Nat) (h0 : w0.heap.size ≤ n0) (hlt : n0 < w.heap.size) (hn : ¬ Turns p bs n0) (hS : S ≠ n0) (hG : ∀ x ∈ G, x.1 ≠ n0) (ht : w.there n0 0 21) (e : Ent) : St w0 (w.setCells n0 0 e.cells) p S bs ways ss u ((n0, e.cells) :: G) := by
  have hT : Tch (· = n0) w (w.setCells n0 0 e.cells) := Tch.setCells (C := (· = n0)) (.inl rfl) _ _ (Tch.refl _ w)
  refine ⟨h.cache.frame hT (fun e => hn (.inl e.symm)) (fun e => hS e) (fun b hb e => hn (.inr (e ▸ hb))), h.below.trans (hT.below h.size (fun k e => e ▸ h0)), Nat.le_trans h.size hT.size, h.mine, fun x hx => ?_⟩
  rcases List.mem_cons.1 hx with rfl | hx
  · exact ⟨Nat.lt_of_lt_of_le hlt hT.size, hn, range_set e.cells (by rw [Ent.len]; exact ht)⟩
  · obtain ⟨h1, h2, h3⟩ := h.rows x hx
    refine ⟨Nat.lt_of_lt_of_le h1 hT.size, h2, fun i v hi => ?_⟩
    rw [World.cell?_of_block (a := ⟨x.1, 0 + i, none⟩) (hT.block _ h1 (hG x hx))]
    exact h3 i v hi

theorem there_of_block {w w' : World} {b n : Nat} (h : w.there b 0 n) (hb : w'.heap[b]? = w.heap[b]?) : w'.there b 0 n := fun j hj => by
  rw [World.cell?_of_block (a := ⟨b, 0 + j, none⟩) hb, World.frozen?_of_block (a := ⟨b, 0 + j, none⟩) hb]; exact h j hj

@[local go_sem ↓ high] theorem eq_ent_other (x y : Ent) (w : World) (h : x ≠ y) : (Op.equalIn 10000 42 (.agg x.cells.toArray) (.agg y.cells.toArray)).run Try.prog w = .ok false w := by
  rw [eq_ents, show decide (x = y) = false from decide_eq_false h]
@[local go_sem ↓ high] theorem store_ent (e : Ent) (n0 : Nat) (W : World) (h : W.there n0 0 21) : (storeCells ⟨n0, 0, none⟩ e.cells).run Try.prog W = .ok () (W.setCells n0 0 e.cells) := by
  have := run_storeCells_cells (P := Try.prog) n0 0 e.cells 0 W (fun j hj => by rw [Nat.add_zero]; exact (h j hj).1) (fun j hj => by rw [Nat.add_zero]; exact (h j hj).2) (fun v hv => by have := oneEnt e; simp only [List.all_toArray, List.all_eq_true] at this; exact this v hv)
  exact this

set_option maxRecDepth 100000 in
set_option maxHeartbeats 4000000 in
theorem sets_two (n ways : Nat) (x0 : StepV) (xs : List StepV) (q c cl : Nat) (w : World) (h1 : 1 ≤ n) (h8 : n ≤ 8) (hw1 : 1 ≤ ways) (hw4 : ways ≤ 4) (hl : xs.length < 600) (hc2 : 1 < cl) (hcm : cl ≤ 9223372036854775807)
    (hx : StepsAt w q c (x0 :: xs)) (hn : ∀ x ∈ x0 :: xs, x.n ≤ 9223372036854775807) :
    Calls Try.prog 5 #[.int .i64 n, .int .i64 ways, .slice (some ⟨q, c, none⟩) (xs.length + 1) cl] w fun e w' => e = .returned (.bool true) ∧ Below w.heap.size w w' := by
  have HX := Lib.hid hx; clear hx
  have HN := Lib.hid hn; clear hn
  have g1 : decide ((600 : Int) < (xs.length : Int) + 1) = false := by simp; omega
  have g2 : ((xs.length : Int) + 1 == 0) = false := by simp; omega
  go_enter Try.func5, Try.ntmps5
  go_wp2_with fail
  refine (alive_ok _).mono ?_
  rintro e wa ⟨rfl, hba⟩
  have Hbw := Lib.hid hba; clear hba
  go_wp2_with fail
  refine (new_ok n ways wa h1 h8 hw1 hw4).mono ?_
  rintro e w1 ⟨p, S, bs, rfl, hbl, h0, hb0, hp0, hS, hbs⟩
  have hsz : w.heap.size ≤ wa.heap.size := Hbw.out.size
  have H1 : Hid (St w w1 p S bs ways (newSets n ways) 0 []) := Lib.hid ⟨h0, Hbw.out.trans (hb0.mono hsz), Nat.le_trans hsz hb0.size, fun k hk => hk.elim (fun e => e ▸ Nat.le_trans hsz hp0) (fun hm => Nat.le_trans hsz (hbs k hm)), fun _ h => by cases h⟩
  have Hbl := Lib.hid hbl; clear hbl
  clear h0 hb0 hp0 hS hbs Hbw hsz
  have i2 := Lib.hid (Inv.play (n := n) (ways := ways) h1 xs (s := (newSets n ways, 0)) (inv_new n ways) (by simp))
  have hu2 := Lib.hid (playL_uses xs (newSets n ways, 0))
  have hst1 : StepsIn w (some ⟨q, c + 13, none⟩) xs := .inr ⟨q, c + 13, rfl, HX.out.1, fun k x hx => by
    have := HX.out.2 (k + 1) x (by simpa using hx)
    rwa [show c + (k + 1) * 13 = c + 13 + k * 13 from by omega] at this⟩
  have Hst1 := Lib.hid hst1; clear hst1
  have hr0 := HX.out.2 0 x0 rfl
  rw [Nat.zero_mul, Nat.add_zero] at hr0
  have Hr0 := Lib.hid hr0; clear hr0
  have hql := HX.out.1
  have hn0 := HN.out x0 (List.mem_cons_self ..)
  have HN1 : Hid (∀ x ∈ xs, x.n ≤ 9223372036854775807) := Lib.hid (fun x hx => HN.out x (List.mem_cons_of_mem _ hx))
  clear HX HN
  · skip
    go_wp2_with fail
    refine (play_any H1.out (some ⟨q, c + 13, none⟩) (cl - 1) xs Hst1.out (by omega) (by omega) HN1.out).mono ?_
    rintro e w2 ⟨rfl, h2⟩
    have H2 := Lib.hid h2; clear h2 H1 Hst1 HN1
    obtain ⟨s2, u2, hs2, hu2e⟩ : ∃ s2 u2, s2 = (playL (newSets n ways, 0) xs).1 ∧ u2 = (playL (newSets n ways, 0) xs).2 := ⟨_, _, rfl, rfl⟩
    rw [← hs2, ← hu2e] at i2 H2
    rw [← hu2e] at hu2
    clear hs2 hu2e
    have hub : 0 ≤ u2 ∧ u2 ≤ 600 := by have := hu2.out; omega
    obtain ⟨hu0, hu4⟩ := hub
    clear hu2 g1 g2 hc2
    go_wp2_with fail
    refine (all_st H2.out (Hbl.out.symm ▸ i2.out)).mono ?_
    rintro e w4 ⟨a, ca, es, rfl, hper, h32, hris, hga, hqa, h4⟩
    rw [Hbl.out] at hper
    have H4 := Lib.hid h4; clear h4 H2
    have Hper := Lib.hid hper; clear hper
    have Hris := Lib.hid hris; clear hris
    have Hga := Lib.hid hga; clear hga
    have Hqa := Lib.hid hqa; clear hqa
    go_wp2
    go_loopw [11] (fun i wr => ∃ k : Nat, k ≤ es.length ∧ i = .int .i64 k ∧ St w wr p S bs ways s2 u2 (rowsOf a es ++ [])) (fun i _ => es.length - (intOf i).toNat)
    case atStart => exact ⟨0, by omega, rfl, H4.out⟩
    case round =>
      clear H4
      obtain ⟨k, hk, rfl, hs⟩ := hrel
      have HS := Lib.hid hs; clear hs
      by_cases hlt : k < es.length
      · obtain ⟨x, hx⟩ : ∃ x, es[k]? = some x := ⟨es[k], List.getElem?_eq_getElem hlt⟩
        obtain ⟨g, hg⟩ := Hga.out (fun e => by rw [e] at hlt; simp at hlt)
        have hmx := List.mem_of_getElem? hx
        have hmany := i2.out.many_le Hper.out hmx
        obtain ⟨hx0, hxs⟩ := i2.out.ent_ok Hper.out hmx
        have HR : Hid (∀ (W : World), St w W p S bs ways s2 u2 (rowsOf a es ++ []) → ∀ j y, es[j]? = some y → W.rangeAt g (j * 21) y.cells) := Lib.hid (fun W hW j y hy => hW.row_at (a := a) (es := es) (fun x hx => by simp [hx]) Hqa.out hg hy)
        have Hx := Lib.hid hx; clear hx hmx
        have Hg := Lib.hid hg; clear hg
        obtain ⟨wo, hwo⟩ : ∃ wo : World, wo = wr := ⟨_, rfl⟩
        subst hwo
        rw [Hg.out]
        go_wp2
        go_loopw [12, 13] (fun m j wr => ∃ jj : Nat, jj ≤ es.length ∧ j = .int .i64 jj ∧ m = .int .i64 (manyIn n x (es.take jj)) ∧ St w wr p S bs ways s2 u2 (rowsOf a es ++ [])) (fun _ j _ => es.length - (intOf j).toNat)
        case atStart => exact ⟨0, by omega, rfl, rfl, HS.out⟩
        case round =>
          clear HS
          obtain ⟨jj, hjj, rfl, rfl, hs⟩ := hrel
          have HS := Lib.hid hs; clear hs
          by_cases hltj : jj < es.length
          · obtain ⟨y, hy⟩ : ∃ y, es[jj]? = some y := ⟨es[jj], List.getElem?_eq_getElem hltj⟩
            obtain ⟨hy0, _⟩ := i2.out.ent_ok Hper.out (List.mem_of_getElem? hy)
            have ht := manyIn_take n x es hy
            have hml := manyIn_le n x (es.take jj)
            rw [List.length_take] at hml
            generalize manyIn n x (es.take jj) = cm at *
            have Ht := Lib.hid ht; clear ht
            have hcx : wr.cell? ⟨g, k * 21, none⟩ = some (.int .i64 x.line) := HR.out wr HS.out k x Hx.out 0 _ rfl
            have hcy : wr.cell? ⟨g, jj * 21, none⟩ = some (.int .i64 y.line) := HR.out wr HS.out jj y hy 0 _ rfl
            have HSd : Hid (St w wr.drew p S bs ways s2 u2 (rowsOf a es ++ [])) := Lib.hid (HS.out.idle (show Below wr.heap.size wr wr.drew from below_drewN (Below.refl _ _) 1))
            clear hy
            obtain ⟨xl, hxl⟩ : ∃ m : Nat, x.line = m := Int.eq_ofNat_of_zero_le hx0
            obtain ⟨yl, hyl⟩ : ∃ m : Nat, y.line = m := Int.eq_ofNat_of_zero_le hy0
            rw [hxl, hyl] at Ht
            rw [hxl] at hcx
            rw [hyl] at hcy
            have Hxl := Lib.hid hxl; clear hxl
            have Hyl := Lib.hid hyl; clear hyl
            have hnz : ¬ n = 0 := by omega
            by_cases hc : (yl : Int).tmod n = (xl : Int).tmod n
            all_goals
              have hc' := hc
              rw [← Int.ofNat_tmod, ← Int.ofNat_tmod, Int.natCast_emod, Int.natCast_emod] at hc'
              first | (have hb : ((yl : Int).tmod n == (xl : Int).tmod n) = true := by simpa using hc) | (have hb : ((yl : Int).tmod n == (xl : Int).tmod n) = false := by simpa using hc)
              have Hc' := Lib.hid hc'; clear hc hc'
              go_wp2
              refine wp_region_still_lit (by kernel_rfl) (by kernel_rfl) ?_
              repeat still_step
              refine wpStill_nil ?_
              clear hcx hcy hb hnz
              change Exit.then _ _ _ _ wr.drew
              generalize wr.drew = wd at *
              go_wp2
              go_roundw
              case rel => exact ⟨jj + 1, by omega, by go_num, by rw [Ht.out]; (first | rw [if_pos Hc'.out] | rw [if_neg Hc'.out]); go_num, HSd.out⟩
              case measure => simp [intOf]; omega
          · have hje : jj = es.length := by omega
            subst hje
            rw [List.take_length]
            generalize manyIn n x es = cm at *
            have HSd : Hid (St w wr.drew p S bs ways s2 u2 (rowsOf a es ++ [])) := Lib.hid (HS.out.idle (show Below wr.heap.size wr wr.drew from below_drewN (Below.refl _ _) 1))
            have hrx := HR.out wr HS.out k x Hx.out
            have hc0 : wr.cell? ⟨g, k * 21, none⟩ = some (.int .i64 x.line) := hrx 0 _ rfl
            have hc1 : wr.cell? ⟨g, k * 21 + 1, none⟩ = some (.int .i64 x.state) := hrx 1 _ rfl
            clear hrx
            have hd0 : decide (ways < cm) = false := by simp; omega
            obtain ⟨st, hst, hst2⟩ : ∃ st, x.state = st ∧ (st = 1 ∨ st = 2) := ⟨_, rfl, hxs⟩
            rw [hst] at hc1
            clear hst
            by_cases hk0 : k = 0
            · subst hk0
              rw [Nat.zero_mul] at hc0 hc1
              rcases hst2 with rfl | rfl
              · go_wp2
                refine still_region (by kernel_rfl) (by kernel_rfl) ?_
                iterate 7 (refine StillG.want (by kernel_rfl) (fun K hK => ?_); go_simp; refine hK _ ?_; clear hK K)
                iterate 12 (refine StillG.skip (by kernel_rfl) (fun K hK => ?_); go_simp; refine hK _ ?_; clear hK K)
                iterate 10 (refine StillG.want (by kernel_rfl) (fun K hK => ?_); go_simp; refine hK _ ?_; clear hK K)
                iterate 6 (refine StillG.skip (by kernel_rfl) (fun K hK => ?_); go_simp; refine hK _ ?_; clear hK K)
                iterate 2 (refine StillG.want (by kernel_rfl) (fun K hK => ?_); go_simp; refine hK _ ?_; clear hK K)
                refine StillG.nil ?_
                clear hc0 hc1 hd0
                change Exit.then _ _ _ _ wr.drew
                generalize wr.drew = wd at *
                go_wp2
                go_roundw
                case rel => exact ⟨0 + 1, by omega, by go_num, Hg.out ▸ HSd.out⟩
                case measure => simp [intOf]; omega
              · go_wp2
                refine still_region (by kernel_rfl) (by kernel_rfl) ?_
                iterate 7 (refine StillG.want (by kernel_rfl) (fun K hK => ?_); go_simp; refine hK _ ?_; clear hK K)
                iterate 12 (refine StillG.skip (by kernel_rfl) (fun K hK => ?_); go_simp; refine hK _ ?_; clear hK K)
                iterate 10 (refine StillG.want (by kernel_rfl) (fun K hK => ?_); go_simp; refine hK _ ?_; clear hK K)
                iterate 6 (refine StillG.want (by kernel_rfl) (fun K hK => ?_); go_simp; refine hK _ ?_; clear hK K)
                iterate 2 (refine StillG.want (by kernel_rfl) (fun K hK => ?_); go_simp; refine hK _ ?_; clear hK K)
                refine StillG.nil ?_
                clear hc0 hc1 hd0
                change Exit.then _ _ _ _ wr.drew
                generalize wr.drew = wd at *
                go_wp2
                go_roundw
                case rel => exact ⟨0 + 1, by omega, by go_num, Hg.out ▸ HSd.out⟩
                case measure => simp [intOf]; omega
            · obtain ⟨k', rfl⟩ : ∃ k', k = k' + 1 := ⟨k - 1, by omega⟩
              obtain ⟨y, hy⟩ : ∃ y, es[k']? = some y := ⟨es[k'], List.getElem?_eq_getElem (by omega)⟩
              have hcy : wr.cell? ⟨g, k' * 21, none⟩ = some (.int .i64 y.line) := HR.out wr HS.out k' y hy 0 _ rfl
              have hxy : y.line < x.line := by
                have h1 := List.pairwise_iff_getElem.1 Hris.out k' (k' + 1) (by omega) hlt (by omega)
                obtain ⟨h2, rfl⟩ := List.getElem?_eq_some_iff.1 hy
                obtain ⟨h3, h4⟩ := List.getElem?_eq_some_iff.1 Hx.out
                rw [← h4]; exact h1
              have hd1 : decide (x.line ≤ y.line) = false := by simp; omega
              clear hy hxy
              have j0 : (0 : Int) ≤ (k' : Int) + 1 := by omega
              have j1 : (k' : Int) + 1 < (es.length : Int) := by omega
              have j2 : (0 : Int) ≤ (k' : Int) := by omega
              have j3 : (k' : Int) < (es.length : Int) := by omega
              have j4 : ((k' : Int) + 1).toNat = k' + 1 := by omega
              have j5 : IntKind.i64.wrap (k' : Int) = (k' : Int) := IntWalk.i64_in _ (by omega)
              rcases hst2 with rfl | rfl
              · go_wp2
                refine still_region (by kernel_rfl) (by kernel_rfl) ?_
                iterate 7 (refine StillG.want (by kernel_rfl) (fun K hK => ?_); go_simp; refine hK _ ?_; clear hK K)
                iterate 12 (refine StillG.want (by kernel_rfl) (fun K hK => ?_); go_simp; refine hK _ ?_; clear hK K)
                iterate 10 (refine StillG.want (by kernel_rfl) (fun K hK => ?_); go_simp; refine hK _ ?_; clear hK K)
                iterate 6 (refine StillG.skip (by kernel_rfl) (fun K hK => ?_); go_simp; refine hK _ ?_; clear hK K)
                iterate 2 (refine StillG.want (by kernel_rfl) (fun K hK => ?_); go_simp; refine hK _ ?_; clear hK K)
                refine StillG.nil ?_
                clear hc0 hc1 hd0 hd1 hcy j0 j1 j2 j3 j4 j5
                change Exit.then _ _ _ _ wr.drew
                generalize wr.drew = wd at *
                go_wp2
                go_roundw
                case rel => exact ⟨k' + 1 + 1, by omega, by go_num, Hg.out ▸ HSd.out⟩
                case measure => simp [intOf]; omega
              · go_wp2
                refine still_region (by kernel_rfl) (by kernel_rfl) ?_
                iterate 7 (refine StillG.want (by kernel_rfl) (fun K hK => ?_); go_simp; refine hK _ ?_; clear hK K)
                iterate 12 (refine StillG.want (by kernel_rfl) (fun K hK => ?_); go_simp; refine hK _ ?_; clear hK K)
                iterate 10 (refine StillG.want (by kernel_rfl) (fun K hK => ?_); go_simp; refine hK _ ?_; clear hK K)
                iterate 6 (refine StillG.want (by kernel_rfl) (fun K hK => ?_); go_simp; refine hK _ ?_; clear hK K)
                iterate 2 (refine StillG.want (by kernel_rfl) (fun K hK => ?_); go_simp; refine hK _ ?_; clear hK K)
                refine StillG.nil ?_
                clear hc0 hc1 hd0 hd1 hcy j0 j1 j2 j3 j4 j5
                change Exit.then _ _ _ _ wr.drew
                generalize wr.drew = wd at *
                go_wp2
                go_roundw
                case rel => exact ⟨k' + 1 + 1, by omega, by go_num, Hg.out ▸ HSd.out⟩
                case measure => simp [intOf]; omega
      · have hke : k = es.length := by omega
        subst hke
        obtain ⟨was, had, f, hv⟩ := fill_view h1 i2.out hu0 x0.n 1 x0.l
        have Hv := Lib.hid hv; clear hv
        have hcell : ∀ j v, x0.cells[j]? = some v → wr.cell? ⟨q, c + j, none⟩ = some v := fun j v hj => by rw [HS.out.below.cell (p := ⟨q, c + j, none⟩) hql]; exact Hr0.out j v hj
        have d1 : wr.cell? ⟨q, c + 1, none⟩ = some (.int .i64 x0.n) := hcell 1 _ rfl
        have d5 : wr.cell? ⟨q, c + 5, none⟩ = some (.int .u64 x0.l.x0) := hcell 5 _ rfl
        have d6 : wr.cell? ⟨q, c + 5 + 1, none⟩ = some (.int .u64 x0.l.x1) := hcell 6 _ rfl
        have d7 : wr.cell? ⟨q, c + 5 + 2, none⟩ = some (.int .u64 x0.l.x2) := hcell 7 _ rfl
        have d8 : wr.cell? ⟨q, c + 5 + 3, none⟩ = some (.int .u64 x0.l.x3) := hcell 8 _ rfl
        have d9 : wr.cell? ⟨q, c + 5 + 4, none⟩ = some (.int .u64 x0.l.x4) := hcell 9 _ rfl
        have d10 : wr.cell? ⟨q, c + 5 + 5, none⟩ = some (.int .u64 x0.l.x5) := hcell 10 _ rfl
        have d11 : wr.cell? ⟨q, c + 5 + 6, none⟩ = some (.int .u64 x0.l.x6) := hcell 11 _ rfl
        have d12 : wr.cell? ⟨q, c + 5 + 7, none⟩ = some (.int .u64 x0.l.x7) := hcell 12 _ rfl
        have HK : Hid (∀ W : World, Below w.heap.size w W → (W.cell? ⟨q, c + 1, none⟩ = some (.int .i64 x0.n) ∧ W.cell? ⟨q, c + 5, none⟩ = some (.int .u64 x0.l.x0) ∧ W.cell? ⟨q, c + 5 + 1, none⟩ = some (.int .u64 x0.l.x1) ∧ W.cell? ⟨q, c + 5 + 2, none⟩ = some (.int .u64 x0.l.x2) ∧ W.cell? ⟨q, c + 5 + 3, none⟩ = some (.int .u64 x0.l.x3) ∧ W.cell? ⟨q, c + 5 + 4, none⟩ = some (.int .u64 x0.l.x4) ∧ W.cell? ⟨q, c + 5 + 5, none⟩ = some (.int .u64 x0.l.x5) ∧ W.cell? ⟨q, c + 5 + 6, none⟩ = some (.int .u64 x0.l.x6) ∧ W.cell? ⟨q, c + 5 + 7, none⟩ = some (.int .u64 x0.l.x7))) := Lib.hid (fun W hb => by
          have hc : ∀ j v, x0.cells[j]? = some v → W.cell? ⟨q, c + j, none⟩ = some v := fun j v hj => by rw [hb.cell (p := ⟨q, c + j, none⟩) hql]; exact Hr0.out j v hj
          exact ⟨hc 1 _ rfl, hc 5 _ rfl, hc 6 _ rfl, hc 7 _ rfl, hc 8 _ rfl, hc 9 _ rfl, hc 10 _ rfl, hc 11 _ rfl, hc 12 _ rfl⟩)
        clear hcell
        have HSd : Hid (St w wr.drew p S bs ways s2 u2 (rowsOf a es ++ [])) := Lib.hid (HS.out.idle (show Below wr.heap.size wr wr.drew from below_drewN (Below.refl _ _) 1))
        go_wp2
        have hnew := there_new wr Ent.zero.cells 42 21 rfl
        have hba : Below wr.heap.size wr (wr.alloc (.cells Ent.zero.cells.toArray 42)).drew := below_drewN ((Below.refl _ wr).alloc (Nat.le_refl _) _) 1
        have HSa : Hid (St w (wr.alloc (.cells Ent.zero.cells.toArray 42)).drew p S bs ways s2 u2 (rowsOf a es ++ [])) := Lib.hid (HS.out.idle hba)
        have hna : ¬ Turns p bs wr.heap.size := fun ht => by
          have hl := HS.out.cache.lt
          exact ht.elim (fun e => by omega) (fun hm => by have := hl.2.2 _ hm; omega)
        have hth : ∀ W : World, (W.alloc (.cells Ent.zero.cells.toArray 42)).there W.heap.size 0 21 := fun W => there_new W Ent.zero.cells 42 21 rfl
        have hth2 : ∀ wv : World, Tch (Turns p bs) (wr.alloc (.cells Ent.zero.cells.toArray 42)).drew wv → wv.there wr.heap.size 0 21 := fun wv hT => there_of_block hnew (hT.block _ (show wr.heap.size < (wr.alloc _).heap.size by simp) hna)
        simp only [Ent.zero, Ent.cells, L8.zero] at HSa hth hth2
        have Hth2 := Lib.hid hth2; clear hth2 hnew hna hba
        go_wp2
        go_region_held3 (fun W => W.cell? ⟨q, c + 1, none⟩ = some (.int .i64 x0.n) ∧ W.cell? ⟨q, c + 5, none⟩ = some (.int .u64 x0.l.x0) ∧ W.cell? ⟨q, c + 5 + 1, none⟩ = some (.int .u64 x0.l.x1) ∧ W.cell? ⟨q, c + 5 + 2, none⟩ = some (.int .u64 x0.l.x2) ∧ W.cell? ⟨q, c + 5 + 3, none⟩ = some (.int .u64 x0.l.x3) ∧ W.cell? ⟨q, c + 5 + 4, none⟩ = some (.int .u64 x0.l.x4) ∧ W.cell? ⟨q, c + 5 + 5, none⟩ = some (.int .u64 x0.l.x5) ∧ W.cell? ⟨q, c + 5 + 6, none⟩ = some (.int .u64 x0.l.x6) ∧ W.cell? ⟨q, c + 5 + 7, none⟩ = some (.int .u64 x0.l.x7)) (first | with_reducible exact HK.out _ HSd.out.below | with_reducible exact HK.out _ HSa.out.below | with_reducible exact HK.out _ hs.below | with_reducible exact HK.out _ (hs.below.alloc hs.size _) | with_reducible exact HK.out _ (below_setCells hs.size _ _ (hs.below.alloc hs.size _)) | with_reducible exact HK.out _ (below_setCells HS.out.size _ _ hs.below)) (first | (go_at_call 12; (with_reducible refine (fill_does HSd.out x0.n x0.l (by omega) (by omega) Hv.out).mono ?_); rintro e wv ⟨rfl, hs, hT⟩) | (go_at_call 12; (with_reducible refine (fill_does HSa.out x0.n x0.l (by omega) (by omega) Hv.out).mono ?_); rintro e wv ⟨rfl, hs, hT⟩; have hth3 := Hth2.out wv hT))
        obtain ⟨W, eW, hW, -⟩ := hs.stash was
        simp only [Ent.zero, L8.zero] at eW
        change W = (wv.alloc (.cells #[.int .i64 0, .int .i64 0, .bool false, .bool false, .int .u64 0, .int .u64 0, .int .u64 0, .int .u64 0, .int .u64 0, .int .u64 0, .int .u64 0, .int .u64 0, .int .u64 0, .int .u64 0, .int .u64 0, .int .u64 0, .int .u64 0, .int .u64 0, .int .u64 0, .int .u64 0, .int .i64 0] 42)).setCells wv.heap.size 0 was.cells at eW
        rw [← eW]
        have HW := Lib.hid hW
        have n1 : Nat := 0
        clear eW hW hT hs n1
        generalize wv.heap.size = n0 at *
        rotate_left
        have hl := HS.out.cache.lt
        have hW := hs.lay wr.heap.size HS.out.size (Nat.lt_of_lt_of_le (show wr.heap.size < (wr.alloc (.cells Ent.zero.cells.toArray 42)).drew.heap.size by show wr.heap.size < (wr.alloc _).heap.size; simp) hT.size) (fun ht => ht.elim (fun e => by omega) (fun hm => by have := hl.2.2 _ hm; omega)) (by omega) (fun x hx => by have := (HS.out.rows x hx).1; omega) hth3 was
        have HW := Lib.hid hW
        clear hth3 hW hT hs hl
        generalize wv.setCells wr.heap.size 0 was.cells = W at *
        generalize wr.heap.size = n0 at *
        all_goals
          clear d1 d5 d6 d7 d8 d9 d10 d11 d12 hth Hth2 HSa HSd HS HK
          generalize fillL s2 u2 x0.n 1 x0.l = r at *
          go_wp2
          go_loopw [17] (fun i wx => ∃ k : Nat, k ≤ es.length ∧ i = .int .i64 k ∧ St w wx p S bs ways r.1 r.2.1 ((n0, was.cells) :: (rowsOf a es ++ []))) (fun i _ => es.length - (intOf i).toNat)
          case atStart => exact ⟨0, by omega, rfl, HW.out⟩
          case round =>
            clear HW
            obtain ⟨k, hk, rfl, hs⟩ := hrel
            have HS := Lib.hid hs; clear hs
            by_cases hlt : k < es.length
            · obtain ⟨x, hx⟩ : ∃ x, es[k]? = some x := ⟨es[k], List.getElem?_eq_getElem hlt⟩
              obtain ⟨g, hg⟩ := Hga.out (fun e => by rw [e] at hlt; simp at hlt)
              have hcs := Hv.out.each x (Hper.out.mem_iff.1 (List.mem_of_getElem? hx))
              have hr := HS.out.row_at (a := a) (es := es) (fun x hx => by simp [hx]) Hqa.out hg hx
              have hcl : wr.cell? ⟨g, k * 21, none⟩ = some (.int .i64 x.line) := hr 0 _ rfl
              have HR : Hid (∀ (V : World) (G : List (Nat × List Value)), St w V p S bs ways r.1 r.2.1 (G ++ ((n0, was.cells) :: (rowsOf a es ++ []))) → V.rangeAt n0 0 was.cells ∧ V.rangeAt g (k * 21) x.cells) := Lib.hid (fun V G hV => ⟨(hV.rows (n0, was.cells) (by simp)).2.2, hV.row_at (a := a) (es := es) (fun x hx => by simp [hx]) Hqa.out hg hx⟩)
              have Hg := Lib.hid hg; clear hg hr hx
              rw [Hg.out]
              rcases hcs with ⟨rfl, rfl, hfn, hrd, hwr, rfl⟩ | ⟨hne, i', j', hfs, hge⟩
              · have hfa := find_any HS.out was.line
                rw [show findL r.1 r.2.1 was.line = (r.1, r.2.1, .tuple #[.agg Ent.zero.cells.toArray, .bool false]) from by unfold findL; rw [hfn]] at hfa
                have Hfa := Lib.hid hfa; clear hfa hfn
                have Hrd := Lib.hid hrd; clear hrd
                have Hwr := Lib.hid hwr; clear hwr
                go_wp2_with fail
                clear hcl
                refine Hfa.out.mono ?_
                rintro e wf ⟨rfl, hf⟩
                obtain ⟨W2, eW2, hW2, hn2⟩ := hf.stash Ent.zero
                have EW2 := Lib.hid eW2; clear eW2
                have Hn2 := Lib.hid hn2; clear hn2 hf Hfa
                go_wp2_with (refine wpList_store_mid rfl 42 (.tmp 18) (.tmp 145) rfl wf.heap.size 0 Ent.zero.cells.toArray rfl rfl ?_ Try.size42 (oneEnt _) ?_; exact Hn2.out; change wpList _ _ _ _ _ ((wf.alloc (.cells Ent.zero.cells.toArray 42)).setCells wf.heap.size 0 Ent.zero.cells); rw [← EW2.out])
                clear EW2 Hn2
                generalize wf.heap.size = nx at *
                have hW3 : St w W2.drew p S bs ways r.1 r.2.1 ((nx, Ent.zero.cells) :: ((n0, was.cells) :: (rowsOf a es ++ []))) := hW2.idle (show Below W2.heap.size W2 W2.drew from below_drewN (Below.refl _ _) 1)
                have q1 := Lib.hid (HR.out W2.drew [(nx, Ent.zero.cells)] hW3)
                refine still_region (by kernel_rfl) (by kernel_rfl) ?_
                iterate 2 (refine StillG.want (by kernel_rfl) (fun K hK => ?_); go_simp; refine hK _ ?_; clear hK K)
                (refine StillG.load (by kernel_rfl) 42 (.tmp 14) rfl n0 0 rfl was.cells _ q1.out.1 Try.underlying42 rfl Try.size42 (fun K hK => ?_); go_simp; refine hK _ ?_; clear hK K)
                iterate 3 (refine StillG.want (by kernel_rfl) (fun K hK => ?_); go_simp; refine hK _ ?_; clear hK K)
                (refine StillG.load (by kernel_rfl) 42 (.tmp 152) rfl g (k * 21) rfl was.cells _ q1.out.2 Try.underlying42 rfl Try.size42 (fun K hK => ?_); go_simp; refine hK _ ?_; clear hK K)
                iterate 3 (refine StillG.want (by kernel_rfl) (fun K hK => ?_); go_simp; refine hK _ ?_; clear hK K)
                refine StillG.nil ?_
                clear q1 hW2
                generalize W2.drew = W3 at *
                go_wp2
                have hW4 : St w W3.drew p S bs ways r.1 r.2.1 ((nx, Ent.zero.cells) :: ((n0, was.cells) :: (rowsOf a es ++ []))) := hW3.idle (show Below W3.heap.size W3 W3.drew from below_drewN (Below.refl _ _) 1)
                have q2 := Lib.hid (HR.out W3.drew [(nx, Ent.zero.cells)] hW4)
                have q3 := Lib.hid ((hW4.rows (nx, Ent.zero.cells) (by simp)).2.2)
                have b2 : W3.cell? ⟨nx, 2, none⟩ = some (.bool false) := q3.out 2 _ rfl
                have b3 : W3.cell? ⟨nx, 3, none⟩ = some (.bool false) := q3.out 3 _ rfl
                have b4 : W3.cell? ⟨n0, 2, none⟩ = some (.bool false) := (q2.out.1 2 _ rfl).trans (by rw [Hrd.out])
                have b5 : W3.cell? ⟨n0, 3, none⟩ = some (.bool false) := (q2.out.1 3 _ rfl).trans (by rw [Hwr.out])
                have H4 := Lib.hid hW4; clear hW4 hW3
                refine still_region (by kernel_rfl) (by kernel_rfl) ?_
                iterate 6 (refine StillG.want (by kernel_rfl) (fun K hK => ?_); go_simp; refine hK _ ?_; clear hK K)
                iterate 6 (refine StillG.skip (by kernel_rfl) (fun K hK => ?_); go_simp; refine hK _ ?_; clear hK K)
                iterate 25 (refine StillG.want (by kernel_rfl) (fun K hK => ?_); go_simp; refine hK _ ?_; clear hK K)
                refine StillG.nil ?_
                clear q2 q3 b2 b3 b4 b5
                generalize W3.drew = W4 at *
                go_wp2
                go_roundw
                case rel => exact ⟨k + 1, by omega, by go_num, ⟨H4.out.cache, H4.out.below, H4.out.size, H4.out.mine, fun y hy => H4.out.rows y (List.mem_cons_of_mem _ (Hg.out ▸ hy))⟩⟩
                case measure => simp [intOf]; omega
              · have hfa := find_any HS.out x.line
                rw [show findL r.1 r.2.1 x.line = (r.1, r.2.1, .tuple #[.agg x.cells.toArray, .bool true]) from by unfold findL; rw [hfs]; simp only [hge]] at hfa
                have Hfa := Lib.hid hfa; clear hfa hfs hge
                cases had
                · clear hne
                  go_wp2_with fail
                  clear hcl
                  refine Hfa.out.mono ?_
                  rintro e wf ⟨rfl, hf⟩
                  obtain ⟨W2, eW2, hW2, hn2⟩ := hf.stash x
                  have EW2 := Lib.hid eW2; clear eW2
                  have Hn2 := Lib.hid hn2; clear hn2 hf Hfa
                  go_wp2_with (refine wpList_store_mid rfl 42 (.tmp 18) (.tmp 145) rfl wf.heap.size 0 x.cells.toArray rfl rfl ?_ Try.size42 (oneEnt _) ?_; exact Hn2.out; change wpList _ _ _ _ _ ((wf.alloc (.cells Ent.zero.cells.toArray 42)).setCells wf.heap.size 0 x.cells); rw [← EW2.out])
                  clear EW2 Hn2
                  generalize wf.heap.size = nx at *
                  have hW3 : St w W2.drew p S bs ways r.1 r.2.1 ((nx, x.cells) :: ((n0, was.cells) :: (rowsOf a es ++ []))) := hW2.idle (show Below W2.heap.size W2 W2.drew from below_drewN (Below.refl _ _) 1)
                  have q1 := Lib.hid (HR.out W2.drew [(nx, x.cells)] hW3)
                  refine still_region (by kernel_rfl) (by kernel_rfl) ?_
                  iterate 2 (refine StillG.want (by kernel_rfl) (fun K hK => ?_); go_simp; refine hK _ ?_; clear hK K)
                  iterate 6 (refine StillG.skip (by kernel_rfl) (fun K hK => ?_); go_simp; refine hK _ ?_; clear hK K)
                  iterate 2 (refine StillG.want (by kernel_rfl) (fun K hK => ?_); go_simp; refine hK _ ?_; clear hK K)
                  refine StillG.nil ?_
                  clear q1 hW2
                  generalize W2.drew = W3 at *
                  go_wp2
                  have hW4 : St w W3.drew p S bs ways r.1 r.2.1 ((nx, x.cells) :: ((n0, was.cells) :: (rowsOf a es ++ []))) := hW3.idle (show Below W3.heap.size W3 W3.drew from below_drewN (Below.refl _ _) 1)
                  have q2 := Lib.hid (HR.out W3.drew [(nx, x.cells)] hW4)
                  have q3 := Lib.hid ((hW4.rows (nx, x.cells) (by simp)).2.2)
                  have H4 := Lib.hid hW4; clear hW4 hW3
                  refine still_region (by kernel_rfl) (by kernel_rfl) ?_
                  iterate 6 (refine StillG.want (by kernel_rfl) (fun K hK => ?_); go_simp; refine hK _ ?_; clear hK K)
                  (refine StillG.load (by kernel_rfl) 42 (.tmp 18) rfl nx 0 rfl x.cells _ q3.out Try.underlying42 rfl Try.size42 (fun K hK => ?_); go_simp; refine hK _ ?_; clear hK K)
                  iterate 3 (refine StillG.want (by kernel_rfl) (fun K hK => ?_); go_simp; refine hK _ ?_; clear hK K)
                  (refine StillG.load (by kernel_rfl) 42 (.tmp 165) rfl g (k * 21) rfl x.cells _ q2.out.2 Try.underlying42 rfl Try.size42 (fun K hK => ?_); go_simp; refine hK _ ?_; clear hK K)
                  iterate 1 (refine StillG.want (by kernel_rfl) (fun K hK => ?_); go_simp; refine hK _ ?_; clear hK K)
                  iterate 5 (refine StillG.want (by kernel_rfl) (fun K hK => ?_); go_simp; refine hK _ ?_; clear hK K)
                  iterate 18 (refine StillG.skip (by kernel_rfl) (fun K hK => ?_); go_simp; refine hK _ ?_; clear hK K)
                  iterate 2 (refine StillG.want (by kernel_rfl) (fun K hK => ?_); go_simp; refine hK _ ?_; clear hK K)
                  refine StillG.nil ?_
                  clear q2 q3
                  generalize W3.drew = W4 at *
                  go_wp2
                  go_roundw
                  case rel => exact ⟨k + 1, by omega, by go_num, ⟨H4.out.cache, H4.out.below, H4.out.size, H4.out.mine, fun y hy => H4.out.rows y (List.mem_cons_of_mem _ (Hg.out ▸ hy))⟩⟩
                  case measure => simp [intOf]; omega
                · have hne := hne rfl
                  go_wp2_with fail
                  clear hcl
                  refine Hfa.out.mono ?_
                  rintro e wf ⟨rfl, hf⟩
                  obtain ⟨W2, eW2, hW2, hn2⟩ := hf.stash x
                  have EW2 := Lib.hid eW2; clear eW2
                  have Hn2 := Lib.hid hn2; clear hn2 hf Hfa
                  go_wp2_with (refine wpList_store_mid rfl 42 (.tmp 18) (.tmp 145) rfl wf.heap.size 0 x.cells.toArray rfl rfl ?_ Try.size42 (oneEnt _) ?_; exact Hn2.out; change wpList _ _ _ _ _ ((wf.alloc (.cells Ent.zero.cells.toArray 42)).setCells wf.heap.size 0 x.cells); rw [← EW2.out])
                  clear EW2 Hn2
                  generalize wf.heap.size = nx at *
                  have hW3 : St w W2.drew p S bs ways r.1 r.2.1 ((nx, x.cells) :: ((n0, was.cells) :: (rowsOf a es ++ []))) := hW2.idle (show Below W2.heap.size W2 W2.drew from below_drewN (Below.refl _ _) 1)
                  have q1 := Lib.hid (HR.out W2.drew [(nx, x.cells)] hW3)
                  refine still_region (by kernel_rfl) (by kernel_rfl) ?_
                  iterate 2 (refine StillG.want (by kernel_rfl) (fun K hK => ?_); go_simp; refine hK _ ?_; clear hK K)
                  (refine StillG.load (by kernel_rfl) 42 (.tmp 14) rfl n0 0 rfl was.cells _ q1.out.1 Try.underlying42 rfl Try.size42 (fun K hK => ?_); go_simp; refine hK _ ?_; clear hK K)
                  iterate 3 (refine StillG.want (by kernel_rfl) (fun K hK => ?_); go_simp; refine hK _ ?_; clear hK K)
                  (refine StillG.load (by kernel_rfl) 42 (.tmp 152) rfl g (k * 21) rfl x.cells _ q1.out.2 Try.underlying42 rfl Try.size42 (fun K hK => ?_); go_simp; refine hK _ ?_; clear hK K)
                  iterate 3 (refine StillG.want (by kernel_rfl) (fun K hK => ?_); go_simp; refine hK _ ?_; clear hK K)
                  refine StillG.nil ?_
                  clear q1 hW2
                  generalize W2.drew = W3 at *
                  go_wp2
                  have hW4 : St w W3.drew p S bs ways r.1 r.2.1 ((nx, x.cells) :: ((n0, was.cells) :: (rowsOf a es ++ []))) := hW3.idle (show Below W3.heap.size W3 W3.drew from below_drewN (Below.refl _ _) 1)
                  have q2 := Lib.hid (HR.out W3.drew [(nx, x.cells)] hW4)
                  have q3 := Lib.hid ((hW4.rows (nx, x.cells) (by simp)).2.2)
                  have H4 := Lib.hid hW4; clear hW4 hW3
                  refine still_region (by kernel_rfl) (by kernel_rfl) ?_
                  iterate 6 (refine StillG.want (by kernel_rfl) (fun K hK => ?_); go_simp; refine hK _ ?_; clear hK K)
                  (refine StillG.load (by kernel_rfl) 42 (.tmp 18) rfl nx 0 rfl x.cells _ q3.out Try.underlying42 rfl Try.size42 (fun K hK => ?_); go_simp; refine hK _ ?_; clear hK K)
                  iterate 3 (refine StillG.want (by kernel_rfl) (fun K hK => ?_); go_simp; refine hK _ ?_; clear hK K)
                  (refine StillG.load (by kernel_rfl) 42 (.tmp 165) rfl g (k * 21) rfl x.cells _ q2.out.2 Try.underlying42 rfl Try.size42 (fun K hK => ?_); go_simp; refine hK _ ?_; clear hK K)
                  iterate 1 (refine StillG.want (by kernel_rfl) (fun K hK => ?_); go_simp; refine hK _ ?_; clear hK K)
                  iterate 5 (refine StillG.want (by kernel_rfl) (fun K hK => ?_); go_simp; refine hK _ ?_; clear hK K)
                  iterate 18 (refine StillG.skip (by kernel_rfl) (fun K hK => ?_); go_simp; refine hK _ ?_; clear hK K)
                  iterate 2 (refine StillG.want (by kernel_rfl) (fun K hK => ?_); go_simp; refine hK _ ?_; clear hK K)
                  refine StillG.nil ?_
                  clear q2 q3
                  generalize W3.drew = W4 at *
                  go_wp2
                  go_roundw
                  case rel => exact ⟨k + 1, by omega, by go_num, ⟨H4.out.cache, H4.out.below, H4.out.size, H4.out.mine, fun y hy => H4.out.rows y (List.mem_cons_of_mem _ (Hg.out ▸ hy))⟩⟩
                  case measure => simp [intOf]; omega
            · have hke : k = es.length := by omega
              subst hke
              go_wp2
              go_ret
              exact ⟨rfl, HS.out.below⟩

end Go.Proofs.Ytimoaiebikoojaa
