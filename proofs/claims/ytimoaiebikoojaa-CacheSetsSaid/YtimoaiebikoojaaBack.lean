/- CacheBack: the walk. Conditions: those stated in each theorem. -/
import Derived.Test.YtimoaiebikoojaaLists
import Derived.Test.YtimoaiebikoojaaBackP
namespace Go.Proofs.Ytimoaiebikoojaa
open Go.RowKit Go.BigFrame

section
variable {n ways : Nat} {s1 s : Sets} {u : Int}
theorem putBack_any (hn : 1 ≤ n) (h : Inv n ways s u) (hk : Kept s1 s) (h0 : 0 ≤ u) (a v : Int) : Inv n ways (putBack s u a v).1 (putBack s u a v).2 ∧ Kept s1 (putBack s u a v).1 ∧ u ≤ (putBack s u a v).2 ∧ (putBack s u a v).2 ≤ u + 2 := by
  by_cases ha : a < 0
  · have : putBack s u a v = (s, u) := by unfold putBack; rw [if_pos ha]
    rw [this]; exact ⟨h, hk, by simp, by simp; omega⟩
  by_cases hf : ∃ i j, Finds s ((a.toNat / 8 : Nat) : Int) = some (i, j) ∧ (getE s i j).state = 2
  · obtain ⟨i, j, hf, ht⟩ := hf
    have hp := put_held hn h hk h0 (by omega : 0 ≤ a) v hf ht
    have hi := hp.inv
    rw [← hp.uses] at hi
    exact ⟨hi, hp.kept, by rw [hp.uses]; omega, by rw [hp.uses]; omega⟩
  · have := (put_not (s := s) (u := u) a v (by omega) (fun i j h1 h2 => hf ⟨i, j, h1, h2⟩)).2
    rw [this]; exact ⟨h, hk, by simp, by simp; omega⟩
theorem putsBack_any (hn : 1 ≤ n) : ∀ (ys : List (Int × Int)) {s : Sets × Int}, Inv n ways s.1 s.2 → Kept s1 s.1 → 0 ≤ s.2 →
    Inv n ways (putsBack s ys).1 (putsBack s ys).2 ∧ Kept s1 (putsBack s ys).1 ∧ s.2 ≤ (putsBack s ys).2 ∧ (putsBack s ys).2 ≤ s.2 + 2 * ys.length
  | [], s, h, hk, _ => ⟨h, hk, by simp [putsBack], by simp [putsBack]⟩
  | y :: ys, s, h, hk, h0 => by
    obtain ⟨a1, a2, a3, a4⟩ := putBack_any hn h hk h0 y.1 y.2
    obtain ⟨b1, b2, b3, b4⟩ := putsBack_any hn ys (s := putBack s.1 s.2 y.1 y.2) a1 a2 (by omega)
    simp only [putsBack, List.foldl_cons, List.length_cons] at *
    exact ⟨b1, b2, by omega, by omega⟩
end

/-- Pairs that came in. -/
def PairsIn (w : World) (a : Option Addr) (ys : List (Int × Int)) : Prop := ∀ k y, ys[k]? = some y → ∃ q c, a = some ⟨q, c, none⟩ ∧ q < w.heap.size ∧ w.cell? ⟨q, c + k * 2, none⟩ = some (.int .i64 y.1) ∧ w.cell? ⟨q, c + k * 2 + 1, none⟩ = some (.int .u64 y.2)

/-- A box of an entry, one number of which is turned. -/
structure BoxAt (w W : World) (e' : Ent) : Prop where
  holds : Holds W w.heap.size 42 e'.cells
  below : Below w.heap.size w W
theorem box_new (w : World) (e' : Ent) : ∃ W, W = (w.alloc (.cells Ent.zero.cells.toArray 42)).setCells w.heap.size 0 e'.cells ∧ (w.alloc (.cells Ent.zero.cells.toArray 42)).there w.heap.size 0 21 ∧ BoxAt w W e' := by
  have hn := there_new w Ent.zero.cells 42 21 rfl
  have hb : Below w.heap.size w ((w.alloc (.cells Ent.zero.cells.toArray 42)).setCells w.heap.size 0 e'.cells) := below_setCells (Nat.le_refl _) _ _ ((Below.refl _ w).alloc (Nat.le_refl _) _)
  have hh := (Holds.new w 42 Ent.zero.cells).sets e'.cells 0
  have hs : splice Ent.zero.cells 0 e'.cells = e'.cells := by
    have := Ent.over Ent.zero e'
    simpa only [splices, List.foldl_cons, List.foldl_nil] using this
  rw [hs] at hh
  exact ⟨_, rfl, hn, ⟨hh, hb⟩⟩

@[go_sem ↓ high] theorem eq_ent_same (x : Ent) (w : World) : (Op.equalIn 10000 42 (.agg x.cells.toArray) (.agg x.cells.toArray)).run Try.prog w = .ok true w := by
  rw [eq_ents, show decide (x = x) = true from decide_eq_true rfl]

set_option maxRecDepth 100000 in
set_option maxHeartbeats 4000000 in
theorem back_ok (n ways : Nat) (xs : List StepV) (ys : List (Int × Int)) (al ap : Option Addr) (cl cp : Nat) (w : World) (h1 : 1 ≤ n) (h8 : n ≤ 8) (hw1 : 1 ≤ ways) (hw4 : ways ≤ 4) (hl : xs.length ≤ 400) (hp : ys.length ≤ 400)
    (hx : StepsIn w al xs) (hy : PairsIn w ap ys) (hn : ∀ x ∈ xs, x.n ≤ 9223372036854775807) (ha : ∀ y ∈ ys, y.1 ≤ 9223372036854775807) :
    Calls Try.prog 6 #[.agg #[.int .i64 n, .int .i64 ways], .slice al xs.length cl, .slice ap ys.length cp] w fun e w' => e = .returned (.bool true) ∧ Below w.heap.size w w' := by
  have HX := Lib.hid hx; clear hx
  have HY := Lib.hid hy; clear hy
  have HN := Lib.hid hn; clear hn
  have HA := Lib.hid ha; clear ha
  go_enter Try.func6, Try.ntmps6
  go_wp2_with fail
  refine (alive_ok _).mono ?_
  rintro e wa ⟨rfl, hba⟩
  have c0 : wa.cell? ⟨w.heap.size, 0, none⟩ = some (.int .i64 n) := by
    rw [hba.cell (p := ⟨w.heap.size, 0, none⟩) (by simp)]; simp
  have c1 : wa.cell? ⟨w.heap.size, 1, none⟩ = some (.int .i64 ways) := by
    rw [hba.cell (p := ⟨w.heap.size, 1, none⟩) (by simp)]; simp
  have hbw : Below w.heap.size w wa := ((Below.refl _ w).alloc (Nat.le_refl _) _).trans (hba.mono (by simp))
  have Hbw := Lib.hid hbw; clear hbw hba
  go_wp2_with fail
  clear c0 c1
  refine (new_ok n ways wa h1 h8 hw1 hw4).mono ?_
  rintro e w1 ⟨p, S, bs, rfl, hbl, h0, hb0, hp0, hS, hbs⟩
  have hsz : w.heap.size ≤ wa.heap.size := Hbw.out.size
  have H1 : Hid (St w w1 p S bs ways (newSets n ways) 0 []) := Lib.hid ⟨h0, Hbw.out.trans (hb0.mono hsz), Nat.le_trans hsz hb0.size, fun k hk => hk.elim (fun e => e ▸ Nat.le_trans hsz hp0) (fun hm => Nat.le_trans hsz (hbs k hm)), fun _ h => by cases h⟩
  have Hbl := Lib.hid hbl; clear hbl
  clear h0 hb0 hp0 hS hbs Hbw hsz
  have hi2 := Lib.hid (Inv.play (n := n) (ways := ways) h1 xs (s := (newSets n ways, 0)) (inv_new n ways) (by simp))
  have hu2 := Lib.hid (playL_uses xs (newSets n ways, 0))
  go_wp2_with fail
  refine (play_any H1.out al cl xs HX.out (by omega) (by omega) HN.out).mono ?_
  rintro e w2 ⟨rfl, h2⟩
  have H2 := Lib.hid h2; clear h2 H1 HX HN
  obtain ⟨s2, u2, hs2, hu2e⟩ : ∃ s2 u2, s2 = (playL (newSets n ways, 0) xs).1 ∧ u2 = (playL (newSets n ways, 0) xs).2 := ⟨_, _, rfl, rfl⟩
  rw [← hs2, ← hu2e] at hi2 H2
  rw [← hu2e] at hu2
  clear hs2 hu2e
  have hub : 0 ≤ u2 ∧ u2 ≤ 400 := by have := hu2.out; omega
  obtain ⟨hu0, hu4⟩ := hub
  clear hu2
  go_wp2_with fail
  refine (commit_st H2.out).mono ?_
  rintro e w3 ⟨rfl, h3⟩
  have H3 := Lib.hid h3; clear h3 H2
  have i3 := Lib.hid hi2.out.commit
  obtain ⟨s3, hs3⟩ : ∃ s3, s3 = turnAll Ent.clear s2 := ⟨_, rfl⟩
  have K3 : Hid (Kept s3 s3) := Lib.hid (fun i j => BackE.refl (by rw [hs3]; exact hi2.out.cleared i j))
  have Hs3 := Lib.hid hs3
  rw [← hs3] at i3 H3
  clear hs3
  go_wp2_with fail
  refine (all_st H3.out (Hbl.out.symm ▸ i3.out)).mono ?_
  rintro e w4 ⟨a, ca, es, rfl, hper, h32, hris, hga, hqa, h4⟩
  have H4 := Lib.hid h4; clear h4 H3
  have Hper := Lib.hid hper; clear hper
  have Hris := Lib.hid hris; clear hris
  have Hga := Lib.hid hga; clear hga
  have Hqa := Lib.hid hqa; clear hqa
  go_wp2
  go_loopw [11] (fun i wr => ∃ k : Nat, k ≤ ys.length ∧ i = .int .i64 k ∧ St w wr p S bs ways (putsBack (s3, u2) (ys.take k)).1 (putsBack (s3, u2) (ys.take k)).2 (rowsOf a es ++ [])) (fun i _ => ys.length - (intOf i).toNat)
  case atStart => exact ⟨0, by omega, rfl, H4.out⟩
  case round =>
    clear H4
    obtain ⟨k, hk, rfl, hs⟩ := hrel
    have HS := Lib.hid hs; clear hs
    obtain ⟨ik, kk, uk0, uk1⟩ := putsBack_any h1 (ys.take k) (s := (s3, u2)) i3.out K3.out hu0
    rw [List.length_take, Nat.min_eq_left hk] at uk1
    simp only at uk0 uk1
    by_cases hlt : k < ys.length
    · obtain ⟨y, hyk⟩ : ∃ y, ys[k]? = some y := ⟨ys[k], List.getElem?_eq_getElem hlt⟩
      obtain ⟨q, c, hq, hqs, hc0, hc1⟩ := HY.out k y hyk
      have hstep := Lib.hid (putsBack_take ys (s3, u2) hyk)
      have hya := HA.out y (List.mem_of_getElem? hyk)
      have Hyk := Lib.hid hyk; clear hyk
      generalize putsBack (s3, u2) (ys.take k) = sk at *
      obtain ⟨sk, uk⟩ := sk
      simp only at ik kk uk0 uk1
      have IK := Lib.hid ik; clear ik
      have KK := Lib.hid kk; clear kk
      subst hq
      have e0 : wr.cell? ⟨q, c + k * 2, none⟩ = some (.int .i64 y.1) := by rw [HS.out.below.cell (p := ⟨q, c + k * 2, none⟩) hqs]; exact hc0
      obtain ⟨av, vv⟩ := y
      simp only at hc0 hc1 e0 hya
      by_cases hneg : av < 0
      · have hst : putBack sk uk av vv = (sk, uk) := by unfold putBack; rw [if_pos hneg]
        have Hst := Lib.hid hst; clear hst hc0 hc1
        go_wp2
        go_roundw
        case rel => exact ⟨k + 1, by omega, by go_num, by rw [hstep.out]; simp only [Hst.out]; exact HS.out⟩
        case measure => simp [intOf]; omega
      · obtain ⟨m, rfl⟩ := Int.eq_ofNat_of_zero_le (show 0 ≤ av by omega)
        by_cases hf : ∃ i j, Finds sk ((m / 8 : Nat) : Int) = some (i, j) ∧ (getE sk i j).state = 2
        · obtain ⟨i, j, hf, ht⟩ := hf
          have hok := put_held (a := (m : Int)) h1 IK.out KK.out (by omega) (by omega) vv (by rw [Int.toNat_natCast]; exact hf) ht
          have hmk := mark_any HS.out ((m / 8 : Nat) : Int) true
          have o1 := hok.mark
          rw [Int.toNat_natCast] at o1
          rw [o1] at hmk
          have Hmk := Lib.hid hmk; clear hmk o1
          have Hok := Lib.hid hok; clear hok hf ht
          have Hc0 := Lib.hid hc0; clear hc0
          have Hc1 := Lib.hid hc1; clear hc1
          go_wp2_with fail
          clear e0
          rw [show ((m : Int) / 8) = ((m / 8 : Nat) : Int) from by omega]
          refine Hmk.out.mono ?_
          rintro e wv ⟨rfl, hv⟩
          have HV : Hid (St w wv.drew p S bs ways _ _ _) := Lib.hid (hv.idle (show Below wv.heap.size wv wv.drew from below_drewN (Below.refl _ _) 1)); clear Hmk
          have e0 : wv.cell? ⟨q, c + k * 2, none⟩ = some (.int .i64 m) := by rw [hv.below.cell (p := ⟨q, c + k * 2, none⟩) hqs]; exact Hc0.out
          have e1 : wv.cell? ⟨q, c + k * 2 + 1, none⟩ = some (.int .u64 vv) := by rw [hv.below.cell (p := ⟨q, c + k * 2 + 1, none⟩) hqs]; exact Hc1.out
          clear hv
          go_wp2
          go_still_tail 11, (by kernel_rfl)
          clear e0 e1
          change wpList _ _ _ _ _ wv.drew
          generalize wv.drew = wd at *
          have hpt := put_any HV.out (m : Int) vv hya (by omega) (by omega)
          rw [Hok.out.put] at hpt
          have Hpt := Lib.hid hpt; clear hpt
          go_wp2_with fail
          refine Hpt.out.mono ?_
          rintro e wp ⟨rfl, hv⟩
          have e0 : wp.cell? ⟨q, c + k * 2, none⟩ = some (.int .i64 m) := by rw [hv.below.cell (p := ⟨q, c + k * 2, none⟩) hqs]; exact Hc0.out
          have hv : St w wp p S bs ways _ (uk + 1) _ := hv
          have hwd := word_any hv (m : Int) hya (by omega) (by omega)
          rw [Hok.out.word] at hwd
          have Hwd := Lib.hid hwd; clear hwd hv HV Hpt
          go_wp2_with fail
          clear e0
          refine Hwd.out.mono ?_
          rintro e wx ⟨rfl, hv⟩
          have HV := Lib.hid hv; clear Hwd
          have e1 : wx.cell? ⟨q, c + k * 2 + 1, none⟩ = some (.int .u64 vv) := by rw [hv.below.cell (p := ⟨q, c + k * 2 + 1, none⟩) hqs]; exact Hc1.out
          clear hv
          go_wp2
          clear e1
          go_roundw
          case rel => exact ⟨k + 1, by omega, by go_num, by rw [hstep.out]; simp only [Hok.out.uses]; exact HV.out⟩
          case measure => simp [intOf]; omega
        · have hno := put_not (s := sk) (u := uk) (m : Int) vv (by omega) (fun i j h1 h2 => hf ⟨i, j, by rw [Int.toNat_natCast] at h1; exact h1, h2⟩)
          rw [Int.toNat_natCast] at hno
          have hmk := mark_any HS.out ((m / 8 : Nat) : Int) true
          rw [hno.1] at hmk
          have Hmk := Lib.hid hmk; clear hmk
          have Hno := Lib.hid hno.2; clear hno hf hc0 hc1
          go_wp2_with fail
          clear e0
          rw [show ((m : Int) / 8) = ((m / 8 : Nat) : Int) from by omega]
          refine Hmk.out.mono ?_
          rintro e wv ⟨rfl, hv⟩
          have HV := Lib.hid hv; clear hv Hmk
          go_wp2
          go_roundw
          case rel => exact ⟨k + 1, by omega, by go_num, by rw [hstep.out]; simp only [Hno.out]; exact HV.out⟩
          case measure => simp [intOf]; omega
    · have hke : k = ys.length := by omega
      subst hke
      rw [List.take_length] at ik kk uk0 uk1
      have hs := HS.out
      rw [List.take_length] at hs
      generalize putsBack (s3, u2) ys = sk at *
      obtain ⟨s5, u5⟩ := sk
      simp only at ik kk uk0 uk1 hs
      have H5 := Lib.hid hs; clear hs HS
      have hkall := Kept.all (s0 := s2) (n := n) (ways := ways) ik hi2.out (Hs3.out ▸ kk)
      rw [← Hs3.out] at hkall
      have Hkall := Lib.hid hkall; clear hkall
      have I5 := Lib.hid ik.discard; clear ik kk K3
      go_wp2_with fail
      refine (discard_st H5.out).mono ?_
      rintro e w6 ⟨rfl, h6⟩
      have H6 := Lib.hid h6; clear h6 H5
      go_wp2_with fail
      refine (all_st H6.out (Hbl.out.symm ▸ I5.out)).mono ?_
      rintro e w7 ⟨a', ca', es', rfl, hper', -, hris', hga', hqa', h7⟩
      have hsame := rise_at (rise_same Hper.out hper' Hris.out hris' (by rw [Hbl.out]; exact Hkall.out))
      have hlen := hsame.1
      rw [hlen]
      have Hat := Lib.hid hsame.2
      have hlen' := Lib.hid hlen
      have Hga' := Lib.hid hga'
      have Hqa' := Lib.hid hqa'
      have H7 := Lib.hid h7
      clear hlen hsame hper' hris' hga' hqa' h7 H6
      go_wp2
      go_loopw [16] (fun i wr => ∃ k : Nat, k ≤ es.length ∧ i = .int .i64 k ∧ St w wr p S bs ways (turnAll Ent.clear (turnAll Ent.back s5)) u5 (rowsOf a' es' ++ (rowsOf a es ++ []))) (fun i _ => es.length - (intOf i).toNat)
      case atStart => exact ⟨0, by omega, rfl, H7.out⟩
      case round =>
        clear H7
        obtain ⟨k, hk, rfl, hs⟩ := hrel
        have HS := Lib.hid hs; clear hs
        by_cases hlt : k < es.length
        · obtain ⟨x, hx⟩ : ∃ x, es[k]? = some x := ⟨es[k], List.getElem?_eq_getElem hlt⟩
          obtain ⟨x', hx'⟩ : ∃ x', es'[k]? = some x' := ⟨es'[k]'(by rw [hlen'.out]; exact hlt), List.getElem?_eq_getElem _⟩
          obtain ⟨g, hg⟩ := Hga.out (fun e => by rw [e] at hlt; simp at hlt)
          obtain ⟨g', hg'⟩ := Hga'.out (fun e => by have := hlen'.out; rw [e] at this; simp at this; omega)
          have hr := HS.out.row_at (a := a) (es := es) (fun x hx => by simp [hx]) Hqa.out hg hx
          have hr' := HS.out.row_at (a := a') (es := es') (fun x hx => by simp [hx]) Hqa'.out hg' hx'
          have hgl := HS.out.rowlt (a := a) (es := es) (fun x hx => by simp [hx]) hg
          have heq := Hat.out k x x' hx hx'
          obtain ⟨W, eW, hW, hB⟩ := box_new wr x'
          have hrW : W.rangeAt g (k * 21) x.cells := fun i v hi => by rw [hB.below.cell (p := ⟨g, k * 21 + i, none⟩) hgl]; exact hr i v hi
          have c20 : W.cell? ⟨g, k * 21 + 20, none⟩ = some (.int .i64 x.used) := hrW 20 _ rfl
          have d20 : W.cell? ⟨wr.heap.size, 20, none⟩ = some (.int .i64 x'.used) := hB.holds.cell (i := 20) rfl
          have f20 : W.frozen? ⟨wr.heap.size, 20, none⟩ = false := hB.holds.free 20
          have hB2 : Below wr.heap.size wr (W.setCell ⟨wr.heap.size, 20, none⟩ (.int .i64 x.used)) := hB.below.setCell (Nat.le_refl _) _
          have hH2 : (W.setCell ⟨wr.heap.size, 20, none⟩ (.int .i64 x.used)).rangeAt wr.heap.size 0 x.cells := fun i v hi => by
            have h2 := hB.holds.set 20 (.int .i64 x.used)
            have he : x'.cells.set 20 (.int .i64 x.used) = x.cells := by rw [← heq]; rfl
            rw [he] at h2
            rw [Nat.zero_add]; exact h2.cell hi
          have hr2 : (W.setCell ⟨wr.heap.size, 20, none⟩ (.int .i64 x.used)).rangeAt g (k * 21) x.cells := fun i v hi => by rw [hB2.cell (p := ⟨g, k * 21 + i, none⟩) hgl]; exact hr i v hi
          have EW := Lib.hid eW; clear eW
          have HW := Lib.hid hW; clear hW
          have Hr' := Lib.hid hr'; clear hr'
          have HH2 := Lib.hid hH2; clear hH2
          have Hr2 := Lib.hid hr2; clear hr2
          have HS2 := Lib.hid (HS.out.idle hB2); clear HS hB2 hB hrW hr heq hx hx'
          subst hg
          subst hg'
          go_wp2_with (first | (refine wpList_load_mid rfl 42 (.tmp 123) rfl g' (k * 21) rfl x'.cells _ ?_ Try.underlying42 rfl Try.size42 ?_; exact Hr'.out) | (refine wpList_store_mid rfl 42 (.tmp 17) (.tmp 124) rfl wr.heap.size 0 x'.cells.toArray rfl rfl ?_ Try.size42 (oneEnt _) ?_; exact HW.out; change wpList _ _ _ _ _ ((wr.alloc (.cells Ent.zero.cells.toArray 42)).setCells wr.heap.size 0 x'.cells); rw [← EW.out]))
          have HS3 : Hid (St w (W.setCell ⟨wr.heap.size, 20, none⟩ (.int .i64 x.used)).drew p S bs ways _ _ _) := Lib.hid (HS2.out.idle (show Below (W.setCell ⟨wr.heap.size, 20, none⟩ (.int .i64 x.used)).heap.size (W.setCell ⟨wr.heap.size, 20, none⟩ (.int .i64 x.used)) (W.setCell ⟨wr.heap.size, 20, none⟩ (.int .i64 x.used)).drew from below_drewN (Below.refl _ _) 1))
          clear HS2
          refine wp_region_still_lit (by kernel_rfl) (by kernel_rfl) ?_
          refine wpStill_load_mid rfl 42 (.tmp 17) rfl wr.heap.size 0 rfl x.cells _ ((World.rangeAt_drew _ _ _ _).2 HH2.out) Try.underlying42 rfl Try.size42 ?_
          still_step
          still_step
          still_step
          refine wpStill_load_mid rfl 42 (.tmp 134) rfl g (k * 21) rfl x.cells _ ((World.rangeAt_drew _ _ _ _).2 Hr2.out) Try.underlying42 rfl Try.size42 ?_
          still_step
          refine wpStill_nil ?_
          clear c20 d20 f20
          change Exit.then _ _ _ _ (W.setCell ⟨wr.heap.size, 20, none⟩ (.int .i64 x.used)).drew
          generalize (W.setCell ⟨wr.heap.size, 20, none⟩ (.int .i64 x.used)).drew = wd at *
          go_wp2
          go_roundw
          case rel => exact ⟨k + 1, by omega, by go_num, HS3.out⟩
          case measure => simp [intOf]; omega
        · have hke : k = es.length := by omega
          subst hke
          go_wp2
          go_ret
          exact ⟨rfl, HS.out.below⟩

end Go.Proofs.Ytimoaiebikoojaa
