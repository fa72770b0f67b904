/- NodeBack: the walk. Conditions: those stated in each theorem. -/
import Derived.Test.YtddajnpichchfaaNodeZ
namespace Go.Proofs.Ytddajnpichchfaa
open Go.RowKit Go.BigFrame

/-- Steps and pairs that lie there. -/
def StepsP (w : World) (a : Option Addr) (xs : List StepN) : Prop := ∀ k x, xs[k]? = some x → ∃ q c, a = some ⟨q, c, none⟩ ∧ q < w.heap.size ∧ w.rangeAt q (c + k * 15) x.cells
def PairsP (w : World) (a : Option Addr) (ys : List (Int × Int)) : Prop := ∀ k y, ys[k]? = some y → ∃ q c, a = some ⟨q, c, none⟩ ∧ q < w.heap.size ∧ w.cell? ⟨q, c + k * 2, none⟩ = some (.int .i64 y.1) ∧ w.cell? ⟨q, c + k * 2 + 1, none⟩ = some (.int .u64 y.2)

/-- Rows turned up to a place. -/
def mixL (f : Ent → Ent) (W : List Ent) (k : Nat) : List Ent := (W.take k).map f ++ W.drop k
theorem mixL_len (f : Ent → Ent) (W : List Ent) (k : Nat) : (mixL f W k).length = W.length := by simp [mixL]; omega
theorem mixL_zero (f : Ent → Ent) (W : List Ent) : mixL f W 0 = W := by simp [mixL]
theorem mixL_all (f : Ent → Ent) (W : List Ent) : mixL f W W.length = W.map f := by simp [mixL]
theorem mixL_get (f : Ent → Ent) {W : List Ent} {k : Nat} {e : Ent} (h : W[k]? = some e) : (mixL f W k)[k]? = some e := by
  have hl := (List.getElem?_eq_some_iff.1 h).1
  unfold mixL
  rw [List.getElem?_append_right (by simp; omega)]
  simp [Nat.min_eq_left (Nat.le_of_lt hl), h]
theorem mixL_succ (f : Ent → Ent) {W : List Ent} {k : Nat} {e : Ent} (h : W[k]? = some e) : mixL f W (k + 1) = (mixL f W k).set k (f e) := by
  have hl := (List.getElem?_eq_some_iff.1 h).1
  have hd : W.drop k = e :: W.drop (k + 1) := by
    rw [List.drop_eq_getElem_cons hl]
    rw [List.getElem?_eq_getElem hl] at h
    cases h; rfl
  unfold mixL
  rw [List.take_add_one, h, hd, List.set_append_right _ _ (by simp; omega)]
  simp [Nat.min_eq_left (Nat.le_of_lt hl)]
theorem SlE.len {ad : Option Addr} {l cap : Nat} {es es' : List Ent} (h : SlE (.slice ad l cap) es) (hl : es'.length = es.length) : SlE (.slice ad l cap) es' := by
  rcases h with ⟨h1, rfl⟩ | ⟨g, c, h1⟩
  · exact .inl ⟨h1, List.eq_nil_of_length_eq_zero hl⟩
  · exact .inr ⟨g, c, by rw [hl]; exact h1⟩
theorem TxI.start {k ways : Nat} {n : Nd} (h : NI k ways n) : TxI k ways n.commit.1.begin.1 n.commit.1.begin.1 ∧ n.commit.1.all = n.commit.1.begin.1.all ∧ n.commit.1.begin.1.lines = n.lines ∧ n.commit.1.begin.1.u = n.u ∧ n.commit.1.begin.1.backs = n.backs ∧ n.commit.1.lines = n.lines := by
  have hc := h.commit
  have hlive : n.commit.1.live = false := by
    unfold Nd.commit; split
    · rfl
    · rename_i hx; simpa using hx
  have hl : n.commit.1.lines = n.lines ∧ n.commit.1.u = n.u ∧ n.commit.1.backs = n.backs := by unfold Nd.commit; split <;> exact ⟨rfl, rfl, rfl⟩
  generalize n.commit.1 = m at *
  have hb : m.begin.1 = { m with live := true, code := 0 } := by unfold Nd.begin; rw [if_neg (by rw [hlive]; simp)]
  have hni := hc.begin
  rw [hb] at hni ⊢
  refine ⟨⟨hni, rfl, rfl, fun l => ⟨rfl, fun hh => ?_⟩⟩, rfl, hl.1, hl.2.1, hl.2.2, hl.1⟩
  obtain ⟨i, j, _, hG⟩ := findX_of (ss := m.ss) (l := l) (e := (findX m.ss l).1) (Prod.ext rfl hh)
  have hm := (hc.marks i j).1 hlive
  rw [hG] at hm
  exact ⟨rfl, rfl, .inr ⟨hm.2, rfl⟩⟩

theorem setSelf {l : List Ent} {k : Nat} {e : Ent} (h : l[k]? = some e) : l.set k e = l := by
  obtain ⟨hl, rfl⟩ := List.getElem?_eq_some_iff.1 h
  exact List.set_getElem_self hl
set_option maxRecDepth 100000 in
set_option maxHeartbeats 8000000 in
theorem nback_ok (lines cores : Int) (sets ways : Nat) (xs : List StepN) (ys : List (Int × Int)) (al ap : Option Addr) (cl cp : Nat) (code : Int) (cm : Bool) (w : World) (h2 : 0 < cores) (h3 : cores ≤ 4) (h4 : 2 ≤ lines) (h5 : lines ≤ 64) (s1 : 1 ≤ sets) (s8 : sets ≤ 8) (w1 : 1 ≤ ways) (w4 : ways ≤ 4) (hl : xs.length ≤ 300) (hp : ys.length ≤ 200)
    (hx : StepsP w al xs) (hy : PairsP w ap ys) (hn : ∀ x ∈ xs, x.n ≤ 9223372036854775807) (ha : ∀ y ∈ ys, y.1 ≤ 9223372036854775807) :
    Calls Try.prog 6 #[.agg #[.int .i64 lines, .int .i64 cores, .int .i64 sets, .int .i64 ways], .slice al xs.length cl, .agg #[.slice ap ys.length cp, .int .i64 code, .bool cm]] w fun e w' => e = .returned (.bool true) ∧ Below w.heap.size w w' := by
  have HX := Lib.hid hx; clear hx
  have HY := Lib.hid hy; clear hy
  have HN := Lib.hid hn; clear hn
  have HA := Lib.hid ha; clear ha
  obtain ⟨L, rfl⟩ := Int.eq_ofNat_of_zero_le (show 0 ≤ lines by omega)
  have HNew := Lib.hid (fun W => nnew_ok 0 L cores sets ways W (by omega) h2 h3 h4 h5 s1 s8 w1 w4)
  have HNI := Lib.hid (ni_new 0 L sets ways s1)
  have hL64 : L ≤ 64 := by omega
  clear h2 h3 h4 h5 s1 s8 w1 w4
  go_enter Try.func6, Try.ntmps6
  go_wp2_with fail
  generalize hW0 : ((w.alloc (.cells #[.int .i64 L, .int .i64 cores, .int .i64 sets, .int .i64 ways] 66)).alloc (.cells #[.slice ap ys.length cp, .int .i64 code, .bool cm] 81)) = W0
  have hbW : Below w.heap.size w W0 := by rw [← hW0]; exact ((Below.refl _ w).alloc (Nat.le_refl _) _).alloc (by simp) _
  have hsz : W0.heap.size = w.heap.size + 2 := by rw [← hW0]; simp
  have C0 : W0.cell? ⟨w.heap.size, 0, none⟩ = some (.int .i64 L) := by rw [← hW0]; simp
  have C1 : W0.cell? ⟨w.heap.size, 1, none⟩ = some (.int .i64 cores) := by rw [← hW0]; simp
  have C2 : W0.cell? ⟨w.heap.size, 2, none⟩ = some (.int .i64 sets) := by rw [← hW0]; simp
  have C3 : W0.cell? ⟨w.heap.size, 3, none⟩ = some (.int .i64 ways) := by rw [← hW0]; simp
  have HD : Hid (∀ W : World, Below W0.heap.size W0 W → W.cell? ⟨w.heap.size + 1, 0, none⟩ = some (.slice ap ys.length cp) ∧ W.cell? ⟨w.heap.size + 1, 1, none⟩ = some (.int .i64 code) ∧ W.cell? ⟨w.heap.size + 1, 2, none⟩ = some (.bool cm)) := Lib.hid (fun W hW => by
    rw [hW.cell (p := ⟨w.heap.size + 1, 0, none⟩) (by rw [hsz]; simp), hW.cell (p := ⟨w.heap.size + 1, 1, none⟩) (by rw [hsz]; simp), hW.cell (p := ⟨w.heap.size + 1, 2, none⟩) (by rw [hsz]; simp), ← hW0]
    simp)
  clear hW0
  have HbW := Lib.hid hbW; clear hbW
  refine (nalive_ok _).mono ?_
  rintro e wa ⟨rfl, hba⟩
  have c0 : wa.cell? ⟨w.heap.size, 0, none⟩ = some (.int .i64 L) := by rw [hba.cell (p := ⟨w.heap.size, 0, none⟩) (by rw [hsz]; simp)]; exact C0
  have c1 : wa.cell? ⟨w.heap.size, 1, none⟩ = some (.int .i64 cores) := by rw [hba.cell (p := ⟨w.heap.size, 1, none⟩) (by rw [hsz]; simp)]; exact C1
  have c2 : wa.cell? ⟨w.heap.size, 2, none⟩ = some (.int .i64 sets) := by rw [hba.cell (p := ⟨w.heap.size, 2, none⟩) (by rw [hsz]; simp)]; exact C2
  have c3 : wa.cell? ⟨w.heap.size, 3, none⟩ = some (.int .i64 ways) := by rw [hba.cell (p := ⟨w.heap.size, 3, none⟩) (by rw [hsz]; simp)]; exact C3
  clear C0 C1 C2 C3
  have Hba := Lib.hid hba; clear hba
  go_wp2_with fail
  refine (HNew.out wa).mono ?_
  rintro e wb ⟨a, p, S, bs, rfl, hbl, hs⟩
  clear c0 c1 c2 c3
  have H1 : Hid (NSt W0 wb a p S bs ways (Nd.new 0 L (newSets sets ways)) []) := Lib.hid (hs.rebase Hba.out)
  clear hs hbl HNew Hba
  generalize hnd : Nd.new 0 (L : Int) (newSets sets ways) = nd at *
  have hnl : nd.lines = L := by rw [← hnd]; rfl
  have hnu : nd.u = 0 := by rw [← hnd]; rfl
  have hnb : nd.backs.length = 0 := by rw [← hnd]; rfl
  have Hnl := Lib.hid hnl; clear hnl
  have Hnu := Lib.hid hnu; clear hnu
  have Hnb := Lib.hid hnb; clear hnb hnd
  have d0 := (HD.out wb H1.out.below).1
  go_wp2
  clear d0
  go_loopw [10] (fun i wr => ∃ k : Nat, k ≤ xs.length ∧ i = .int .i64 k ∧ NSt W0 wr a p S bs ways (nd.play (xs.take k)) []) (fun i _ => xs.length - (intOf i).toNat)
  case atStart => exact ⟨0, by omega, rfl, H1.out⟩
  case round =>
    obtain ⟨k, hk, rfl, hs⟩ := hrel
    have HS := Lib.hid hs; clear hs H1
    by_cases hlt : k < xs.length
    · obtain ⟨x, hxk⟩ : ∃ x, xs[k]? = some x := ⟨xs[k], List.getElem?_eq_getElem hlt⟩
      have hgr := gr_play (xs.take k) nd
      have hni := ni_play (xs.take k) HNI.out
      have hpt := play_take xs nd hxk
      generalize nd.play (xs.take k) = n0 at *
      have hn0u : n0.u ≤ 600 := by have := hgr.u; rw [Hnu.out, List.length_take] at this; omega
      have hn0b : n0.backs.length ≤ 300 := by have := hgr.backs; rw [Hnb.out, List.length_take] at this; omega
      have hn0p : 0 ≤ n0.u := hni.u0
      have hxn := HN.out x (List.mem_of_getElem? hxk)
      have Hpt := Lib.hid hpt; clear hpt
      obtain ⟨q, c, hq, hql, hr⟩ := HX.out k x hxk
      subst hq
      have hr' : wr.rangeAt q (c + k * 15) x.cells := fun i v hi => by
        rw [World.cell?_of_block (a := ⟨q, c + k * 15 + i, none⟩) (HS.out.below.block q (by rw [hsz]; omega)), World.cell?_of_block (a := ⟨q, c + k * 15 + i, none⟩) (HbW.out.block q hql)]
        exact hr i v hi
      have Hr := Lib.hid hr'; clear hr' hr
      have HPl := Lib.hid (play_st HS.out x hxn hn0p (by omega) (by omega))
      clear hgr hni hxk
      go_wp2_with (refine wpList_load_mid rfl 76 (.tmp 59) rfl q (c + k * 15) rfl x.cells _ ?_ Try.underlying76 rfl Try.size76 ?_; exact Hr.out)
      refine HPl.out.mono ?_
      rintro e wd ⟨vo, rfl, hso, hs⟩
      have HSx := Lib.hid (hs.drop [] (fun y hy => by cases hy)); clear hs hso HPl Hr
      go_wp2
      go_round
      case rel => exact ⟨k + 1, by omega, by go_num, by rw [Hpt.out]; exact HSx.out⟩
      case measure => simp [intOf]; omega
    · obtain rfl : k = xs.length := by omega
      have hgr := gr_play xs nd
      have hni := ni_play xs HNI.out
      rw [List.take_length] at HS
      generalize nd.play xs = n0 at *
      obtain ⟨hT, hal, hl1, hu1, hb1, hlC⟩ := TxI.start hni
      have hn0l : n0.lines = L := hgr.lines.trans Hnl.out
      have hn1u : n0.commit.1.begin.1.u ≤ 600 := by rw [hu1]; have := hgr.u; rw [Hnu.out] at this; omega
      have hn1b : n0.commit.1.begin.1.backs.length ≤ 300 := by rw [hb1]; have := hgr.backs; rw [Hnb.out] at this; omega
      have HT := Lib.hid hT; clear hT
      have hn1l : n0.commit.1.begin.1.lines = L := hl1.trans hn0l
      have hlC' : n0.commit.1.lines = L := hlC.trans hn0l
      have Hal := Lib.hid hal; clear hal
      clear hgr hni hl1 hu1 hb1 hlC hn0l HX HN Hnl Hnu Hnb HNI
      have HC := Lib.hid (ncommit_st HS.out); clear HS
      go_wp2_with fail
      refine HC.out.mono ?_
      rintro e wc ⟨rfl, hs⟩
      clear HC
      have HS1 := Lib.hid hs
      have HA1 := Lib.hid (alls_fresh hs L hlC' hL64); clear hs
      go_wp2_with fail
      refine HA1.out.mono ?_
      rintro e wd ⟨vw, rfl, hsw, hfw, -, hs⟩
      have hbd : W0.heap.size ≤ wc.heap.size := HS1.out.below.size
      clear HA1 HS1
      have HB := Lib.hid (begin_st hs)
      clear hs
      go_wp2_with fail
      refine HB.out.mono ?_
      rintro e we ⟨rfl, hs⟩
      clear HB
      rw [Hal.out] at hsw hfw hs
      generalize n0.commit.1.begin.1 = n1 at *
      clear Hal hlC'
      have HA2 := Lib.hid (alls_fresh hs L hn1l hL64)
      have hrw := fun x hx => (hs.rows x (List.mem_append_left _ hx)).1
      have hbe := hs.below.size
      clear hs
      go_wp2_with fail
      refine HA2.out.mono ?_
      rintro e wf ⟨vn, rfl, hsn, hfn, hzn, hs⟩
      clear HA2
      have HS2 := Lib.hid hs; clear hs
      obtain ⟨gn, capn, rfl, -⟩ := HS2.out.rowE hsn (fun y hy => List.mem_append_left _ hy)
      obtain ⟨gw, capw, rfl, -⟩ := HS2.out.rowE hsw (fun y hy => List.mem_append_right _ (List.mem_append_left _ hy))
      have hF : ∀ g, gn = some ⟨g, 0, none⟩ → W0.heap.size ≤ g ∧ g ≠ S ∧ ∀ x ∈ rowsE (.slice gw n1.all.length capw) n1.all ++ [], x.1 ≠ g := fun g hg => by
        subst hg
        have h1 := hfn (g, n1.all.flatMap Ent.cells) (by simp [rowsE])
        simp only at h1
        refine ⟨by omega, h1.2, fun x hx => ?_⟩
        rw [List.append_nil] at hx
        have := hrw x hx
        omega
      have HF := Lib.hid hF
      have HZ0 : Hid (FZ wf gn (n1.all.length * 21)) := Lib.hid (fun g hg i hi => by
        subst hg
        exact hzn (g, n1.all.flatMap Ent.cells) (by simp [rowsE]) i hi)
      clear hzn
      have HSn := Lib.hid hsn
      have HSw := Lib.hid hsw
      clear hF hsn hsw hfn hfw hrw hbe hbd
      go_wp2
      go_loopw [13] (fun i wr => ∃ j : Nat, j ≤ ys.length ∧ i = .int .i64 j ∧ NSt W0 wr a p S bs ways (n1.puts (ys.take j)) (rowsE (.slice gn n1.all.length capn) (wantL n1.all (n1.puts (ys.take j)).ss) ++ (rowsE (.slice gw n1.all.length capw) n1.all ++ [])) ∧ FZ wr gn (n1.all.length * 21)) (fun i _ => ys.length - (intOf i).toNat)
      case atStart => exact ⟨0, by omega, rfl, by rw [show n1.puts (ys.take 0) = n1 from rfl, wantL_start HT.out.ni]; exact HS2.out, HZ0.out⟩
      case round =>
        obtain ⟨j, hj, rfl, hs, hz⟩ := hrel
        have HS := Lib.hid hs; clear hs HS2 HZ0
        have HZ1 := Lib.hid hz; clear hz
        have d0 := (HD.out wr HS.out.below).1
        by_cases hlt : j < ys.length
        · obtain ⟨y, hyk⟩ : ∃ y, ys[j]? = some y := ⟨ys[j], List.getElem?_eq_getElem hlt⟩
          have hti := TxI.puts (ys.take j) HT.out
          have hgr := gr_puts (ys.take j) n1
          have hpt := puts_take ys n1 hyk
          have hya := HA.out y (List.mem_of_getElem? hyk)
          obtain ⟨q, c, hq, hql, hc0, hc1⟩ := HY.out j y hyk
          subst hq
          obtain ⟨ya, yv⟩ := y
          generalize n1.puts (ys.take j) = n at *
          have hnu : n.u ≤ 1400 := by have := hgr.u; rw [List.length_take] at this; omega
          have hnb : n.backs.length ≤ 700 := by have := hgr.backs; rw [List.length_take] at this; omega
          have hn0 : 0 ≤ n.u := hti.ni.u0
          simp only at hc0 hc1 hya hpt
          have HE : Hid (∀ W : World, Below W0.heap.size W0 W → W.cell? ⟨q, c + j * 2, none⟩ = some (.int .i64 ya) ∧ W.cell? ⟨q, c + j * 2 + 1, none⟩ = some (.int .u64 yv)) := Lib.hid (fun W hW => by
            rw [hW.cell (p := ⟨q, c + j * 2, none⟩) (by rw [hsz]; show q < _; omega), hW.cell (p := ⟨q, c + j * 2 + 1, none⟩) (by rw [hsz]; show q < _; omega), HbW.out.cell (p := ⟨q, c + j * 2, none⟩) hql, HbW.out.cell (p := ⟨q, c + j * 2 + 1, none⟩) hql]
            exact ⟨hc0, hc1⟩)
          obtain ⟨e0, e1⟩ := HE.out wr HS.out.below
          have HS3 := Lib.hid (store_stF HS.out ya yv hya hn0 (by omega) (by omega))
          have Hti := Lib.hid hti; clear hti
          have Hpt := Lib.hid hpt; clear hpt hgr hyk hc0 hc1
          have hgs := gr_step n ⟨1, ya, yv, 0, MsgV.zero⟩
          have hsu : (n.store ya yv).1.u ≤ 1402 := by have := hgs.u; exact Int.le_trans this (by omega)
          have hsb : (n.store ya yv).1.backs.length ≤ 701 := Nat.le_trans hgs.backs (by omega)
          have hs0 : 0 ≤ (n.store ya yv).1.u := (Hti.out.ni.store ya yv).u0
          clear hgs
          go_wp2_with fail
          clear d0 e0 e1
          refine HS3.out.mono ?_
          rintro e wg ⟨vo, rfl, hs, hh⟩
          have HSg := Lib.hid hs
          have HZg := Lib.hid (HZ1.out.heap hh); clear hs HS3 HS HZ1 hh
          have hwp := wantL_put Hti.out.ni Hti.out.live n1.all ya yv
          obtain ⟨bd, hbd⟩ : ∃ b, b = (n.store ya yv).2.1 := ⟨_, rfl⟩
          rw [← hbd] at hwp ⊢
          have Hbd := Lib.hid hbd; clear hbd
          go_wp2
          cases bd
          · have hw : wantL n1.all (n.put ya yv).ss = wantL n1.all n.ss := by
              rw [hwp]
              conv => rhs; rw [← List.map_id (wantL n1.all n.ss)]
              exact List.map_congr_left (fun e _ => by simp)
            have Hw := Lib.hid hw; clear hw hwp Hbd
            have HLd := Lib.hid (load_stF HSg.out ya hya hs0 (by omega) (by omega))
            by_cases h0 : 0 < n1.all.length
            · refine wp_loop_rounds 1 ?_
              rw [rounds_succ]
              go_wp2_with fail
              refine HLd.out.mono ?_
              rintro e wh ⟨vo2, rfl, hs, hh⟩
              have HSh := Lib.hid hs
              have HZh := Lib.hid (HZg.out.heap hh); clear hs HLd HSg HZg hh
              go_wp2
              go_round
              case rel => exact ⟨j + 1, by omega, by go_num, by rw [Hpt.out, Hw.out]; exact HSh.out, HZh.out⟩
              case measure => simp [intOf]; omega
            · refine wp_loop_rounds 1 ?_
              rw [rounds_succ]
              go_wp2_with fail
              refine HLd.out.mono ?_
              rintro e wh ⟨vo2, rfl, hs, hh⟩
              have HSh := Lib.hid hs
              have HZh := Lib.hid (HZg.out.heap hh); clear hs HLd HSg HZg hh
              go_wp2
              go_round
              case rel => exact ⟨j + 1, by omega, by go_num, by rw [Hpt.out, Hw.out]; exact HSh.out, HZh.out⟩
              case measure => simp [intOf]; omega
          · obtain ⟨ha0, -, -⟩ := store_done Hti.out.ni Hti.out.live Hbd.out.symm
            have hpw := put_word Hti.out.ni Hti.out.live (a := ya) (v := yv) Hbd.out.symm
            obtain ⟨f, hw, hf1, hf2⟩ : ∃ f : Ent → Ent, wantL n1.all (n.put ya yv).ss = (wantL n1.all n.ss).map f ∧ (∀ e : Ent, e.line = ya / 8 → f e = { e with data := e.data.set (ya.toNat % 8) yv }) ∧ ∀ e : Ent, ¬ e.line = ya / 8 → f e = e := ⟨_, hwp, fun e h => by simp [h], fun e h => by simp [h]⟩
            clear hwp Hbd
            obtain ⟨m, rfl⟩ := Int.eq_ofNat_of_zero_le ha0
            rw [Int.toNat_natCast] at hf1
            have hwl := wantL_len n1.all n.ss
            generalize wantL n1.all n.ss = Wl at *
            have Hw := Lib.hid hw; clear hw
            have Hf1 := Lib.hid hf1; clear hf1
            have Hf2 := Lib.hid hf2; clear hf2
            have Hpw := Lib.hid hpw; clear hpw ha0
            go_loopw [18] (fun i wr => ∃ kk : Nat, kk ≤ n1.all.length ∧ i = .int .i64 kk ∧ NSt W0 wr a p S bs ways (n.store m yv).1 (rowsE (.slice gn n1.all.length capn) (mixL f Wl kk) ++ (rowsE (.slice gw n1.all.length capw) n1.all ++ [])) ∧ FZ wr gn (n1.all.length * 21)) (fun i _ => n1.all.length - (intOf i).toNat)
            case atStart => exact ⟨0, by omega, rfl, by rw [mixL_zero]; exact HSg.out, HZg.out⟩
            case round =>
              obtain ⟨kk, hkk, rfl, hs, hz⟩ := hrel
              have HS4 := Lib.hid hs; clear hs HSg HZg
              have HZ4 := Lib.hid hz; clear hz
              have hL1 : n1.all.length ≤ 64 := by have := all_len n1; rw [hn1l] at this; omega
              by_cases hkt : kk < n1.all.length
              · obtain ⟨e, he⟩ : ∃ e, Wl[kk]? = some e := ⟨Wl[kk]'(by omega), List.getElem?_eq_getElem _⟩
                obtain ⟨g, hgn, hc⟩ := (HS4.out.rowEs (HSn.out.len (by rw [mixL_len]; exact hwl)) (fun y hy => List.mem_append_left _ hy)) kk e (mixL_get f he)
                have hfg := HF.out g hgn
                subst hgn
                have c0 : wr.cell? ⟨g, kk * 21, none⟩ = some (.int .i64 e.line) := hc 0 _ (by omega) rfl
                have hsucc := mixL_succ f he
                have d0 := (HD.out wr HS4.out.below).1
                obtain ⟨e0, e1⟩ := HE.out wr HS4.out.below
                by_cases hln : e.line = (m : Int) / 8
                · have hput := NSt.putRow (w := wr.drew) (HS4.out.drewN 1) hfg.1 hfg.2.1 hfg.2.2 (mixL_get f he) (r := m % 8) (Nat.mod_lt _ (by omega)) yv
                  rw [← Hf1.out e hln, ← hsucc] at hput
                  obtain ⟨ov, hov⟩ : ∃ v, e.cells[4 + m % 8]? = some v := ⟨e.cells[4 + m % 8]'(by rw [Ent.len]; omega), List.getElem?_eq_getElem _⟩
                  have cW : wr.cell? ⟨g, kk * 21 + 4 + m % 8, none⟩ = some ov := by rw [Nat.add_assoc]; exact hc (4 + m % 8) ov (by omega) hov
                  have HcW : Hid (wr.drew.cell? ⟨g, kk * 21 + 4 + m % 8, none⟩ = some ov) := Lib.hid cW
                  have hm8 : m % 8 < 8 := Nat.mod_lt _ (by omega)
                  have HcF : Hid (wr.drew.frozen? ⟨g, kk * 21 + 4 + m % 8, none⟩ = false) := Lib.hid (HZ4.out.drewN 1 g rfl _ (by omega))
                  have HZk : Hid (FZ (wr.drew.setCell ⟨g, kk * 21 + 4 + m % 8, none⟩ (.int .u64 yv)) (some ⟨g, 0, none⟩) (n1.all.length * 21)) := Lib.hid ((HZ4.out.drewN 1).setCell _ _)
                  clear HZ4
                  have Hput := Lib.hid hput; clear hput hov hc hsucc hfg he cW HS4
                  rw [hln] at c0
                  clear hln
                  go_wp2
                  go_still_tail 13, (by kernel_rfl)
                  refine wpStill_step (fun K hK => ?_)
                  go_simp
                  rw [show ((m : Int)).tmod 8 = ((m % 8 : Nat) : Int) from rfl, if_pos (by omega)]
                  simp only [Int.toNat_natCast, true_and]
                  refine hK _ ?_
                  clear hK K
                  refine wpStill_nil ?_
                  change wpList _ _ _ _ _ wr.drew
                  clear c0 d0 e0 e1
                  generalize wr.drew = wd at *
                  have cW := HcW.out
                  have cF := HcF.out
                  go_wp2
                  go_round
                  case rel => exact ⟨kk + 1, by omega, by go_num, Hput.out, HZk.out⟩
                  case measure => simp [intOf]; omega
                · have h1 : (e.line == (m : Int) / 8) = false := by simpa using hln
                  have HSk : Hid (NSt W0 wr a p S bs ways (n.store m yv).1 (rowsE (.slice (some ⟨g, 0, none⟩) n1.all.length capn) (mixL f Wl (kk + 1)) ++ (rowsE (.slice gw n1.all.length capw) n1.all ++ []))) := Lib.hid (by
                    rw [hsucc, Hf2.out e hln]
                    have : (mixL f Wl kk).set kk e = mixL f Wl kk := setSelf (mixL_get f he)
                    rw [this]; exact HS4.out)
                  clear hln hc hsucc hfg he HS4
                  go_wp2
                  go_round
                  case rel => exact ⟨kk + 1, by omega, by go_num, HSk.out, HZ4.out⟩
                  case measure => simp [intOf]; omega
              · obtain rfl : kk = n1.all.length := by omega
                have HSl : Hid (NSt W0 wr a p S bs ways (n.store m yv).1 (rowsE (.slice gn n1.all.length capn) (wantL n1.all (n.put m yv).ss) ++ (rowsE (.slice gw n1.all.length capw) n1.all ++ []))) := Lib.hid (by rw [Hw.out, ← mixL_all, hwl]; exact HS4.out)
                clear HS4
                have HLd := Lib.hid (load_stF HSl.out m hya hs0 (by omega) (by omega))
                rw [Hpw.out.1, Hpw.out.2] at HLd
                go_wp2_with fail
                refine HLd.out.mono ?_
                rintro e wh ⟨vo2, rfl, hs, hh⟩
                have HSh := Lib.hid hs
                have HZh := Lib.hid (HZ4.out.heap hh); clear hs HLd HSl HZ4 hh
                have d0 := (HD.out wh HSh.out.below).1
                obtain ⟨e0, e1⟩ := HE.out wh HSh.out.below
                go_wp2
                go_round
                case rel => exact ⟨j + 1, by omega, by go_num, by rw [Hpt.out]; exact HSh.out, HZh.out⟩
                case measure => simp [intOf]; omega
        · obtain rfl : j = ys.length := by omega
          have hL1 : n1.all.length ≤ 64 := by have := all_len n1; rw [hn1l] at this; omega
          have hti := TxI.puts ys HT.out
          rw [List.take_length] at HS
          generalize n1.puts ys = n2 at *
          obtain ⟨-, d1, d2⟩ := HD.out wr HS.out.below
          have HAb := Lib.hid (nabort_st HS.out code)
          have hn2l : n2.lines = L := hti.lines.trans hn1l
          go_wp2_with fail
          clear d0 d1 d2
          refine HAb.out.mono ?_
          rintro e wg ⟨rfl, hs⟩
          clear HAb HS
          by_cases hcd : code < 1 ∨ 7 < code
          · have hab : n2.abortC code = (n2, 2) := by unfold Nd.abortC; rw [if_pos hti.live, if_pos hcd]
            rw [hab] at hs ⊢
            have HCm := Lib.hid (ncommit_st hs)
            have d2 := (HD.out wg hs.below).2.2
            have hcm : n2.commit.1 = { n2 with live := false, ss := turnAll Ent.clear n2.ss } := by unfold Nd.commit; rw [if_pos hti.live]
            have h3l : n2.commit.1.live = false := by rw [hcm]
            have h3n : n2.commit.1.lines = L := by rw [hcm]; exact hn2l
            have hrel : n2.commit.1.all.length = n1.all.length ∧ ∀ (i : Nat) e e', (wantL n1.all n2.ss)[i]? = some e → n2.commit.1.all[i]? = some e' → FinR e e' := by
              have hc := clear_fin hti.back hti.ni.inv HT.out.ni.inv hti.ni.k1
              have := all_rel (n := n1) (n' := n2.commit.1) (by rw [hcm]; exact hti.lines) (by rw [hcm]; exact hc)
              refine ⟨this.1, fun i e e' h1 h2 => ?_⟩
              unfold wantL at h1
              rw [List.getElem?_map, Option.map_eq_some_iff] at h1
              obtain ⟨e0, h0, rfl⟩ := h1
              exact this.2 i e0 e' h0 h2
            clear hcd hab hs hcm hti hn2l
            go_wp2_with fail
            clear d2
            refine HCm.out.mono ?_
            rintro e wh ⟨rfl, hs⟩
            clear HCm
            generalize n2.commit.1 = n3 at *
            have hln3 : n3.all.length = n1.all.length := hrel.1
            have hrl := hrel.2
            have HR := Lib.hid hrl; clear hrl hrel
            have HLv0 := hs
            have HA5 := Lib.hid (alls_st hs L h3n hL64); clear hs HLv0
            go_wp2_with fail
            refine HA5.out.mono ?_
            rintro e wi ⟨vq, rfl, hsq, hs⟩
            clear HA5
            obtain ⟨gq, capq, rfl, -⟩ := hs.rowE hsq (fun y hy => List.mem_append_left _ hy)
            have HSq := Lib.hid hsq; clear hsq
            have HS6 := Lib.hid hs; clear hs
            have HLv := Lib.hid (live_st HS6.out)
            rw [h3l] at HLv
            go_wp2_with fail
            refine HLv.out.mono ?_
            rintro e w' ⟨rfl, rfl⟩
            clear HLv
            go_wp2
            go_loopw [25] (fun i wr => ∃ k : Nat, k ≤ n1.all.length ∧ i = .int .i64 k ∧ NSt W0 wr a p S bs ways n3 (rowsE (.slice gq n3.all.length capq) n3.all ++ (rowsE (.slice gn n1.all.length capn) (wantL n1.all n2.ss) ++ (rowsE (.slice gw n1.all.length capw) n1.all ++ [])))) (fun i _ => n1.all.length - (intOf i).toNat)
            case atStart => exact ⟨0, by omega, rfl, HS6.out⟩
            case round =>
              obtain ⟨k, hk, rfl, hs⟩ := hrel
              have HS7 := Lib.hid hs; clear hs HS6
              by_cases hkt : k < n1.all.length
              · obtain ⟨e', he'⟩ : ∃ e, n3.all[k]? = some e := ⟨n3.all[k]'(by omega), List.getElem?_eq_getElem _⟩
                obtain ⟨e, he⟩ : ∃ e, (wantL n1.all n2.ss)[k]? = some e := ⟨(wantL n1.all n2.ss)[k]'(by rw [wantL_len]; omega), List.getElem?_eq_getElem _⟩
                obtain ⟨r1, r2, r3, r4, r5⟩ := HR.out k e e' he he'
                obtain ⟨g, hg, hc⟩ := (HS7.out.rowEs HSq.out (fun y hy => List.mem_append_left _ hy)) k e' he'
                obtain ⟨g2, hg2, hd⟩ := (HS7.out.rowEs (HSn.out.len (wantL_len _ _)) (fun y hy => List.mem_append_right _ (List.mem_append_left _ hy))) k e he
                subst hg
                subst hg2
                have a0 : wr.cell? ⟨g, k * 21, none⟩ = some (.int .i64 e.line) := by rw [← r1]; exact hc 0 _ (by omega) rfl
                have a1 : wr.cell? ⟨g, k * 21 + 1, none⟩ = some (.int .i64 e.state) := by rw [← r3]; exact hc 1 _ (by omega) rfl
                have a2 : wr.cell? ⟨g, k * 21 + 2, none⟩ = some (.bool false) := by rw [← r4]; exact hc 2 _ (by omega) rfl
                have a3 : wr.cell? ⟨g, k * 21 + 3, none⟩ = some (.bool false) := by rw [← r5]; exact hc 3 _ (by omega) rfl
                have a4 : wr.cell? ⟨g, k * 21 + 4, none⟩ = some (.int .u64 e.data.x0) := by rw [← r2]; exact hc 4 _ (by omega) rfl
                have a5 : wr.cell? ⟨g, k * 21 + 4 + 1, none⟩ = some (.int .u64 e.data.x1) := by rw [← r2]; exact hc 5 _ (by omega) rfl
                have a6 : wr.cell? ⟨g, k * 21 + 4 + 2, none⟩ = some (.int .u64 e.data.x2) := by rw [← r2]; exact hc 6 _ (by omega) rfl
                have a7 : wr.cell? ⟨g, k * 21 + 4 + 3, none⟩ = some (.int .u64 e.data.x3) := by rw [← r2]; exact hc 7 _ (by omega) rfl
                have a8 : wr.cell? ⟨g, k * 21 + 4 + 4, none⟩ = some (.int .u64 e.data.x4) := by rw [← r2]; exact hc 8 _ (by omega) rfl
                have a9 : wr.cell? ⟨g, k * 21 + 4 + 5, none⟩ = some (.int .u64 e.data.x5) := by rw [← r2]; exact hc 9 _ (by omega) rfl
                have a10 : wr.cell? ⟨g, k * 21 + 4 + 6, none⟩ = some (.int .u64 e.data.x6) := by rw [← r2]; exact hc 10 _ (by omega) rfl
                have a11 : wr.cell? ⟨g, k * 21 + 4 + 7, none⟩ = some (.int .u64 e.data.x7) := by rw [← r2]; exact hc 11 _ (by omega) rfl
                have b0 : wr.cell? ⟨g2, k * 21, none⟩ = some (.int .i64 e.line) := hd 0 _ (by omega) rfl
                have b1 : wr.cell? ⟨g2, k * 21 + 1, none⟩ = some (.int .i64 e.state) := hd 1 _ (by omega) rfl
                have b4 : wr.cell? ⟨g2, k * 21 + 4, none⟩ = some (.int .u64 e.data.x0) := hd 4 _ (by omega) rfl
                have b5 : wr.cell? ⟨g2, k * 21 + 4 + 1, none⟩ = some (.int .u64 e.data.x1) := hd 5 _ (by omega) rfl
                have b6 : wr.cell? ⟨g2, k * 21 + 4 + 2, none⟩ = some (.int .u64 e.data.x2) := hd 6 _ (by omega) rfl
                have b7 : wr.cell? ⟨g2, k * 21 + 4 + 3, none⟩ = some (.int .u64 e.data.x3) := hd 7 _ (by omega) rfl
                have b8 : wr.cell? ⟨g2, k * 21 + 4 + 4, none⟩ = some (.int .u64 e.data.x4) := hd 8 _ (by omega) rfl
                have b9 : wr.cell? ⟨g2, k * 21 + 4 + 5, none⟩ = some (.int .u64 e.data.x5) := hd 9 _ (by omega) rfl
                have b10 : wr.cell? ⟨g2, k * 21 + 4 + 6, none⟩ = some (.int .u64 e.data.x6) := hd 10 _ (by omega) rfl
                have b11 : wr.cell? ⟨g2, k * 21 + 4 + 7, none⟩ = some (.int .u64 e.data.x7) := hd 11 _ (by omega) rfl
                have HZ := Lib.hid (fun q => HS7.out.drewN q)
                clear r1 r2 r3 r4 r5 hc hd he he' HS7
                go_wp2
                go_quiet (fail)
                go_wp2
                go_round
                case rel => exact ⟨k + 1, by omega, by go_num, HZ.out _⟩
                case measure => simp [intOf]; omega
              · obtain rfl : k = n1.all.length := by omega
                have HB := Lib.hid (HbW.out.trans (HS7.out.below.mono (by omega)))
                clear HS7
                go_wp2
                go_ret
                exact ⟨rfl, HB.out⟩
          · have hab : n2.abortC code = (n2.abort code, 0) := by unfold Nd.abortC; rw [if_pos hti.live, if_neg hcd]
            rw [hab] at hs ⊢
            have d2 := (HD.out wg hs.below).2.2
            have h3l : (n2.abort code).live = false := rfl
            have h3n : (n2.abort code).lines = L := hn2l
            have hrel : (n2.abort code).all.length = n1.all.length ∧ ∀ (i : Nat) e e', n1.all[i]? = some e → (n2.abort code).all[i]? = some e' → FinR e e' :=
              all_rel (n := n1) (n' := n2.abort code) hti.lines (disc_fin hti.back hti.ni.inv hti.ni.k1)
            have hcm : (n2.abort code).commit.1 = n2.abort code := by unfold Nd.commit; rw [if_neg (by simp [Nd.abort])]
            clear hcd hab hti hn2l
            generalize n2.abort code = n3 at *
            cases cm
            · clear hcm
              have hln3 : n3.all.length = n1.all.length := hrel.1
              have hrl := hrel.2
              have HR := Lib.hid hrl; clear hrl hrel
              have HLv0 := hs
              have HA5 := Lib.hid (alls_st hs L h3n hL64); clear hs HLv0
              go_wp2_with fail
              refine HA5.out.mono ?_
              rintro e wi ⟨vq, rfl, hsq, hs⟩
              clear HA5
              obtain ⟨gq, capq, rfl, -⟩ := hs.rowE hsq (fun y hy => List.mem_append_left _ hy)
              have HSq := Lib.hid hsq; clear hsq
              have HS6 := Lib.hid hs; clear hs
              have HLv := Lib.hid (live_st HS6.out)
              rw [h3l] at HLv
              go_wp2_with fail
              refine HLv.out.mono ?_
              rintro e w' ⟨rfl, rfl⟩
              clear HLv
              go_wp2
              go_loopw [25] (fun i wr => ∃ k : Nat, k ≤ n1.all.length ∧ i = .int .i64 k ∧ NSt W0 wr a p S bs ways n3 (rowsE (.slice gq n3.all.length capq) n3.all ++ (rowsE (.slice gn n1.all.length capn) (wantL n1.all n2.ss) ++ (rowsE (.slice gw n1.all.length capw) n1.all ++ [])))) (fun i _ => n1.all.length - (intOf i).toNat)
              case atStart => exact ⟨0, by omega, rfl, HS6.out⟩
              case round =>
                obtain ⟨k, hk, rfl, hs⟩ := hrel
                have HS7 := Lib.hid hs; clear hs HS6
                by_cases hkt : k < n1.all.length
                · obtain ⟨e', he'⟩ : ∃ e, n3.all[k]? = some e := ⟨n3.all[k]'(by omega), List.getElem?_eq_getElem _⟩
                  obtain ⟨e, he⟩ : ∃ e, n1.all[k]? = some e := ⟨n1.all[k]'(by omega), List.getElem?_eq_getElem _⟩
                  obtain ⟨r1, r2, r3, r4, r5⟩ := HR.out k e e' he he'
                  obtain ⟨g, hg, hc⟩ := (HS7.out.rowEs HSq.out (fun y hy => List.mem_append_left _ hy)) k e' he'
                  obtain ⟨g2, hg2, hd⟩ := (HS7.out.rowEs HSw.out (fun y hy => List.mem_append_right _ (List.mem_append_right _ (List.mem_append_left _ hy)))) k e he
                  subst hg
                  subst hg2
                  have a0 : wr.cell? ⟨g, k * 21, none⟩ = some (.int .i64 e.line) := by rw [← r1]; exact hc 0 _ (by omega) rfl
                  have a1 : wr.cell? ⟨g, k * 21 + 1, none⟩ = some (.int .i64 e.state) := by rw [← r3]; exact hc 1 _ (by omega) rfl
                  have a2 : wr.cell? ⟨g, k * 21 + 2, none⟩ = some (.bool false) := by rw [← r4]; exact hc 2 _ (by omega) rfl
                  have a3 : wr.cell? ⟨g, k * 21 + 3, none⟩ = some (.bool false) := by rw [← r5]; exact hc 3 _ (by omega) rfl
                  have a4 : wr.cell? ⟨g, k * 21 + 4, none⟩ = some (.int .u64 e.data.x0) := by rw [← r2]; exact hc 4 _ (by omega) rfl
                  have a5 : wr.cell? ⟨g, k * 21 + 4 + 1, none⟩ = some (.int .u64 e.data.x1) := by rw [← r2]; exact hc 5 _ (by omega) rfl
                  have a6 : wr.cell? ⟨g, k * 21 + 4 + 2, none⟩ = some (.int .u64 e.data.x2) := by rw [← r2]; exact hc 6 _ (by omega) rfl
                  have a7 : wr.cell? ⟨g, k * 21 + 4 + 3, none⟩ = some (.int .u64 e.data.x3) := by rw [← r2]; exact hc 7 _ (by omega) rfl
                  have a8 : wr.cell? ⟨g, k * 21 + 4 + 4, none⟩ = some (.int .u64 e.data.x4) := by rw [← r2]; exact hc 8 _ (by omega) rfl
                  have a9 : wr.cell? ⟨g, k * 21 + 4 + 5, none⟩ = some (.int .u64 e.data.x5) := by rw [← r2]; exact hc 9 _ (by omega) rfl
                  have a10 : wr.cell? ⟨g, k * 21 + 4 + 6, none⟩ = some (.int .u64 e.data.x6) := by rw [← r2]; exact hc 10 _ (by omega) rfl
                  have a11 : wr.cell? ⟨g, k * 21 + 4 + 7, none⟩ = some (.int .u64 e.data.x7) := by rw [← r2]; exact hc 11 _ (by omega) rfl
                  have b0 : wr.cell? ⟨g2, k * 21, none⟩ = some (.int .i64 e.line) := hd 0 _ (by omega) rfl
                  have b1 : wr.cell? ⟨g2, k * 21 + 1, none⟩ = some (.int .i64 e.state) := hd 1 _ (by omega) rfl
                  have b4 : wr.cell? ⟨g2, k * 21 + 4, none⟩ = some (.int .u64 e.data.x0) := hd 4 _ (by omega) rfl
                  have b5 : wr.cell? ⟨g2, k * 21 + 4 + 1, none⟩ = some (.int .u64 e.data.x1) := hd 5 _ (by omega) rfl
                  have b6 : wr.cell? ⟨g2, k * 21 + 4 + 2, none⟩ = some (.int .u64 e.data.x2) := hd 6 _ (by omega) rfl
                  have b7 : wr.cell? ⟨g2, k * 21 + 4 + 3, none⟩ = some (.int .u64 e.data.x3) := hd 7 _ (by omega) rfl
                  have b8 : wr.cell? ⟨g2, k * 21 + 4 + 4, none⟩ = some (.int .u64 e.data.x4) := hd 8 _ (by omega) rfl
                  have b9 : wr.cell? ⟨g2, k * 21 + 4 + 5, none⟩ = some (.int .u64 e.data.x5) := hd 9 _ (by omega) rfl
                  have b10 : wr.cell? ⟨g2, k * 21 + 4 + 6, none⟩ = some (.int .u64 e.data.x6) := hd 10 _ (by omega) rfl
                  have b11 : wr.cell? ⟨g2, k * 21 + 4 + 7, none⟩ = some (.int .u64 e.data.x7) := hd 11 _ (by omega) rfl
                  have HZ := Lib.hid (fun q => HS7.out.drewN q)
                  clear r1 r2 r3 r4 r5 hc hd he he' HS7
                  go_wp2
                  go_quiet (fail)
                  go_wp2
                  go_round
                  case rel => exact ⟨k + 1, by omega, by go_num, HZ.out _⟩
                  case measure => simp [intOf]; omega
                · obtain rfl : k = n1.all.length := by omega
                  have HB := Lib.hid (HbW.out.trans (HS7.out.below.mono (by omega)))
                  clear HS7
                  go_wp2
                  go_ret
                  exact ⟨rfl, HB.out⟩
            · have HCm := Lib.hid (ncommit_st hs)
              rw [hcm] at HCm
              clear hs hcm
              go_wp2_with fail
              clear d2
              refine HCm.out.mono ?_
              rintro e wh ⟨rfl, hs⟩
              clear HCm
              have hln3 : n3.all.length = n1.all.length := hrel.1
              have hrl := hrel.2
              have HR := Lib.hid hrl; clear hrl hrel
              have HLv0 := hs
              have HA5 := Lib.hid (alls_st hs L h3n hL64); clear hs HLv0
              go_wp2_with fail
              refine HA5.out.mono ?_
              rintro e wi ⟨vq, rfl, hsq, hs⟩
              clear HA5
              obtain ⟨gq, capq, rfl, -⟩ := hs.rowE hsq (fun y hy => List.mem_append_left _ hy)
              have HSq := Lib.hid hsq; clear hsq
              have HS6 := Lib.hid hs; clear hs
              have HLv := Lib.hid (live_st HS6.out)
              rw [h3l] at HLv
              go_wp2_with fail
              refine HLv.out.mono ?_
              rintro e w' ⟨rfl, rfl⟩
              clear HLv
              go_wp2
              go_loopw [25] (fun i wr => ∃ k : Nat, k ≤ n1.all.length ∧ i = .int .i64 k ∧ NSt W0 wr a p S bs ways n3 (rowsE (.slice gq n3.all.length capq) n3.all ++ (rowsE (.slice gn n1.all.length capn) (wantL n1.all n2.ss) ++ (rowsE (.slice gw n1.all.length capw) n1.all ++ [])))) (fun i _ => n1.all.length - (intOf i).toNat)
              case atStart => exact ⟨0, by omega, rfl, HS6.out⟩
              case round =>
                obtain ⟨k, hk, rfl, hs⟩ := hrel
                have HS7 := Lib.hid hs; clear hs HS6
                by_cases hkt : k < n1.all.length
                · obtain ⟨e', he'⟩ : ∃ e, n3.all[k]? = some e := ⟨n3.all[k]'(by omega), List.getElem?_eq_getElem _⟩
                  obtain ⟨e, he⟩ : ∃ e, n1.all[k]? = some e := ⟨n1.all[k]'(by omega), List.getElem?_eq_getElem _⟩
                  obtain ⟨r1, r2, r3, r4, r5⟩ := HR.out k e e' he he'
                  obtain ⟨g, hg, hc⟩ := (HS7.out.rowEs HSq.out (fun y hy => List.mem_append_left _ hy)) k e' he'
                  obtain ⟨g2, hg2, hd⟩ := (HS7.out.rowEs HSw.out (fun y hy => List.mem_append_right _ (List.mem_append_right _ (List.mem_append_left _ hy)))) k e he
                  subst hg
                  subst hg2
                  have a0 : wr.cell? ⟨g, k * 21, none⟩ = some (.int .i64 e.line) := by rw [← r1]; exact hc 0 _ (by omega) rfl
                  have a1 : wr.cell? ⟨g, k * 21 + 1, none⟩ = some (.int .i64 e.state) := by rw [← r3]; exact hc 1 _ (by omega) rfl
                  have a2 : wr.cell? ⟨g, k * 21 + 2, none⟩ = some (.bool false) := by rw [← r4]; exact hc 2 _ (by omega) rfl
                  have a3 : wr.cell? ⟨g, k * 21 + 3, none⟩ = some (.bool false) := by rw [← r5]; exact hc 3 _ (by omega) rfl
                  have a4 : wr.cell? ⟨g, k * 21 + 4, none⟩ = some (.int .u64 e.data.x0) := by rw [← r2]; exact hc 4 _ (by omega) rfl
                  have a5 : wr.cell? ⟨g, k * 21 + 4 + 1, none⟩ = some (.int .u64 e.data.x1) := by rw [← r2]; exact hc 5 _ (by omega) rfl
                  have a6 : wr.cell? ⟨g, k * 21 + 4 + 2, none⟩ = some (.int .u64 e.data.x2) := by rw [← r2]; exact hc 6 _ (by omega) rfl
                  have a7 : wr.cell? ⟨g, k * 21 + 4 + 3, none⟩ = some (.int .u64 e.data.x3) := by rw [← r2]; exact hc 7 _ (by omega) rfl
                  have a8 : wr.cell? ⟨g, k * 21 + 4 + 4, none⟩ = some (.int .u64 e.data.x4) := by rw [← r2]; exact hc 8 _ (by omega) rfl
                  have a9 : wr.cell? ⟨g, k * 21 + 4 + 5, none⟩ = some (.int .u64 e.data.x5) := by rw [← r2]; exact hc 9 _ (by omega) rfl
                  have a10 : wr.cell? ⟨g, k * 21 + 4 + 6, none⟩ = some (.int .u64 e.data.x6) := by rw [← r2]; exact hc 10 _ (by omega) rfl
                  have a11 : wr.cell? ⟨g, k * 21 + 4 + 7, none⟩ = some (.int .u64 e.data.x7) := by rw [← r2]; exact hc 11 _ (by omega) rfl
                  have b0 : wr.cell? ⟨g2, k * 21, none⟩ = some (.int .i64 e.line) := hd 0 _ (by omega) rfl
                  have b1 : wr.cell? ⟨g2, k * 21 + 1, none⟩ = some (.int .i64 e.state) := hd 1 _ (by omega) rfl
                  have b4 : wr.cell? ⟨g2, k * 21 + 4, none⟩ = some (.int .u64 e.data.x0) := hd 4 _ (by omega) rfl
                  have b5 : wr.cell? ⟨g2, k * 21 + 4 + 1, none⟩ = some (.int .u64 e.data.x1) := hd 5 _ (by omega) rfl
                  have b6 : wr.cell? ⟨g2, k * 21 + 4 + 2, none⟩ = some (.int .u64 e.data.x2) := hd 6 _ (by omega) rfl
                  have b7 : wr.cell? ⟨g2, k * 21 + 4 + 3, none⟩ = some (.int .u64 e.data.x3) := hd 7 _ (by omega) rfl
                  have b8 : wr.cell? ⟨g2, k * 21 + 4 + 4, none⟩ = some (.int .u64 e.data.x4) := hd 8 _ (by omega) rfl
                  have b9 : wr.cell? ⟨g2, k * 21 + 4 + 5, none⟩ = some (.int .u64 e.data.x5) := hd 9 _ (by omega) rfl
                  have b10 : wr.cell? ⟨g2, k * 21 + 4 + 6, none⟩ = some (.int .u64 e.data.x6) := hd 10 _ (by omega) rfl
                  have b11 : wr.cell? ⟨g2, k * 21 + 4 + 7, none⟩ = some (.int .u64 e.data.x7) := hd 11 _ (by omega) rfl
                  have HZ := Lib.hid (fun q => HS7.out.drewN q)
                  clear r1 r2 r3 r4 r5 hc hd he he' HS7
                  go_wp2
                  go_quiet (fail)
                  go_wp2
                  go_round
                  case rel => exact ⟨k + 1, by omega, by go_num, HZ.out _⟩
                  case measure => simp [intOf]; omega
                · obtain rfl : k = n1.all.length := by omega
                  have HB := Lib.hid (HbW.out.trans (HS7.out.below.mono (by omega)))
                  clear HS7
                  go_wp2
                  go_ret
                  exact ⟨rfl, HB.out⟩

end Go.Proofs.Ytddajnpichchfaa
