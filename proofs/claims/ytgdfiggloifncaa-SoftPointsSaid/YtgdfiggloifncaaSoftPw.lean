/- SoftPoints: shared, the walk. Conditions: those stated in each theorem. -/
import Derived.Test.YtgdfiggloifncaaSoftPe
import Derived.Test.YtgdfiggloifncaaSoftS
import Derived.Deep.CutBlock
namespace Go.Proofs.Ytgdfiggloifncaa
open Go.RowKit Go.BigFrame Go.Maps Go.ChangeMaps

set_option maxRecDepth 100000 in
set_option maxHeartbeats 8000000 in
theorem shared_ok (ad : Option Addr) (ws : List Int) (cap : Nat) (seq : Int) (pa ka : Option Addr) (pc kc : Nat) (rows : List RowQ) (picks : List Int) (w : World) (hx : RowsIn w ad 1 wcell ws) (hg : ∀ x ∈ ws, W64 x) (hl : ws.length ≤ 100) (hs : W64 seq) (hp : 1 ≤ rows.length) (hk1 : RowsIn w ka 1 pcell picks) (hk2 : ∀ k ∈ picks, 0 ≤ k ∧ k ≤ 255) (hk3 : picks.length ≤ 3000) (hr1 : RowsIn w pa 1 RowQ.cells rows) (hr2 : ∀ r ∈ rows, RowsIn w r.a 4 OpQ.cells r.xs ∧ (∀ q ∈ r.xs, q.good) ∧ r.xs.length ≤ 100) :
    Calls Try.prog 31 #[.slice ad ws.length cap, .agg #[.int .u64 seq, .slice pa rows.length pc, .slice ka picks.length kc]] w fun e w' => e = .returned (.bool true) ∧ Below w.heap.size w w' := by
  have hbx := (Aparts.nil w).box 65 [.int .u64 seq, .slice pa rows.length pc, .slice ka picks.length kc]
  obtain ⟨n, hn, hn1, hn3, hnp⟩ : ∃ n : Nat, (if (rows.length : Int) < 3 then (rows.length : Int) else 3) = n ∧ 1 ≤ n ∧ n ≤ 3 ∧ n ≤ rows.length := by
    by_cases e : rows.length < 3
    · exact ⟨rows.length, by rw [if_pos (by omega)], hp, by omega, Nat.le_refl _⟩
    · exact ⟨3, by rw [if_neg (by omega)]; rfl, by decide, by decide, by omega⟩
  have hmin : ∀ (ts : Array TypeId) (t : TypeId) (W : World), (Builtin.min_ ts t #[.int .i64 3, .int .i64 (rows.length : Int)]).run Try.prog W = .ok (.int .i64 (n : Int)) W := fun ts t W => by rw [← hn]; simp [Builtin.min_, Builtin.min2]
  clear hn
  have hmk : ∀ (W : World), (Instr.makeSlice 46 (.int .i64 (n : Int)) (.int .i64 (n : Int))).run Try.prog W = .ok (.slice (some ⟨W.heap.size, 0, none⟩) n n) (W.alloc (.cells (Array.replicate n (Value.int .i64 0)) 3)) := fun W => by
    obtain rfl | rfl | rfl : n = 1 ∨ n = 2 ∨ n = 3 := by omega
    · kernel_rfl
    · kernel_rfl
    · kernel_rfl
  have HX := Lib.hid hx
  have HG := Lib.hid hg
  have HK1 := Lib.hid hk1
  have HK2 := Lib.hid hk2
  have HR1 := Lib.hid hr1
  have HR2 := Lib.hid hr2
  have H0 := Lib.hid hbx
  clear hx hg hbx hk1 hk2 hr1 hr2
  go_enter Try.func31, Try.ntmps31
  have HF := Lib.hid (fun (V : World) (hb : Below w.heap.size w V) (s : Int) => first_any ad ws cap s 6 V (HX.out.below hb) HG.out (by omega) (by omega))
  go_wp2_with fail
  refine (HF.out _ H0.out.below _).mono ?_
  rintro e w1 ⟨bm, rfl, hle, hm, hb⟩
  have H1 := Lib.hid (H0.out.push (P := memP bm 14 (firstV ws (IntKind.u64.wrap (seq.tmod 1000 * 2)) 6)) hb ⟨⟨hle, hm.lt⟩, hm⟩)
  clear hle hm hb
  go_wp2_with fail
  refine (HF.out _ H1.out.below _).mono ?_
  rintro e w2 ⟨bs, rfl, hle, hm, hb⟩
  have H2 := Lib.hid (H1.out.push (P := memP bs 14 (firstV ws (IntKind.u64.wrap (0 * 2)) 6)) hb ⟨⟨hle, hm.lt⟩, hm⟩)
  clear hle hm hb H0 H1
  replace H2 : Hid (Aparts w w2 [boxP w.heap.size 65 [.int .u64 seq, .slice pa rows.length pc, .slice ka picks.length kc], memP bm 14 (firstV ws (IntKind.u64.wrap (seq.tmod 1000 * 2)) 6), memP bs 14 (firstV ws (IntKind.u64.wrap (0 * 2)) 6)]) := H2
  have hb0 := wf_u64_b hs
  have hsq : 0 ≤ seq.tmod 1000 ∧ seq.tmod 1000 < 1000 := by rw [Int.tmod_eq_emod_of_nonneg (by omega)]; omega
  have hM0 : firstV ws (IntKind.u64.wrap (seq.tmod 1000 * 2)) 6 0 = seq.tmod 1000 * 2 := by simp [firstV]; exact IntWalk.u64_in _ (by omega)
  have hM1 : firstV ws (IntKind.u64.wrap (seq.tmod 1000 * 2)) 6 1 = 0 := by simp [firstV]
  have hM8 : ∀ a, 8 ≤ a → firstV ws (IntKind.u64.wrap (seq.tmod 1000 * 2)) 6 a = firstV ws (IntKind.u64.wrap (0 * 2)) 6 a := fun a ha => by simp only [firstV, if_neg (show a ≠ 0 by omega)]
  have HM := Lib.hid (show firstV ws (IntKind.u64.wrap (seq.tmod 1000 * 2)) 6 0 % 2 = 0 ∧ 0 ≤ firstV ws (IntKind.u64.wrap (seq.tmod 1000 * 2)) 6 0 ∧ firstV ws (IntKind.u64.wrap (seq.tmod 1000 * 2)) 6 1 = 0 ∧ ∀ a, 8 ≤ a → firstV ws (IntKind.u64.wrap (seq.tmod 1000 * 2)) 6 a = firstV ws (IntKind.u64.wrap (0 * 2)) 6 a from ⟨by rw [hM0]; omega, by rw [hM0]; omega, hM1, hM8⟩)
  have hM2 : firstV ws (IntKind.u64.wrap (seq.tmod 1000 * 2)) 6 0 ≤ 2000 := by rw [hM0]; omega
  clear hM0 hM1 hM8 hsq hb0
  generalize firstV ws (IntKind.u64.wrap (seq.tmod 1000 * 2)) 6 = M at *
  generalize firstV ws (IntKind.u64.wrap (0 * 2)) 6 = S at *
  have HN := Lib.hid hM2; clear hM2
  obtain ⟨z0, hz3, hinf⟩ := Try.infoPt
  obtain ⟨i0, hi, hz0, hz1, hz2⟩ := info_partsQ hinf
  have HI := Lib.hid hi; clear hi hinf
  have HZ0 := Lib.hid hz0; clear hz0
  have HZ1 := Lib.hid hz1; clear hz1
  have HZ2 := Lib.hid hz2; clear hz2
  have HZ3 := Lib.hid hz3; clear hz3
  generalize w.heap.size = B at *
  have hc := box_a H2.out (i := 0) rfl
  have c1 := hc.cell (i := 1) rfl
  clear hc HF HX HG
  go_wp2_with fail
  have h3 := val_none (H2.out.box 3 ((List.replicate n (0 : Int)).map (Value.int .i64))) 23
  rw [List.map_replicate, List.toArray_replicate] at h3
  have HS0 : Hid (Aparts w (w2.alloc (.cells (Array.replicate n (Value.int .i64 0)) 3)) (allP (baseP B [.int .u64 seq, .slice pa rows.length pc, .slice ka picks.length kc] bm 14 M bs 14 S w2.heap.size (List.replicate n 0) (.slice none 0 0) []) [] (List.replicate 0 PV.zero))) := Lib.hid (by simp only [allP, baseP, List.map_replicate]; exact h3)
  clear h3 H2 c1
  generalize w2.alloc (.cells (Array.replicate n (Value.int .i64 0)) 3) = w3 at *
  generalize w2.heap.size = ba at *
  go_loopw [9, 11] (fun v i wr => ∃ (k : Nat) (ps : List Nat), k ≤ n ∧ i = .int .i64 k ∧ ps.length = k ∧ Aparts w wr (allP (baseP B [.int .u64 seq, .slice pa rows.length pc, .slice ka picks.length kc] bm 14 M bs 14 S ba (List.replicate n 0) v ps) ps (List.replicate k PV.zero))) (fun _ i _ => n - (intOf i).toNat)
  case atStart => exact ⟨0, [], by omega, rfl, rfl, HS0.out⟩
  case round =>
    clear HS0
    obtain ⟨k, ps, hk, rfl, hps, hs⟩ := hrel
    have HS := Lib.hid hs; clear hs
    by_cases hlt : k < n
    · go_wp2_with (first | (go_at_call 10; refine (new_a HS.out).mono ?_; rintro e w5 ⟨p, rfl, h⟩; rw [allP_snoc (by rw [hps, List.length_replicate])] at h; have H4 := Lib.hid h; clear h; have HR := Lib.hid (show w5.ownsRow 0 23 1 u9 k (ps.map ptV) from by have := valP_row H4.out (allP_base (i := 4) rfl); rw [List.length_map, hps] at this; exact this)) | (at_builtin; go_loud (refine wpList_append_own_at _ rfl _ _ 82 rfl 0 23 i0 z0 1 8 Try.underlying82 HI.out HZ0.out HZ1.out HZ2.out HZ3.out (by decide) u9 k (ps.map ptV) rfl (World.ownsRow.alloc HR.out _) ⟨w5.heap.size, 0, none⟩ 1 1 [ptV p] rfl rfl (World.news_of_block (t := 23) (fr := (0, 0)) (new_block w5 _)) (by simp [Value.oneCell', ptV]) (by unfold maxLen; omega) (by omega) (by omega) ?_); intro v' w6 hown5 hgrow5 hnil5 hat5; have H5 := Lib.hid (val_grown (x := ptV p) (H4.out.idle ((Below.refl _ _).alloc (Nat.le_refl _) _)) (allP_base (i := 4) rfl) (by rw [List.length_map, hps]; exact hown5) hgrow5 hat5); clear hown5 hgrow5 hnil5 hat5))
      go_roundw
      case rel => exact ⟨k + 1, ps ++ [p], by omega, by go_num, by simp [hps], by
        have := H5.out
        rw [allP_setB (by show 4 < 5; omega), show List.replicate k PV.zero ++ [PV.zero] = List.replicate (k + 1) PV.zero from by rw [List.replicate_succ']] at this
        simp only [baseP, List.map_append, List.map_cons, List.map_nil] at this ⊢
        exact this⟩
      case measure => simp [intOf]; omega
    · obtain rfl : n = k := by omega
      obtain ⟨g, gc, rfl, -, -⟩ := (valP_row HS.out (allP_base (i := 4) rfl)).form (by rw [List.length_map]; omega)
      have HS0 : Hid (Inv (List.replicate n PV.zero) M S) := Lib.hid (inv_start n HM.out.1 HM.out.2.1 HM.out.2.2.1 HM.out.2.2.2)
      have HL := HS; clear HS
      rw [List.length_map, hps] at HL ⊢
      go_wp2
      go_loopw [12] (fun i wr => ∃ (t : Nat) (xs : List PV) (m sh : Int → Int) (cm cs : Nat) (ats : List Int), t ≤ picks.length ∧ i = .int .i64 t ∧ xs.length = n ∧ Inv xs m sh ∧ (∀ x ∈ xs, x.ok ∧ 0 ≤ x.pts ∧ x.pts ≤ t) ∧ m 0 ≤ 2000 + t ∧ cm ≤ 14 + t ∧ cs ≤ 14 + 128 * t ∧ ats.length = n ∧ (∀ a ∈ ats, 0 ≤ a ∧ a ≤ 100) ∧ Aparts w wr (allP (baseP B [.int .u64 seq, .slice pa rows.length pc, .slice ka picks.length kc] bm cm m bs cs sh ba ats (.slice (some ⟨g, 0, none⟩) n gc) ps) ps xs)) (fun i _ => picks.length - (intOf i).toNat)
      case atStart => exact ⟨0, _, M, S, 14, 14, _, by omega, rfl, List.length_replicate, HS0.out, (fun x hx => by obtain rfl := List.eq_of_mem_replicate hx; exact ⟨PV.ok_zero, by decide, by decide⟩), by have := HN.out; omega, by omega, by omega, List.length_replicate, (fun a ha => by obtain rfl := List.eq_of_mem_replicate ha; decide), HL.out⟩
      case round =>
        clear HL
        obtain ⟨t, xs, m, sh, cm, cs, ats, ht, rfl, hxl, hinv, hxs, hm0, hcm, hcs, hal, hats, hs⟩ := hrel
        have HS := Lib.hid hs; clear hs
        have HV := Lib.hid hinv; clear hinv
        have HO := Lib.hid hxs; clear hxs
        have HT := Lib.hid hats; clear hats
        have hc := box_a HS.out (allP_base (i := 0) rfl)
        have c2 := hc.cell (i := 2) rfl
        have c1 := hc.cell (i := 1) rfl
        clear hc
        have dn : decide ((0 : Int) < (n : Int)) = true := by simp; omega
        have dz : decide ((n : Int) = 0) = false := by simp; omega
        have HAL := Lib.hid hal; clear hal
        have HXL := Lib.hid hxl; clear hxl
        have HPS := Lib.hid hps; clear hps
        by_cases hlt2 : t < picks.length
        · obtain ⟨pk, hpk⟩ : ∃ x, picks[t]? = some x := ⟨picks[t], List.getElem?_eq_getElem hlt2⟩
          obtain ⟨q, c, rfl, hq, hr⟩ := HK1.out.row hpk
          have hkc : wr.cell? ⟨q, c + t, none⟩ = some (.int .u8 pk) := by
            rw [World.cell?_of_block (a := ⟨q, c + t, none⟩) (HS.out.below.block q hq)]
            have := hr 0 _ rfl
            rwa [Nat.mul_one, Nat.add_zero] at this
          have hpb := HK2.out pk (List.mem_of_getElem? hpk)
          obtain ⟨j, hj, hjn⟩ : ∃ j : Nat, pk.tmod n = j ∧ j < n := by
            have h1 := Int.emod_nonneg pk (show (n : Int) ≠ 0 by omega)
            have h2 := Int.emod_lt_of_pos pk (show (0 : Int) < n by omega)
            exact ⟨(pk % n).toNat, by rw [Int.tmod_eq_emod_of_nonneg hpb.1]; omega, by omega⟩
          have hcv : IntKind.i64.wrap pk = pk := IntWalk.i64_in _ (by omega)
          obtain ⟨p, hp2⟩ : ∃ p, ps[j]? = some p := ⟨ps[j]'(by rw [HPS.out]; exact hjn), List.getElem?_eq_getElem _⟩
          obtain ⟨x, hx⟩ : ∃ x, xs[j]? = some x := ⟨xs[j]'(by rw [HXL.out]; exact hjn), List.getElem?_eq_getElem _⟩
          have cp : wr.cell? ⟨g, j, none⟩ = some (.pointer (some ⟨p, 0, none⟩)) := by
            have h1 := valP_row HS.out (allP_base (i := 4) rfl)
            have h2 := val_at h1 (k := j) (x := ptV p) (by rw [List.getElem?_map, hp2]; rfl) 0 _ rfl
            simpa [ptV] using h2
          have HIX := Lib.hid (allP_path (base := baseP B [.int .u64 seq, .slice pa rows.length pc, .slice (some ⟨q, c, none⟩) picks.length kc] bm cm m bs cs sh ba ats (.slice (some ⟨g, 0, none⟩) n gc) ps) hp2 hx)
          have HP2 := Lib.hid hp2
          have HXJ := Lib.hid hx
          clear hp2 hx hpk hr
          have HPT := Lib.hid (points_a HS.out HIX.out)
          have HWR := Lib.hid (writing_a HS.out HIX.out)
          have HWA := Lib.hid (want_a HS.out HIX.out)
          simp only [Rq.cells] at HWA
          go_upto_if 85 with (first | (go_at_call 26; refine HPT.out.mono ?_; rintro e w5 ⟨rfl, rfl⟩) | (go_at_call 27; refine HWR.out.mono ?_; rintro e w5 ⟨rfl, rfl⟩) | (go_at_call 18; refine HWA.out.mono ?_; rintro e w5 ⟨rfl, h2⟩; have H5 := Lib.hid h2; clear h2))
          have hq0 := Holds.new w5 48 [.int .i64 x.req.op, .int .i64 x.req.addr, .int .u64 x.req.value, .int .u64 x.req.old]
          have q0 := hq0.cell (i := 0) rfl
          have q1 := hq0.cell (i := 1) rfl
          have q2 := hq0.cell (i := 2) rfl
          have q3 := hq0.cell (i := 3) rfl
          have H6 := Lib.hid (H5.out.idle ((Below.refl _ w5).alloc (Nat.le_refl _) (.cells #[.int .i64 x.req.op, .int .i64 x.req.addr, .int .u64 x.req.value, .int .u64 x.req.old] 48)))
          clear hq0 H5
          simp only [List.toArray] at q0 q1 q2 q3
          generalize w5.alloc (.cells #[.int .i64 x.req.op, .int .i64 x.req.addr, .int .u64 x.req.value, .int .u64 x.req.old] 48) = w6 at *
          generalize w5.heap.size = bq at *
          have HMIX : Hid (∃ mix : List Value, mix = [.int .u64 seq, .slice pa rows.length pc, .slice (some ⟨q, c, none⟩) picks.length kc]) := Lib.hid ⟨_, rfl⟩
          have hpb2 := (HO.out x (List.mem_of_getElem? HXJ.out))
          have hrq := PV.req_ok hpb2.1
          have hww := word_a H6.out (allP_base (i := 1) rfl) hrq.1
          have hp0 := hpb2.2.1
          have hp9 := hpb2.2.2
          go_cut [18] from 53 to 235 (fun _ wx => ∃ (y : PV) (m' : Int → Int) (cm' : Nat) (ats' : List Int), StepOk xs j x m sh (y, m') ∧ y.ok ∧ x.pts ≤ y.pts ∧ y.pts ≤ x.pts + 1 ∧ cm' ≤ cm + 1 ∧ ats'.length = n ∧ (∀ a ∈ ats', 0 ≤ a ∧ a ≤ 100) ∧ Aparts w wx (allP (baseP B [.int .u64 seq, .slice pa rows.length pc, .slice (some ⟨q, c, none⟩) picks.length kc] bm cm' m' bs cs sh ba ats' (.slice (some ⟨g, 0, none⟩) n gc) ps) ps (xs.set j y)))
          case first =>
            have HST := Lib.hid (fun o => turn_ok HV.out HXJ.out (by omega) (by have := HV.out.few; rw [HXL.out] at this; omega) o (n := 6) (by decide))
            cases hb : x.busy with
            | true =>
              go_wp2_with (first | (go_at_call 19; refine (answer_a H6.out (allP_base (i := 1) rfl) (by omega) x.req hrq.1 hrq.2.1 rfl).mono ?_; rintro e w7 ⟨rfl, h3⟩; have H7 := Lib.hid h3; clear h3) | (go_at_call 14; refine (give_a H7.out (by rw [allP_setB (by show 1 < 5; omega)]; exact allP_path (base := baseP B [.int .u64 seq, .slice pa rows.length pc, .slice (some ⟨q, c, none⟩) picks.length kc] bm (cm + 1) (memV m x.req) bs cs sh ba ats (.slice (some ⟨g, 0, none⟩) n gc) ps) HP2.out HXJ.out) hp0 (by omega) (m x.req.addr) (okV m x.req) hww rfl).mono ?_; rintro e w8 ⟨rfl, h3⟩; have H8 := Lib.hid h3; clear h3))
              go_meet
              have h9 : Aparts w w8 ((allP (baseP B [.int .u64 seq, .slice pa rows.length pc, .slice (some ⟨q, c, none⟩) picks.length kc] bm (cm + 1) (memV m x.req) bs cs sh ba ats (.slice (some ⟨g, 0, none⟩) n gc) ps) ps xs).set ((baseP B [.int .u64 seq, .slice pa rows.length pc, .slice (some ⟨q, c, none⟩) picks.length kc] bm (cm + 1) (memV m x.req) bs cs sh ba ats (.slice (some ⟨g, 0, none⟩) n gc) ps).length + j) (pathP p (x.give (m x.req.addr) (okV m x.req)))) := by
                have h8 := H8.out
                rw [allP_setB (by show 1 < 5; omega)] at h8
                exact h8
              rw [allP_set HP2.out] at h9
              have hst := HST.out none
              unfold turnV at hst
              rw [if_pos hb] at hst
              have hpt := PV.give_pts x (m x.req.addr) (okV m x.req)
              case rel => exact ⟨x.give (m x.req.addr) (okV m x.req), memV m x.req, cm + 1, ats, hst, PV.give_ok hpb2.1 hww _, hpt.1, hpt.2, by omega, HAL.out, HT.out, h9⟩
            | false =>
              obtain ⟨a0, ha0⟩ : ∃ a, ats[j]? = some a := ⟨ats[j]'(by rw [HAL.out]; exact hjn), List.getElem?_eq_getElem _⟩
              have hab := HT.out a0 (List.mem_of_getElem? ha0)
              have hat := (box_a H6.out (allP_base (i := 3) rfl)).cell (i := j) (v := .int .i64 a0) (by rw [List.getElem?_map, ha0]; rfl)
              obtain ⟨r, hrr⟩ : ∃ r, rows[j]? = some r := ⟨rows[j]'(by omega), List.getElem?_eq_getElem _⟩
              obtain ⟨qp, cpp, rfl, hqp, hrp⟩ := HR1.out.row hrr
              have hrc : w6.cell? ⟨qp, cpp + j, none⟩ = some (.slice r.a r.xs.length r.cap) := by
                rw [World.cell?_of_block (a := ⟨qp, cpp + j, none⟩) (H6.out.below.block qp hqp)]
                have := hrp 0 _ rfl
                rwa [Nat.mul_one, Nat.add_zero] at this
              have c1' := (box_a H6.out (allP_base (i := 0) rfl)).cell (i := 1) rfl
              obtain ⟨hr5, hr6, hr7⟩ := HR2.out r (List.mem_of_getElem? hrr)
              have HR5 := Lib.hid hr5
              have HR6 := Lib.hid hr6
              have hjr : j < rows.length := by omega
              have HA0 := Lib.hid ha0
              clear hr5 hr6 ha0 hrr hrp
              by_cases hlr : a0 < r.xs.length
              · obtain ⟨k, rfl⟩ : ∃ k : Nat, a0 = k := ⟨a0.toNat, by omega⟩
                have hde : decide ((k : Int) < (r.xs.length : Int)) = true := by simp; omega
                obtain ⟨o, ho⟩ : ∃ o, r.xs[k]? = some o := ⟨r.xs[k]'(by omega), List.getElem?_eq_getElem _⟩
                obtain ⟨qa, ca, era, hqa, hra⟩ := HR5.out.row ho
                have hgo := HR6.out o (List.mem_of_getElem? ho)
                rw [era] at hrc
                have hcell : ∀ (i : Nat) (v : Value), o.cells[i]? = some v → w6.drew.cell? ⟨qa, ca + k * 4 + i, none⟩ = some v := fun i v hi => by
                  show w6.cell? ⟨qa, ca + k * 4 + i, none⟩ = some v
                  rw [World.cell?_of_block (a := ⟨qa, ca + k * 4 + i, none⟩) (H6.out.below.block qa hqa)]
                  exact hra i v hi
                have r0 := hcell 0 _ rfl
                have r1 := hcell 1 _ rfl
                have r2 := hcell 2 _ rfl
                have r3 := hcell 3 _ rfl
                rw [Nat.add_zero] at r0
                have hlk : k < r.xs.length := by omega
                have hw1 : IntKind.i64.wrap ((k : Int) + 1) = (k : Int) + 1 := IntWalk.i64_in _ (by omega)
                clear hcell hra ho era
                go_wp2_with fail
                go_region
                go_wp2_with fail
                change Code.wp _ _ _ _ w6.drew
                have hat' : w6.drew.cell? ⟨ba, j, none⟩ = some (.int .i64 k) := hat
                have hrc' : w6.drew.cell? ⟨qp, cpp + j, none⟩ = some (.slice (some ⟨qa, ca, none⟩) r.xs.length r.cap) := hrc
                have c1'' : w6.drew.cell? ⟨B, 1, none⟩ = some (.slice (some ⟨qp, cpp, none⟩) rows.length pc) := c1'
                have H7 := Lib.hid (H6.out.idle (below_drew1 (Below.refl _ w6)))
                clear hat hrc c1' c1 c2 hkc cp q0 q1 q2 q3 H6 HS
                generalize w6.drew = w7 at *
                have H8 := Lib.hid (H7.out.idle (below_drew1 (Below.refl _ w7)))
                go_still_tail 13, (by kernel_rfl)
                change wpList _ _ _ _ _ w7.drew
                go_wp2_with (go_at_call 34; refine (begins_a H8.out (allP_path (base := (baseP B [.int .u64 seq, .slice (some ⟨qp, cpp, none⟩) rows.length pc, .slice (some ⟨q, c, none⟩) picks.length kc] bm cm m bs cs sh ba ats (.slice (some ⟨g, 0, none⟩) n gc) ps)) HP2.out HXJ.out) o hgo 6 (by decide) (by decide) rfl).mono ?_; rintro e w9 ⟨rfl, h3⟩; rw [allP_set HP2.out] at h3; have hat9 := (box_a h3 (allP_base (i := 3) rfl)).cell (i := j) (v := .int .i64 k) (by rw [List.getElem?_map, HA0.out]; rfl); have hfr9 := (box_a h3 (allP_base (i := 3) rfl)).free j; have H9 := Lib.hid h3; clear h3)
                go_meet
                case rel =>
                  have hst := HST.out (some o)
                  unfold turnV at hst
                  rw [if_neg (by rw [hb]; decide)] at hst
                  have h10 := box_set H9.out (allP_base (i := 3) rfl) j (.int .i64 ((k : Int) + 1)) rfl
                  rw [allP_setB (by show 3 < 5; omega)] at h10
                  refine ⟨beginsV x o 6, m, cm, ats.set j ((k : Int) + 1), hst, beginsV_ok hpb2.1 hgo (by decide) (by decide), by rw [beginsV_pts]; exact Int.le_refl _, by rw [beginsV_pts]; omega, by omega, by rw [List.length_set]; exact HAL.out, fun a ha => ?_, ?_⟩
                  · rcases List.mem_or_eq_of_mem_set ha with ha | rfl
                    · exact HT.out a ha
                    · omega
                  · rw [baseP, List.map_set]; exact h10
              · have hde : decide (a0 < (r.xs.length : Int)) = false := by simp; omega
                go_wp2_with fail
                go_region
                go_wp2_with fail
                go_meet
                case rel =>
                  have hst := HST.out none
                  unfold turnV at hst
                  rw [if_neg (by rw [hb]; decide)] at hst
                  exact ⟨x, m, cm, ats, hst, hpb2.1, Int.le_refl _, by omega, by omega, HAL.out, HT.out, by rw [set_id HXJ.out]; exact H6.out.idle (below_drew1 (Below.refl _ w6))⟩
          case rest =>
            clear hww hrq hp0 hp9 hpb2 q0 q1 q2 q3 H6 HWA HWR HPT c1 c2 hkc cp
            obtain ⟨y, m', cm', ats', hst, hyo, hy0, hy1, hcm', hal', hat', hs'⟩ := hcut
            obtain ⟨hv', hpr, hmm0, hmm1⟩ := hst
            simp only at hmm0 hmm1
            have hxx := HO.out x (List.mem_of_getElem? HXJ.out)
            have hox := HV.out.each x (List.mem_of_getElem? HXJ.out)
            have hps0 := hox.pos
            have hps1 := hox.le
            have hpx0 := hxx.2.1
            have hpx1 := hxx.2.2
            clear hxx hox
            have HV2 := Lib.hid hv'; clear hv'
            have HYO := Lib.hid hyo; clear hyo
            have HAL2 := Lib.hid hal'; clear hal'
            have HAT2 := Lib.hid hat'; clear hat'
            go_step
            refine sh_mid (m := m') (y := y) _ _ _ _ _ _ _ _ _ _ _ _ _ _ _ _ _ _ _ _ _ _ _ _ _ _ _ _ _ _ _ _ _ _ _ _ _ _ _ _ _ _ _ _ _ _ _ _ _ _ _ _ _ _ _ _ _ _ _ _ _ _ _ _ _ _ _ _ _ _ _ _ _ _ _ _ _ _ _ _ _ _ _ _ _ _ _ _ _ _ _ _ _ _ _ _ _ _ _ _ _ _ _ _ _ _ _ _ _ _ _ _ _ _ _ _ _ _ _ _ _ _ _ _ _ _ _ _ _ _ _ _ _ _ _ _ _ _ _ _ _ _ _ _ _ _ _ _ _ _ _ _ _ _ _ _ _ _ _ _ _ _ _ _ _ _ _ _ _ _ _ _ _ _ _ _ _ _ _ _ _ _ _ _ _ _ _ _ _ _ _ _ _ _ _ _ _ _ _ _ _ _ _ _ _ _ _ _ _ _ _ _ _ _ _ _ _ _ _ _ _ _ _ _ _ _ _ _ _ HV2.out hpr ⟨hpx0, by omega⟩ HXL.out HPS.out ⟨hn1, hn3⟩ ⟨by omega, by omega⟩ (by omega) HP2.out HXJ.out hs' ?_
            clear hpr hs'
            intro u4 u19 u21 u23 u24 u25 u26 u27 u28 u124 u125 u126 u127 u128 u129 u130 u131 u132 u133 u134 u135 u136 u137 u138 u139 u140 u141 u142 u143 u144 u145 u146 u147 u148 u149 u150 u151 u152 u153 u154 u155 u156 u157 u158 u159 u160 u161 u162 u163 u164 u165 u166 u167 u168 u169 u170 u171 u172 u173 u174 u175 u176 u177 u178 u179 u180 u181 u182 u183 u184 u185 u186 u187 u188 u189 u190 u191 u192 u193 u194 u195 u196 u197 u198 u199 u200 u201 u202 u203 u204 u205 u206 u207 u208 u209 u210 u211 u212 u213 u214 u215 u216 u217 u218 u219 u220 u221 u222 u223 u224 u225 u226 u227 u228 u229 u230 u231 u232 u233 u234 u235 w9 cs' hcs' hs9
            have HS9 := Lib.hid hs9; clear hs9
            go_wp2_with fail
            go_roundw
            case rel =>
              refine ⟨t + 1, xs.set j y, m', _, cm', cs', ats', by omega, by go_num, by rw [List.length_set]; exact HXL.out, HV2.out, fun z hz => ?_, by omega, by omega, by omega, HAL2.out, HAT2.out, HS9.out⟩
              rcases List.mem_or_eq_of_mem_set hz with hz | rfl
              · have := HO.out z hz
                exact ⟨this.1, this.2.1, by omega⟩
              · exact ⟨HYO.out, by omega, by omega⟩
            case measure => simp [intOf]; omega
        · obtain rfl : t = picks.length := by omega
          go_wp2
          go_ret
          exact ⟨rfl, HS.out.below⟩

end Go.Proofs.Ytgdfiggloifncaa
