/- SoftClash: the walk. Conditions: those stated in each theorem. -/
import Derived.Test.YtjdmbiljaoiphaaSoftT
namespace Go.Proofs.Ytjdmbiljaoiphaa
open Go.RowKit Go.BigFrame Go.Maps Go.ChangeMaps

theorem X1_ok : X1.ok := ⟨w64_lit (n := 6) (by omega), w64_0, i64_0, fitl_nil, fitl_nil, trivial⟩
theorem X2_ok {a y : Int} (ha : I64 a) (hy : W64 y) : (X2 a y).ok := ⟨w64_lit (n := 6) (by omega), hy, i64_0, fun z hz => by rw [List.mem_singleton.1 hz]; exact ⟨ha, hy⟩, fitl_nil, trivial⟩
theorem Y3_ok {a v : Int} (ha : I64 a) (hv : W64 v) : (Y3 a v).ok := ⟨w64_lit (n := 6) (by omega), w64_0, i64_1, fitl_nil, fun z hz => by rw [List.mem_singleton.1 hz]; exact ⟨ha, hv⟩, trivial⟩

set_option maxRecDepth 100000 in
set_option maxHeartbeats 8000000 in
theorem sclash_ok (ad : Option Addr) (ws : List Int) (cap : Nat) (xa xb v : Int) (wr : Bool) (w : World) (hx : RowsIn w ad 1 wcell ws) (hg : ∀ x ∈ ws, W64 x) (hl : ws.length ≤ 100) (ha0 : I64 xa) (hb0 : I64 xb) (hv0 : W64 v) :
    Calls Try.prog 8 #[.slice ad ws.length cap, .agg #[.int .i64 xa, .int .i64 xb, .int .u64 v, .bool wr]] w fun e w' => e = .returned (.bool true) ∧ Below w.heap.size w w' := by
  have d0 : decide ((100 : Int) < (ws.length : Int)) = false := by simp; omega
  have hbx := (Aparts.nil w).box 73 [.int .i64 xa, .int .i64 xb, .int .u64 v, .bool wr]
  have HL := Lib.hid (alive_ok (w.alloc (.cells #[.int .i64 xa, .int .i64 xb, .int .u64 v, .bool wr] 73)))
  have HX := Lib.hid hx
  have HG := Lib.hid hg
  have HV := Lib.hid hv0
  have H := Lib.hid hbx
  clear hx hg hv0 hbx
  go_enter Try.func8, Try.ntmps8
  go_wp2_with (go_at_call 30; refine HL.out.mono ?_; rintro e w1 ⟨rfl, hb⟩; have H1 := Lib.hid (H.out.idle hb); clear hb)
  generalize w.heap.size = B at *
  replace H1 : Hid (Aparts w w1 [boxP B 73 [.int .i64 xa, .int .i64 xb, .int .u64 v, .bool wr]]) := H1
  have hc := box_a H1.out (i := 0) rfl
  have c0 := hc.cell (i := 0) rfl
  have c1 := hc.cell (i := 1) rfl
  clear hc HL H
  have HPa := Lib.hid (fun V => place_any V xa 6 (by omega) (by omega) ha0)
  have HPb := Lib.hid (fun V => place_any V xb 6 (by omega) (by omega) hb0)
  have hS : w1.drew.cell? ⟨B, 0, none⟩ = some (.int .i64 xa) ∧ w1.drew.cell? ⟨B, 1, none⟩ = some (.int .i64 xb) := ⟨c0, c1⟩
  go_region_held3 (fun V => V.cell? ⟨B, 0, none⟩ = some (.int .i64 xa) ∧ V.cell? ⟨B, 1, none⟩ = some (.int .i64 xb)) (first | with_reducible exact hS) (first | (go_at_call 33; (with_reducible refine (HPa.out _).mono ?_); rintro e V ⟨rfl, rfl⟩) | (go_at_call 33; (with_reducible refine (HPb.out _).mono ?_); rintro e V ⟨rfl, rfl⟩))
  all_goals clear hS c0 c1
  all_goals have H2 := Lib.hid (H1.out.idle (below_drew1 (Below.refl _ w1)))
  all_goals clear H1
  have hp6 := placeV_ok (a := xa) (n := 6) (by omega) (by omega)
  have hp7 := placeV_ok (a := xb) (n := 6) (by omega) (by omega)
  generalize placeV xa 6 = a at *
  generalize placeV xb 6 = a2 at *
  have HA := Lib.hid hp6.1
  have HA2 := Lib.hid hp7.1
  have h8 := hp6.2.1
  have h82 := hp7.2.1
  clear hp6 hp7
  generalize w1.drew = W1 at *
  have HF := Lib.hid (first_any ad ws cap 3 6 W1 (HX.out.below H2.out.below) HG.out (by omega) (by omega))
  go_wp2_with (go_at_call 32; refine HF.out.mono ?_; rintro e w2 ⟨b, rfl, hle, hm, hb⟩; have H3 := Lib.hid (H2.out.push (P := memP b 14 (firstV ws (IntKind.u64.wrap (3 * 2)) 6)) hb ⟨⟨hle, hm.lt⟩, hm⟩); clear hle hm hb)
  have hM0 : firstV ws (IntKind.u64.wrap (3 * 2)) 6 0 = 6 := by simp [firstV]; decide
  have hM1 : firstV ws (IntKind.u64.wrap (3 * 2)) 6 1 = 0 := by simp [firstV]
  generalize firstV ws (IntKind.u64.wrap (3 * 2)) 6 = M at *
  replace H3 : Hid (Aparts w w2 [boxP B 73 [.int .i64 xa, .int .i64 xb, .int .u64 v, .bool wr], memP b 14 M]) := H3
  refine (new_a H3.out).mono ?_
  rintro e w3 ⟨p, rfl, h⟩
  replace h : Aparts w w3 [boxP B 73 [.int .i64 xa, .int .i64 xb, .int .u64 v, .bool wr], memP b 14 M, pathP p PV.zero] := h
  have H4 := Lib.hid h; clear h H3
  go_wp2_with fail
  refine (new_a H4.out).mono ?_
  rintro e w4 ⟨q, rfl, h⟩
  replace h : Aparts w w4 [boxP B 73 [.int .i64 xa, .int .i64 xb, .int .u64 v, .bool wr], memP b 14 (M), pathP p (PV.zero), pathP q (PV.zero)] := h
  have H0 := h; clear h H4
  go_wp2_with fail
  refine (begin_a H0 (i := 2) rfl rfl).mono ?_
  rintro e w5 ⟨rfl, h⟩
  replace h : Aparts w w5 [boxP B 73 [.int .i64 xa, .int .i64 xb, .int .u64 v, .bool wr], memP b 14 (M), pathP p (PV.zero.begin), pathP q (PV.zero)] := h
  clear H0; have H0 := h; clear h
  go_wp2_with (fail)
  refine (finish_f (l := [boxP B 73 [.int .i64 xa, .int .i64 xb, .int .u64 v, .bool wr], memP b 14 (M), pathP p (PV.zero.begin), pathP q (PV.zero)]) (i := 2) (j := 1) (s := (X1, upd M 1 (0 + 1))) H0 (by decide) (by simp) (by simp) ⟨PV.begin_ok PV.ok_zero, fun z hz => word_a H0 (i := 1) rfl hz⟩ (by decide) (by decide) (by omega) (cl_begin hM0 hM1 (by omega)) rfl).mono ?_
  rintro e w6 ⟨rfl, c1, hc6, h⟩
  replace h : Aparts w w6 [boxP B 73 [.int .i64 xa, .int .i64 xb, .int .u64 v, .bool wr], memP b c1 (upd M 1 (0 + 1)), pathP p (X1), pathP q (PV.zero)] := h
  clear H0; have H0 := h; clear h
  have hN0 : upd M 1 (0 + 1) 0 = 6 := by rw [upd_other _ _ (by decide), hM0]
  have hN1 : upd M 1 (0 + 1) 1 = 1 := by rw [upd_same]; rfl
  generalize upd M 1 (0 + 1) = N at *
  go_wp2_with (fail)
  refine (load_a H0 (i := 2) rfl a HA.out rfl).mono ?_
  rintro e w7 ⟨rfl, h⟩
  replace h : Aparts w w7 [boxP B 73 [.int .i64 xa, .int .i64 xb, .int .u64 v, .bool wr], memP b c1 (N), pathP p (X1.load a), pathP q (PV.zero)] := h
  clear H0; have H0 := h; clear h
  go_wp2_with (fail)
  refine (finish_f (l := [boxP B 73 [.int .i64 xa, .int .i64 xb, .int .u64 v, .bool wr], memP b c1 (N), pathP p (X1.load a), pathP q (PV.zero)]) (i := 2) (j := 1) (s := (X2 a (N a), N)) H0 (by decide) (by simp) (by simp) ⟨PV.load_ok X1_ok HA.out, fun z hz => word_a H0 (i := 1) rfl hz⟩ (by rw [PV.load_pts]; decide) (by rw [PV.load_pts]; decide) (by omega) (cl_load hN0 h8) rfl).mono ?_
  rintro e w8 ⟨rfl, c2, hc8, h⟩
  replace h : Aparts w w8 [boxP B 73 [.int .i64 xa, .int .i64 xb, .int .u64 v, .bool wr], memP b c2 (N), pathP p (X2 a (N a)), pathP q (PV.zero)] := h
  clear H0; have H0 := h; clear h
  have hw := word_a H0 (i := 1) rfl HA.out
  go_wp2_with (go_at_call 25; refine (value_a H0 (i := 2) rfl).mono ?_; rintro e w' ⟨rfl, rfl⟩)
  refine (begin_a H0 (i := 3) rfl rfl).mono ?_
  rintro e w9 ⟨rfl, h⟩
  replace h : Aparts w w9 [boxP B 73 [.int .i64 xa, .int .i64 xb, .int .u64 v, .bool wr], memP b c2 (N), pathP p (X2 a (N a)), pathP q (PV.zero.begin)] := h
  clear H0; have H0 := h; clear h
  go_wp2_with (fail)
  refine (finish_f (l := [boxP B 73 [.int .i64 xa, .int .i64 xb, .int .u64 v, .bool wr], memP b c2 (N), pathP p (X2 a (N a)), pathP q (PV.zero.begin)]) (i := 3) (j := 1) (s := (X1, upd N 1 (1 + 1))) H0 (by decide) (by simp) (by simp) ⟨PV.begin_ok PV.ok_zero, fun z hz => word_a H0 (i := 1) rfl hz⟩ (by decide) (by decide) (by omega) (cl_begin hN0 hN1 (by omega)) rfl).mono ?_
  rintro e w10 ⟨rfl, c3, hc10, h⟩
  replace h : Aparts w w10 [boxP B 73 [.int .i64 xa, .int .i64 xb, .int .u64 v, .bool wr], memP b c3 (upd N 1 (1 + 1)), pathP p (X2 a (N a)), pathP q (X1)] := h
  clear H0; have H0 := h; clear h
  have hwas : (X2 a (N a)).val = N a := rfl
  have hK0 : upd N 1 (1 + 1) 0 = 6 := by rw [upd_other _ _ (by decide), hN0]
  have hK1 : upd N 1 (1 + 1) 1 = 2 := by rw [upd_same]; rfl
  generalize upd N 1 (1 + 1) = K at *
  generalize N a = y at *
  have hc := (box_a H0 (i := 0) rfl).cell (i := 2) rfl
  go_wp2_with (fail)
  refine (store_a H0 (i := 3) rfl a v HA.out HV.out rfl).mono ?_
  rintro e w11 ⟨rfl, h⟩
  replace h : Aparts w w11 [boxP B 73 [.int .i64 xa, .int .i64 xb, .int .u64 v, .bool wr], memP b c3 (K), pathP p (X2 a y), pathP q (X1.store a v)] := h
  clear H0; have H0 := h; clear h
  clear hc
  go_wp2_with (fail)
  refine (commit_a H0 (i := 3) rfl rfl).mono ?_
  rintro e w12 ⟨rfl, h⟩
  replace h : Aparts w w12 [boxP B 73 [.int .i64 xa, .int .i64 xb, .int .u64 v, .bool wr], memP b c3 (K), pathP p (X2 a y), pathP q ((X1.store a v).commit)] := h
  clear H0; have H0 := h; clear h
  go_wp2_with (fail)
  refine (finish_f (l := [boxP B 73 [.int .i64 xa, .int .i64 xb, .int .u64 v, .bool wr], memP b c3 (K), pathP p (X2 a y), pathP q ((X1.store a v).commit)]) (i := 3) (j := 1) (s := (Y3 a v, upd (upd (upd (upd K 0 7) a v) 0 8) 1 1)) H0 (by decide) (by simp) (by simp) ⟨PV.commit_ok (PV.store_ok X1_ok HA.out HV.out), fun z hz => word_a H0 (i := 1) rfl hz⟩ (by rw [PV.commit_pts, PV.store_pts]; decide) (by rw [PV.commit_pts, PV.store_pts]; decide) (by omega) (cl_commit hK0 hK1 h8) rfl).mono ?_
  rintro e w13 ⟨rfl, c4, hc13, h⟩
  replace h : Aparts w w13 [boxP B 73 [.int .i64 xa, .int .i64 xb, .int .u64 v, .bool wr], memP b c4 (upd (upd (upd (upd K 0 7) a v) 0 8) 1 1), pathP p (X2 a y), pathP q (Y3 a v)] := h
  clear H0; have H0 := h; clear h
  have hE0 : upd (upd (upd (upd K 0 7) a v) 0 8) 1 1 0 = 8 := by simp [upd]
  have hE1 : upd (upd (upd (upd K 0 7) a v) 0 8) 1 1 1 = 1 := by simp [upd]
  have hEa : upd (upd (upd (upd K 0 7) a v) 0 8) 1 1 a = v := by
    have e1 : a ≠ 0 := by omega
    have e2 : a ≠ 1 := by omega
    simp [upd, e1, e2]
  generalize upd (upd (upd (upd K 0 7) a v) 0 8) 1 1 = E at *
  have hc := (box_a H0 (i := 0) rfl).cell (i := 2) rfl
  have hc3 := (box_a H0 (i := 0) rfl).cell (i := 3) rfl
  have HM := mem_a (j := 1) H0 rfl
  have hhad := word_a H0 (i := 1) rfl HA2.out
  go_wp2_with (first | (go_at_call 20; refine (ended_a H0 (i := 3) rfl).mono ?_; rintro e w' ⟨rfl, rfl⟩) | (at_lookup; refine wpList_mm_wanted (by rfl) _ _ rfl b _ E _ rfl rfl HM HA.out ?_) | (at_lookup; refine wpList_mm_wanted (by rfl) _ _ rfl b _ E _ rfl rfl HM (i64_lit (n := 0) (by omega)) ?_) | (at_lookup; refine wpList_mm_wanted (by rfl) _ _ rfl b _ E _ rfl rfl HM HA2.out ?_) | fail)
  all_goals clear hc
  · clear hc3 HM
    have hwr : W64 (IntKind.u64.wrap (E a2 + 1)) := w64_wrap _
    refine (store_a H0 (i := 2) rfl a2 (IntKind.u64.wrap (E a2 + 1)) HA2.out hwr rfl).mono ?_
    rintro e w14 ⟨rfl, h⟩
    replace h : Aparts w w14 [boxP B 73 [.int .i64 xa, .int .i64 xb, .int .u64 v, .bool wr], memP b c4 (E), pathP p ((X2 a y).store a2 (IntKind.u64.wrap (E a2 + 1))), pathP q (Y3 a v)] := h
    clear H0; have H0 := h; clear h
    go_wp2_with (fail)
    refine (commit_a H0 (i := 2) rfl rfl).mono ?_
    rintro e w15 ⟨rfl, h⟩
    replace h : Aparts w w15 [boxP B 73 [.int .i64 xa, .int .i64 xb, .int .u64 v, .bool wr], memP b c4 (E), pathP p (((X2 a y).store a2 (IntKind.u64.wrap (E a2 + 1))).commit), pathP q (Y3 a v)] := h
    clear H0; have H0 := h; clear h
    go_wp2_with (fail)
    by_cases hyv : y = v
    · obtain ⟨z, F, hz, hz1, hz2, hF2, hF0, hF1⟩ := cl_store_on (M := E) (a := a) (b := a2) (y := y) (v := IntKind.u64.wrap (E a2 + 1)) hE0 hE1 (by rw [hEa, hyv]) h82
      refine (finish_f (l := [boxP B 73 [.int .i64 xa, .int .i64 xb, .int .u64 v, .bool wr], memP b c4 (E), pathP p (((X2 a y).store a2 (IntKind.u64.wrap (E a2 + 1))).commit), pathP q (Y3 a v)]) (i := 2) (j := 1) (s := (z, F)) H0 (by decide) (by simp) (by simp) ⟨PV.commit_ok (PV.store_ok (X2_ok HA.out hw) HA2.out hwr), fun z hz => word_a H0 (i := 1) rfl hz⟩ (by rw [PV.commit_pts, PV.store_pts]; simp [X2]) (by rw [PV.commit_pts, PV.store_pts]; simp [X2]) (by omega) hz (by simp [PV.busy, hz1])).mono ?_
      rintro e w16 ⟨rfl, c5, hc16, h⟩
      replace h : Aparts w w16 [boxP B 73 [.int .i64 xa, .int .i64 xb, .int .u64 v, .bool wr], memP b c5 (F), pathP p (z), pathP q (Y3 a v)] := h
      clear H0; have H0 := h; clear h
      clear hz
      have hd : (y == v) = true := by simpa using hyv
      have HM := mem_a (j := 1) H0 rfl
      have hc := (box_a H0 (i := 0) rfl).cell (i := 2) rfl
      have hc3 := (box_a H0 (i := 0) rfl).cell (i := 3) rfl
      clear hyv
      go_wp2_with (first | (go_at_call 20; refine (ended_a H0 (i := 2) rfl).mono ?_; rintro e w' ⟨rfl, rfl⟩) | (go_at_call 24; refine (live_a H0 (i := 2) rfl).mono ?_; rintro e w' ⟨rfl, rfl⟩) | (go_at_call 25; refine (value_a H0 (i := 2) rfl).mono ?_; rintro e w' ⟨rfl, rfl⟩) | (at_lookup; refine wpList_mm_wanted (by rfl) _ _ rfl b _ (F) _ rfl rfl HM HA2.out ?_) | (at_lookup; refine wpList_mm_wanted (by rfl) _ _ rfl b _ (F) _ rfl rfl HM (i64_lit (n := 0) (by omega)) ?_) | (at_lookup; refine wpList_mm_wanted (by rfl) _ _ rfl b _ (F) _ rfl rfl HM (i64_lit (n := 1) (by omega)) ?_) | fail)
      go_ret
      exact ⟨by simp, H0.below⟩
    · refine (finish_f (l := [boxP B 73 [.int .i64 xa, .int .i64 xb, .int .u64 v, .bool wr], memP b c4 (E), pathP p (((X2 a y).store a2 (IntKind.u64.wrap (E a2 + 1))).commit), pathP q (Y3 a v)]) (i := 2) (j := 1) (s := ({ X2 a y with log := ⟨[⟨a, y⟩], [⟨a2, IntKind.u64.wrap (E a2 + 1)⟩]⟩, live := false, ended := 2 }, upd E 1 0)) H0 (by decide) (by simp) (by simp) ⟨PV.commit_ok (PV.store_ok (X2_ok HA.out hw) HA2.out hwr), fun z hz => word_a H0 (i := 1) rfl hz⟩ (by rw [PV.commit_pts, PV.store_pts]; simp [X2]) (by rw [PV.commit_pts, PV.store_pts]; simp [X2]) (by omega) (cl_store_off hE0 hE1 (by rw [hEa]; exact fun e => hyv e.symm) h82) rfl).mono ?_
      rintro e w17 ⟨rfl, c5, hc17, h⟩
      replace h : Aparts w w17 [boxP B 73 [.int .i64 xa, .int .i64 xb, .int .u64 v, .bool wr], memP b c5 (upd E 1 0), pathP p ({ X2 a y with log := ⟨[⟨a, y⟩], [⟨a2, IntKind.u64.wrap (E a2 + 1)⟩]⟩, live := false, ended := 2 }), pathP q (Y3 a v)] := h
      clear H0; have H0 := h; clear h
      have hF2 : upd E 1 0 a2 = E a2 := upd_other _ _ (by omega)
      have hF0 : upd E 1 0 0 = 8 := by rw [upd_other _ _ (by decide), hE0]
      have hF1 : upd E 1 0 1 = 0 := upd_same _ _ _
      generalize upd E 1 0 = F at *
      have hd : (y == v) = false := by simpa using hyv
      have HM := mem_a (j := 1) H0 rfl
      have hc := (box_a H0 (i := 0) rfl).cell (i := 2) rfl
      have hc3 := (box_a H0 (i := 0) rfl).cell (i := 3) rfl
      clear hyv
      go_wp2_with (first | (go_at_call 20; refine (ended_a H0 (i := 2) rfl).mono ?_; rintro e w' ⟨rfl, rfl⟩) | (go_at_call 24; refine (live_a H0 (i := 2) rfl).mono ?_; rintro e w' ⟨rfl, rfl⟩) | (go_at_call 25; refine (value_a H0 (i := 2) rfl).mono ?_; rintro e w' ⟨rfl, rfl⟩) | (at_lookup; refine wpList_mm_wanted (by rfl) _ _ rfl b _ (F) _ rfl rfl HM HA2.out ?_) | (at_lookup; refine wpList_mm_wanted (by rfl) _ _ rfl b _ (F) _ rfl rfl HM (i64_lit (n := 0) (by omega)) ?_) | (at_lookup; refine wpList_mm_wanted (by rfl) _ _ rfl b _ (F) _ rfl rfl HM (i64_lit (n := 1) (by omega)) ?_) | fail)
      go_ret
      exact ⟨by simp, H0.below⟩
  · clear hc3 HM
    refine (load_a H0 (i := 2) rfl a2 HA2.out rfl).mono ?_
    rintro e w14 ⟨rfl, h⟩
    replace h : Aparts w w14 [boxP B 73 [.int .i64 xa, .int .i64 xb, .int .u64 v, .bool wr], memP b c4 (E), pathP p ((X2 a y).load a2), pathP q (Y3 a v)] := h
    clear H0; have H0 := h; clear h
    go_wp2_with (fail)
    by_cases hyv : y = v
    · obtain ⟨z, hz, hz1, hz2, hz3⟩ := cl_load_on (M := E) (a := a) (b := a2) (y := y) hE0 (by rw [hEa, hyv]) h82
      refine (finish_f (l := [boxP B 73 [.int .i64 xa, .int .i64 xb, .int .u64 v, .bool wr], memP b c4 (E), pathP p ((X2 a y).load a2), pathP q (Y3 a v)]) (i := 2) (j := 1) (s := (z, E)) H0 (by decide) (by simp) (by simp) ⟨PV.load_ok (X2_ok HA.out hw) HA2.out, fun z hz => word_a H0 (i := 1) rfl hz⟩ (by rw [PV.load_pts]; simp [X2]) (by rw [PV.load_pts]; simp [X2]) (by omega) hz (by simp [PV.busy, hz1])).mono ?_
      rintro e w15 ⟨rfl, c5, hc15, h⟩
      replace h : Aparts w w15 [boxP B 73 [.int .i64 xa, .int .i64 xb, .int .u64 v, .bool wr], memP b c5 (E), pathP p (z), pathP q (Y3 a v)] := h
      clear H0; have H0 := h; clear h
      clear hz
      have hd : (y == v) = true := by simpa using hyv
      have HM := mem_a (j := 1) H0 rfl
      have hc := (box_a H0 (i := 0) rfl).cell (i := 2) rfl
      have hc3 := (box_a H0 (i := 0) rfl).cell (i := 3) rfl
      clear hyv
      go_wp2_with (first | (go_at_call 20; refine (ended_a H0 (i := 2) rfl).mono ?_; rintro e w' ⟨rfl, rfl⟩) | (go_at_call 24; refine (live_a H0 (i := 2) rfl).mono ?_; rintro e w' ⟨rfl, rfl⟩) | (go_at_call 25; refine (value_a H0 (i := 2) rfl).mono ?_; rintro e w' ⟨rfl, rfl⟩) | (at_lookup; refine wpList_mm_wanted (by rfl) _ _ rfl b _ (E) _ rfl rfl HM HA2.out ?_) | (at_lookup; refine wpList_mm_wanted (by rfl) _ _ rfl b _ (E) _ rfl rfl HM (i64_lit (n := 0) (by omega)) ?_) | (at_lookup; refine wpList_mm_wanted (by rfl) _ _ rfl b _ (E) _ rfl rfl HM (i64_lit (n := 1) (by omega)) ?_) | fail)
      go_ret
      exact ⟨by simp, H0.below⟩
    · refine (finish_f (l := [boxP B 73 [.int .i64 xa, .int .i64 xb, .int .u64 v, .bool wr], memP b c4 (E), pathP p ((X2 a y).load a2), pathP q (Y3 a v)]) (i := 2) (j := 1) (s := ({ X2 a y with live := false, ended := 2 }, upd E 1 0)) H0 (by decide) (by simp) (by simp) ⟨PV.load_ok (X2_ok HA.out hw) HA2.out, fun z hz => word_a H0 (i := 1) rfl hz⟩ (by rw [PV.load_pts]; simp [X2]) (by rw [PV.load_pts]; simp [X2]) (by omega) (cl_load_off hE0 hE1 (by rw [hEa]; exact fun e => hyv e.symm) h82) rfl).mono ?_
      rintro e w16 ⟨rfl, c5, hc16, h⟩
      replace h : Aparts w w16 [boxP B 73 [.int .i64 xa, .int .i64 xb, .int .u64 v, .bool wr], memP b c5 (upd E 1 0), pathP p ({ X2 a y with live := false, ended := 2 }), pathP q (Y3 a v)] := h
      clear H0; have H0 := h; clear h
      have hF2 : upd E 1 0 a2 = E a2 := upd_other _ _ (by omega)
      have hF0 : upd E 1 0 0 = 8 := by rw [upd_other _ _ (by decide), hE0]
      have hF1 : upd E 1 0 1 = 0 := upd_same _ _ _
      generalize upd E 1 0 = F at *
      have hd : (y == v) = false := by simpa using hyv
      have HM := mem_a (j := 1) H0 rfl
      have hc := (box_a H0 (i := 0) rfl).cell (i := 2) rfl
      have hc3 := (box_a H0 (i := 0) rfl).cell (i := 3) rfl
      clear hyv
      go_wp2_with (first | (go_at_call 20; refine (ended_a H0 (i := 2) rfl).mono ?_; rintro e w' ⟨rfl, rfl⟩) | (go_at_call 24; refine (live_a H0 (i := 2) rfl).mono ?_; rintro e w' ⟨rfl, rfl⟩) | (go_at_call 25; refine (value_a H0 (i := 2) rfl).mono ?_; rintro e w' ⟨rfl, rfl⟩) | (at_lookup; refine wpList_mm_wanted (by rfl) _ _ rfl b _ (F) _ rfl rfl HM HA2.out ?_) | (at_lookup; refine wpList_mm_wanted (by rfl) _ _ rfl b _ (F) _ rfl rfl HM (i64_lit (n := 0) (by omega)) ?_) | (at_lookup; refine wpList_mm_wanted (by rfl) _ _ rfl b _ (F) _ rfl rfl HM (i64_lit (n := 1) (by omega)) ?_) | fail)
      go_ret
      exact ⟨by simp, H0.below⟩

set_option maxRecDepth 100000 in
set_option maxHeartbeats 1000000 in
theorem sclash_long (ad : Option Addr) (n cap : Nat) (xa xb v : Int) (wr : Bool) (w : World) (hl : 100 < n) :
    Calls Try.prog 8 #[.slice ad n cap, .agg #[.int .i64 xa, .int .i64 xb, .int .u64 v, .bool wr]] w fun e w' => e = .returned (.bool true) ∧ Below w.heap.size w w' := by
  have d0 : decide ((100 : Int) < (n : Int)) = true := by simp; omega
  have hb0 : Below w.heap.size w (w.alloc (.cells #[.int .i64 xa, .int .i64 xb, .int .u64 v, .bool wr] 73)) := (Below.refl _ w).alloc (Nat.le_refl _) _
  have HB0 := Lib.hid hb0
  have HL := Lib.hid (alive_ok (w.alloc (.cells #[.int .i64 xa, .int .i64 xb, .int .u64 v, .bool wr] 73)))
  clear hb0
  go_enter Try.func8, Try.ntmps8
  go_wp2_with (go_at_call 30; refine HL.out.mono ?_; rintro e w0 ⟨rfl, hb⟩; have HB := Lib.hid (HB0.out.trans (hb.mono HB0.out.size)); clear hb)
  go_ret
  exact ⟨rfl, HB.out⟩
def clashKinds : List CK := [⟨0, .i64⟩, ⟨0, .i64⟩, ⟨0, .u64⟩, ⟨1, .i8⟩]
theorem clash_of {cs : Array Value} (h : Fit clashKinds cs.toList) : ∃ (a b v : Int) (r : Bool), cs = #[.int .i64 a, .int .i64 b, .int .u64 v, .bool r] ∧ I64 a ∧ I64 b ∧ W64 v := by
  obtain ⟨l⟩ := cs
  have h1 := h.1
  have h2 := h.2
  match l, h1 with
  | [c0, c1, c2, c3], _ =>
    obtain ⟨x0, rfl, w0⟩ := h2 0 _ _ rfl rfl
    obtain ⟨x1, rfl, w1⟩ := h2 1 _ _ rfl rfl
    obtain ⟨x2, rfl, w2⟩ := h2 2 _ _ rfl rfl
    obtain ⟨x3, rfl⟩ := h2 3 _ _ rfl rfl
    exact ⟨x0, x1, x2, x3, rfl, w0, w1, w2⟩
theorem sclash_any (ad : Option Addr) (n cap : Nat) (xa xb v : Int) (wr : Bool) (w : World) (hx : Came w ad n wordKinds) (ha : I64 xa) (hb : I64 xb) (hv : W64 v) :
    Calls Try.prog 8 #[.slice ad n cap, .agg #[.int .i64 xa, .int .i64 xb, .int .u64 v, .bool wr]] w fun e w' => e = .returned (.bool true) ∧ Below w.heap.size w w' := by
  by_cases hl : 100 < n
  · exact sclash_long ad n cap xa xb v wr w hl
  · obtain ⟨ws, rfl, h1, h2⟩ := words_in hx
    exact sclash_ok ad ws cap xa xb v wr w h1 h2 (by omega) ha hb hv

end Go.Proofs.Ytjdmbiljaoiphaa
