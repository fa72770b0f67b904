/- SoftNames: the walk. Conditions: those stated in each theorem. -/
import Derived.Test.YtjdmbiljaoiphaaSoftO
import Derived.Maps.AppendAt
namespace Go.Proofs.Ytjdmbiljaoiphaa
open Go.RowKit Go.BigFrame Go.Maps Go.ChangeMaps

theorem info_parts' {i : Option TypeInfo} {z : Option Value} {s b : Nat} (h : i.map (fun i => (i.zero, i.size, i.bytes)) = some (z, s, b)) : ∃ j, i = some j ∧ j.zero = z ∧ j.size = s ∧ j.bytes = b := by
  cases i with
  | none => cases h
  | some j => simp at h; exact ⟨j, rfl, h.1, h.2.1, h.2.2⟩
/-- A part is turned, whatever it becomes. -/
theorem Aparts.turnA {w0 w : World} {l : List Part} {i : Nat} {P : Part} (h : Aparts w0 w l) (hi : l[i]? = some P) : ∃ T, P.at_ w T ∧ ∀ (P' : Part) (w' : World), P'.out w T w' → Aparts w0 w' (l.set i P') := by
  obtain ⟨⟨o, h1, h2⟩, h3⟩ := id h
  refine ⟨fun k => o k = some i, h2 i P hi, fun P' w' k => ?_⟩
  have h' : Aparts w0 w l := h
  obtain ⟨k1, k2⟩ := k
  refine ⟨⟨fun k => if w.heap.size ≤ k ∧ k < w'.heap.size then some i else o k, fun k j e => ?_, fun j Q hj => ?_⟩, h3.trans (k2.below h3.size (fun k e => (h1 k i e).1))⟩
  · have hz := k2.size
    have hz0 := h3.size
    dsimp only at e
    split at e
    · rename_i hk
      exact ⟨Nat.le_trans hz0 hk.1, hk.2⟩
    · exact ⟨(h1 k j e).1, Nat.lt_of_lt_of_le (h1 k j e).2 hz⟩
  · rw [List.getElem?_set] at hj
    split at hj
    · rename_i hij
      subst hij
      split at hj
      · cases hj
        refine P'.more k1 (fun k hk e => ?_)
        rcases e with e | e
        · have := (h1 k i e).2
          dsimp only; rw [if_neg (by omega)]; exact e
        · dsimp only; rw [if_pos e]
      · cases hj
    · rename_i hij
      refine Q.more (Q.frame (h2 j Q hj) k2 (fun k e e2 => ?_)) (fun k hk e => ?_)
      · rw [e] at e2; cases e2; exact hij rfl
      · have := (h1 k j e).2
        dsimp only; rw [if_neg (by omega)]; exact e
/-- A row grows. -/
theorem row_grown {w0 w w' : World} {l : List Part} {i : Nat} {v v' : Value} {xs : List Int} {y : Int} (h : Aparts w0 w l) (hi : l[i]? = some (rowP v xs)) (ho : w'.ownsRow 0 3 1 v' (xs.length + 1) (xs.map (Value.int .i64) ++ [.int .i64 y])) (hg : w.grownBy w' v.ownBlock) (ha : v'.ownBlock = v.ownBlock ∨ v'.ownBlock = some w.heap.size) : Aparts w0 w' (l.set i (rowP v' (xs ++ [y]))) := by
  obtain ⟨T, h1, h2⟩ := h.turnA hi
  refine h2 _ w' ⟨⟨by rw [List.length_append, List.map_append]; exact ho, fun g e => ?_⟩, (Tch.refl T w).grown hg (fun k e => .inl (h1.2 k e))⟩
  rcases ha with ha | ha
  · exact .inl (h1.2 g (ha ▸ e))
  · rw [e] at ha; cases ha
    exact .inr ⟨Nat.le_refl _, (owns_lt ho e).2⟩
theorem row_a {w0 w : World} {l : List Part} {i : Nat} {v : Value} {xs : List Int} (h : Aparts w0 w l) (hi : l[i]? = some (rowP v xs)) : w.ownsRow 0 3 1 v xs.length (xs.map (Value.int .i64)) := by
  obtain ⟨T, h1, -⟩ := h.get hi
  exact h1.1
theorem put_a {w0 w : World} {l l' : List Part} {i b c : Nat} {m : Int → Int} (h : Aparts w0 w l) (hi : l[i]? = some (memP b c m)) (a v : Int) (hl : l.set i (memP b (c + 1) (upd m a v)) = l') : MmAt w b c m ∧ ∀ w', MmAt w' b (c + 1) (upd m a v) → Tch (· = b) w w' → Aparts w0 w' l' := by
  obtain ⟨T, h1, h2⟩ := h.turn hi hl
  exact ⟨h1.2, fun w' k1 k2 => h2 w' ⟨⟨.inl h1.1, k1⟩, k2.mono (fun k _ e => by subst e; exact h1.1)⟩⟩

set_option maxRecDepth 100000 in
set_option maxHeartbeats 8000000 in
theorem snames_ok (w : World) : Calls Try.prog 5 #[] w fun e w' => e = .returned (.bool true) ∧ Below w.heap.size w w' := by
  have hmm := @run_makeMap Try.prog
  have HN := Lib.hid (new_a (Aparts.nil w))
  go_enter Try.func5, Try.ntmps5
  go_wp2_with (first | (go_at_call 10; refine HN.out.mono ?_; rintro e w1 ⟨p, rfl, h⟩; have H := Lib.hid h; have HM := Lib.hid (MmAt.made w1); have HT := Lib.hid ((Below.refl w1.heap.size w1).alloc (Nat.le_refl _) (.map #[] 0)); clear h) | (refine wpList_mput rfl _ _ _ (.inr rfl) _ _ _ _ _ rfl rfl rfl HM.out (i64_lit (by omega)) (w64_lit (by omega)) (by omega) ?_; intro w2 h2 ht2; have HM := Lib.hid h2; have HT := Lib.hid (HT.out.trans (ht2.below HT.out.size (fun k e => by omega))); clear h2 ht2) | fail)
  have H0 : Aparts w w2 [pathP p PV.zero, memP w1.heap.size 2 m0] := H.out.push HT.out ⟨⟨Nat.le_refl _, HM.out.lt⟩, HM.out⟩
  have hbw := HM.out.lt
  generalize w1.heap.size = b at *
  clear H HM HT
  refine (load_r H0 (i := 0) rfl 9 (i64_lit (by omega)) (r := 80) rfl (by decide)).mono ?_
  rintro e w3 ⟨rfl, h⟩
  replace h : Aparts w w3 [pathP p (PV.zero), memP b 2 m0] := h
  clear H0; have H0 := h; clear h
  go_wp2_with (fail)
  refine (give_r H0 (i := 0) rfl (by decide) (by decide) 0 true w64_0 rfl).mono ?_
  rintro e w4 ⟨rfl, h⟩
  replace h : Aparts w w4 [pathP p (PV.zero), memP b 2 m0] := h
  clear H0; have H0 := h; clear h
  go_wp2_with (fail)
  refine (begin_a H0 (i := 0) rfl rfl).mono ?_
  rintro e w5 ⟨rfl, h⟩
  replace h : Aparts w w5 [pathP p (PV.zero.begin), memP b 2 m0] := h
  clear H0; have H0 := h; clear h
  go_wp2_with (fail)
  refine (begin_r H0 (i := 0) rfl rfl).mono ?_
  rintro e w6 ⟨rfl, h⟩
  replace h : Aparts w w6 [pathP p (PV.zero.begin), memP b 2 m0] := h
  clear H0; have H0 := h; clear h
  go_wp2_with (fail)
  refine (finish_f (l := [pathP p (PV.zero.begin), memP b 2 m0]) (i := 0) (j := 1) (s := e1) H0 (by decide) (by simp) (by simp) ⟨PV.begin_ok PV.ok_zero, m0_ok⟩ (by decide) (by decide) (by omega) rfl (by rw [e1_x]; rfl)).mono ?_
  rintro e w7 ⟨rfl, c1, hc7, h⟩
  replace h : Aparts w w7 [pathP p (e1.1), memP b c1 e1.2] := h
  rw [e1_x] at h
  clear H0; have H0 := h; clear h
  go_wp2_with (fail)
  refine (load_r H0 (i := 0) rfl 7 (i64_lit (by omega)) (r := 2) rfl (by decide)).mono ?_
  rintro e w8 ⟨rfl, h⟩
  replace h : Aparts w w8 [pathP p (⟨.no, 4, 0, 1, true, false, 0, Lg.zero⟩), memP b c1 e1.2] := h
  clear H0; have H0 := h; clear h
  go_wp2_with (fail)
  refine (store_r H0 (i := 0) rfl (-1) 0 (i64_lit (by omega)) w64_0 (r := 2) rfl (by decide)).mono ?_
  rintro e w9 ⟨rfl, h⟩
  replace h : Aparts w w9 [pathP p (⟨.no, 4, 0, 1, true, false, 0, Lg.zero⟩), memP b c1 e1.2] := h
  clear H0; have H0 := h; clear h
  go_wp2_with (fail)
  refine (load_a H0 (i := 0) rfl 9 (i64_lit (by omega)) rfl).mono ?_
  rintro e w10 ⟨rfl, h⟩
  replace h : Aparts w w10 [pathP p (PV.load ⟨.no, 4, 0, 1, true, false, 0, Lg.zero⟩ 9), memP b c1 e1.2] := h
  clear H0; have H0 := h; clear h
  go_wp2_with (fail)
  refine (finish_f (l := [pathP p (PV.load ⟨.no, 4, 0, 1, true, false, 0, Lg.zero⟩ 9), memP b c1 e1.2]) (i := 0) (j := 1) (s := e2) H0 (by decide) (by simp) (by simp) ⟨by rw [← e1_x]; exact PV.load_ok e1_ok.1 (i64_lit (n := 9) (by omega)), e1_ok.2⟩ (by decide) (by decide) (by omega) (by unfold e2; rw [e1_x]) (by rw [e2_x]; rfl)).mono ?_
  rintro e w11 ⟨rfl, c2, hc11, h⟩
  replace h : Aparts w w11 [pathP p (e2.1), memP b c2 e2.2] := h
  rw [e2_x] at h
  clear H0; have H0 := h; clear h
  obtain ⟨hm, hput⟩ := put_a H0 (i := 1) rfl 0 6 rfl
  have HM := Lib.hid hm
  have HP := Lib.hid hput
  clear hm hput H0
  go_wp2_with (first | (refine wpList_mput rfl _ _ _ (.inl rfl) _ _ _ 0 6 rfl rfl rfl HM.out (i64_lit (by omega)) (w64_lit (by omega)) (by omega) ?_; intro wa ha hta; have H0 := HP.out wa ha hta; clear ha hta; obtain ⟨hm, hput⟩ := put_a H0 (i := 1) rfl 9 8 rfl; have HM2 := Lib.hid hm; have HP2 := Lib.hid hput; clear hm hput H0) | (refine wpList_mput rfl _ _ _ (.inl rfl) _ _ _ 9 8 rfl rfl rfl HM2.out (i64_lit (by omega)) (w64_lit (by omega)) (by omega) ?_; intro wb hb0 hta; have H0 := HP2.out wb hb0 hta; clear hb0 hta) | fail)
  replace H0 : Aparts w wb [pathP p (⟨.no, 4, 5, 2, true, false, 0, ⟨[⟨9, 5⟩], []⟩⟩), memP b (c2 + 1 + 1) mE] := H0
  refine (load_a H0 (i := 0) rfl 10 (i64_lit (by omega)) rfl).mono ?_
  rintro e w21 ⟨rfl, h⟩
  replace h : Aparts w w21 [pathP p (PV.load ⟨.no, 4, 5, 2, true, false, 0, ⟨[⟨9, 5⟩], []⟩⟩ 10), memP b (c2 + 1 + 1) mE] := h
  clear H0; have H0 := h; clear h
  replace H0 : Aparts w w21 [pathP p (rr 0).1, memP b (c2 + 1 + 1) (rr 0).2] := by rw [← e2_x] at H0; exact H0
  have HL0 : ∃ c : Nat, c ≤ 7000 ∧ Aparts w w21 [pathP p (rr 0).1, memP b c (rr 0).2, rowP (.slice none 0 0) (AL.take 0)] := ⟨_, by omega, H0.push (Below.refl _ _) ⟨World.ownsRow_nil _ _ _ _, fun g e => by cases e⟩⟩
  have HL := Lib.hid HL0
  clear H0 HL0
  go_wp2
  go_loopw [8, 9] (fun v i wr => ∃ k : Nat, k ≤ 6 ∧ i = .int .i64 k ∧ ∃ c : Nat, c ≤ 7000 + k ∧ Aparts w wr [pathP p (rr k).1, memP b c (rr k).2, rowP v (AL.take k)]) (fun _ i _ => 6 - (intOf i).toNat)
  case atStart => exact ⟨0, by omega, rfl, HL.out⟩
  case round =>
    obtain ⟨k, hk, rfl, c, hc, hs⟩ := hrel
    have HS := Lib.hid hs; clear hs HL
    have hp := rr_pts k
    have hko := rr_ok k
    have hR : rr (k + 1) = stepV (rr k) := rfl
    have HRx := Lib.hid hR; clear hR
    by_cases hlt : k < 6
    · have ha := rr_addr k hlt
      have hT : AL.take (k + 1) = AL.take k ++ [(rr k).1.req.addr] := by
        rw [ha]
        match k, hlt with
        | 0, _ => rfl | 1, _ => rfl | 2, _ => rfl | 3, _ => rfl | 4, _ => rfl | 5, _ => rfl
        | n + 6, h => omega
      have HTk := Lib.hid hT; clear hT ha
      generalize hz : rr k = z at *
      clear hz
      obtain ⟨y, m⟩ := z
      simp only at *
      have hr := PV.req_ok hko.1
      have hww := hko.2 _ hr.1
      have HW := Lib.hid (want_a HS.out (i := 0) rfl)
      simp only [Rq.cells] at HW
      have hlen : (AL.take k).length = k := by
        rw [List.length_take]; show min k 6 = k; omega
      obtain ⟨i0, hi0, hz0, hz1, hz2⟩ := info_parts' Try.infoInt
      have Hi := Lib.hid hi0; clear hi0
      have Hz0 := Lib.hid hz0; clear hz0
      have Hz1 := Lib.hid hz1; clear hz1
      have Hz2 := Lib.hid hz2; clear hz2
      generalize AL.take k = ys at *
      subst hlen
      have HBx : Hid (∀ w2, Aparts w w2 [pathP p y, memP b c m, rowP u8 ys] → Aparts w ((w2.alloc (.cells #[.int .i64 y.req.op, .int .i64 y.req.addr, .int .u64 y.req.value, .int .u64 y.req.old] 48)).alloc (.cells #[.int .i64 y.req.addr] 3)) [pathP p y, memP b c m, rowP u8 ys, boxP w2.heap.size 48 y.req.cells]) := Lib.hid (fun w2 h2 => (h2.box 48 y.req.cells).idle ((Below.refl _ _).alloc (Nat.le_refl _) _))
      go_wp2_with (first | (go_at_call 18; refine HW.out.mono ?_; rintro e w2 ⟨rfl, h2⟩; have H2 := Lib.hid (HBx.out w2 h2); have HR2 := Lib.hid (row_a H2.out (i := 2) rfl); clear h2) | (at_builtin; refine wpList_append_own_at _ rfl _ _ 46 rfl 0 3 i0 (.int .i64 0) 1 8 Try.underlying46 Hi.out Hz0.out Hz1.out Hz2.out rfl (by omega) u8 ys.length (ys.map (Value.int .i64)) rfl HR2.out ⟨w2.heap.size + 1, 0, none⟩ 1 1 [.int .i64 y.req.addr] rfl rfl (World.news_of_block (t := 3) (fr := (0, 0)) (by have := new_block (w2.alloc (.cells #[.int .i64 y.req.op, .int .i64 y.req.addr, .int .u64 y.req.value, .int .u64 y.req.old] 48)) (.cells #[.int .i64 y.req.addr] 3); rwa [World.size_alloc] at this)) (by simp [Value.oneCell']) (by unfold maxLen; omega) (by omega) (by omega) ?_; intro v' w5 hown5 hgrow5 hnil5 hat5; have h5 := row_grown H2.out (i := 2) rfl hown5 hgrow5 hat5; have hb5 := box_a h5 (i := 3) rfl; have q0 := hb5.cell (i := 0) rfl; have q1 := hb5.cell (i := 1) rfl; have q2 := hb5.cell (i := 2) rfl; have q3 := hb5.cell (i := 3) rfl; have H5 : Hid (Aparts w w5 [pathP p y, memP b c m, rowP v' (ys ++ [y.req.addr])]) := Lib.hid (Aparts.init (l := [pathP p y, memP b c m, rowP v' (ys ++ [y.req.addr])]) h5); clear hown5 hgrow5 hnil5 hat5 h5 hb5) | (go_at_call 19; refine (answer_a H5.out (i := 1) rfl (by omega) y.req hr.1 hr.2.1 rfl).mono ?_; rintro e w6 ⟨rfl, h6⟩; have H6 := Lib.hid h6; clear h6) | (go_at_call 14; refine (give_a H6.out (i := 0) rfl (by omega) (by omega) _ _ hww rfl).mono ?_; rintro e w7 ⟨rfl, h7⟩; have H7 := Lib.hid h7; clear h7))
      go_roundw
      case rel => exact ⟨ys.length + 1, by omega, by go_num, c + 1, by omega, by rw [HRx.out, HTk.out]; exact H7.out⟩
      case measure => simp [intOf]; omega
    · have hk6 : k = 6 := by omega
      subst hk6
      clear hlt hko hp HRx
      have H0 := HS.out
      rw [rr_end] at H0
      have hrow := row_a H0 (i := 2) rfl
      obtain ⟨g, cap, rfl, -, -⟩ := hrow.form (show 0 < (AL.take 6).length by decide)
      have k0 := (owns_cell hrow (g := g) rfl (j := 0) (u := .int .i64 10) rfl).1
      have k1 := (owns_cell hrow (g := g) rfl (j := 1) (u := .int .i64 0) rfl).1
      have k2 := (owns_cell hrow (g := g) rfl (j := 2) (u := .int .i64 0) rfl).1
      have k3 := (owns_cell hrow (g := g) rfl (j := 3) (u := .int .i64 9) rfl).1
      have k4 := (owns_cell hrow (g := g) rfl (j := 4) (u := .int .i64 1) rfl).1
      have k5 := (owns_cell hrow (g := g) rfl (j := 5) (u := .int .i64 1) rfl).1
      rw [show (AL.take 6).length = 6 from rfl] at *
      have HM := mem_a H0 (j := 1) rfl
      have e1 := rr_1
      have HP := Lib.hid H0
      clear H0 hrow HS
      go_wp2_with (first | (go_at_call 20; refine (ended_a HP.out (i := 0) rfl).mono ?_; rintro e w' ⟨rfl, rfl⟩) | (at_lookup; refine wpList_mm_wanted (by rfl) _ _ rfl b _ _ _ rfl rfl HM (i64_lit (by omega)) ?_) | (go_at_call 21; refine (commit_r HP.out (i := 0) rfl rfl).mono ?_; rintro e wc ⟨rfl, h⟩; have HP := Lib.hid h; clear h) | (go_at_call 22; refine (quit_r HP.out (i := 0) rfl rfl).mono ?_; rintro e wq ⟨rfl, h⟩; have HP := Lib.hid (h.box 57 zeroCells); clear h) | fail)
      clear HM e1
      refine (want_n (u := .pointer none) (fun V _ => pnone_nil)).mono ?_
      rintro e w9 ⟨rfl, hb9⟩
      have h9 := (HP.out.idle hb9).idle ((Below.refl _ w9).alloc (Nat.le_refl _) (.cells #[.int .i64 0, .int .i64 0, .int .u64 0, .int .u64 0] 48))
      have HZ := Lib.hid (bare_zero (box_a h9 (i := 3) rfl))
      have HAl := Lib.hid (alive_ok (w9.alloc (.cells #[.int .i64 0, .int .i64 0, .int .u64 0, .int .u64 0] 48)))
      have H9 := Lib.hid h9
      clear hb9 h9 k0 k1 k2 k3 k4 k5
      go_wp2_with (first | (go_at_call 15; refine (begin_n (u := .pointer none) pnone_nil).mono ?_; rintro e w' ⟨rfl, rfl⟩) | (go_at_call 13; refine (load_n HZ.out 7).mono ?_; rintro e w' ⟨rfl, rfl⟩) | (go_at_call 17; refine (store_n (u := .pointer none) pnone_nil 9 1).mono ?_; rintro e w' ⟨rfl, rfl⟩) | (go_at_call 21; refine (commit_n HZ.out).mono ?_; rintro e w' ⟨rfl, rfl⟩) | (go_at_call 22; refine (quit_n (u := .pointer none) pnone_nil).mono ?_; rintro e w' ⟨rfl, rfl⟩) | (go_at_call 14; refine (give_n HZ.out 0 true).mono ?_; rintro e w' ⟨rfl, rfl⟩) | (go_at_call 23; refine (busy_n (u := .pointer none) pnone_nil).mono ?_; rintro e w' ⟨rfl, rfl⟩) | (go_at_call 24; refine (live_n HZ.out).mono ?_; rintro e w' ⟨rfl, rfl⟩) | (go_at_call 25; refine (value_n (u := .pointer none) pnone_nil).mono ?_; rintro e w' ⟨rfl, rfl⟩) | (go_at_call 20; refine (ended_n HZ.out).mono ?_; rintro e w' ⟨rfl, rfl⟩) | (go_at_call 26; refine (points_n (u := .pointer none) pnone_nil).mono ?_; rintro e w' ⟨rfl, rfl⟩) | (go_at_call 27; refine (writing_n HZ.out).mono ?_; rintro e w' ⟨rfl, rfl⟩) | (go_at_call 28; refine (reads_n (u := .pointer none) pnone_nil).mono ?_; rintro e w' ⟨rfl, rfl⟩) | (go_at_call 29; refine (writes_n HZ.out).mono ?_; rintro e w' ⟨rfl, rfl⟩) | (go_at_call 30; refine HAl.out.mono ?_; rintro e wz ⟨rfl, hz⟩; have HE := Lib.hid (H9.out.below.trans (hz.mono H9.out.below.size)); clear hz))
      go_ret
      exact ⟨rfl, HE.out⟩

end Go.Proofs.Ytjdmbiljaoiphaa
