/- LogBroken. Conditions: those stated in each theorem. -/
import Derived.Test.YtfngfphoefpndaaLogMP
namespace Go.Proofs.Ytfngfphoefpndaa
open Go.RowKit Go.BigFrame Go.Maps

/-- The writes whose addresses were not read. -/
def othL (f : Lg) (k : Nat) : List Pr := (f.w.take k).filter fun y => !hasL f.r y.a
theorem othL_succ (f : Lg) {k : Nat} {x : Pr} (hx : f.w[k]? = some x) : othL f (k + 1) = othL f k ++ if hasL f.r x.a = false then [x] else [] := by
  unfold othL
  rw [tk_succ hx, List.filter_append]
  congr 1
  cases hh : hasL f.r x.a <;> simp [hh]
theorem othL_len (f : Lg) (k : Nat) : (othL f k).length ≤ f.w.length := Nat.le_trans (List.length_filter_le _ _) (by simp; omega)

theorem flatP_app (l m : List Pr) : flatP (l ++ m) = flatP l ++ flatP m := by simp [flatP]
theorem flatP_one (l : List Pr) : ∀ u ∈ flatP l, u.oneCell' = true := by
  intro u hu
  obtain ⟨x, _, hx⟩ := List.mem_flatMap.1 hu
  simp [Pr.cells] at hx
  rcases hx with rfl | rfl <;> simp [Value.oneCell']
theorem brk_oth (F : Lg) (k : Nat) : BrkAns F.r (othL F k) = .tuple #[.int .i64 0, .bool false] := by
  unfold BrkAns
  rw [broken_other (fun y hy => by simpa using (List.mem_filter.1 hy).2)]; rfl
theorem tmod_box (a : Int) {N : Nat} (h : 0 < N) : -(N : Int) < a.tmod N ∧ a.tmod N < N := by
  rcases Int.le_total 0 a with ha | ha
  · rw [Int.tmod_eq_emod_of_nonneg ha]
    have := Int.emod_nonneg a (show (N : Int) ≠ 0 by omega)
    have := Int.emod_lt_of_pos a (show (0 : Int) < N by omega)
    omega
  · obtain ⟨b, rfl⟩ : ∃ b, a = -b := ⟨-a, by omega⟩
    rw [Int.neg_tmod, Int.tmod_eq_emod_of_nonneg (by omega)]
    have := Int.emod_nonneg b (show (N : Int) ≠ 0 by omega)
    have := Int.emod_lt_of_pos b (show (0 : Int) < N by omega)
    omega
theorem wrapu_wf (n : Int) : (Lit.int .u64 (IntKind.u64.wrap n)).wf = true := by
  rw [IntKind.wrap_u64]
  simp [Lit.wf, IntKind.min, IntKind.max, IntKind.signed, IntKind.bits]
  omega
/-- A value of a row turned. -/
theorem RowL.setv {w : World} {lo g len cap : Nat} {l : List Pr} (h : RowL w lo (.slice (some ⟨g, 0, none⟩) len cap) l) {n : Nat} {x : Pr} (hx : l[n]? = some x) (v : Int) : RowL (w.setCell ⟨g, n * 2 + 1, none⟩ (.int .u64 v)) lo (.slice (some ⟨g, 0, none⟩) len cap) (l.set n ⟨x.a, v⟩) := by
  unfold RowL at *
  have hl : len = l.length := by
    rcases h.2 with ⟨e, _⟩ | ⟨_, _, _, e, _⟩
    · cases e
    · cases e; rfl
  subst hl
  have := (World.ownsRow.stored h (n * 2 + 1) (.int .u64 v)).1
  rw [List.length_set, ← flatP_set hx, Nat.mul_comm 2 n]
  exact this

set_option maxRecDepth 100000 in
set_option maxHeartbeats 4000000 in
theorem lbroken_ok (a0 : Option Addr) (c0 : Nat) (xs : List OpV) (which bv : Int) (w : World) (hx : OpsIn w a0 xs) (hw1 : (Lit.int .i64 which).wf = true) (hw2 : (Lit.int .u64 bv).wf = true) (hl0 : xs.length ≤ 1000)
    (F : Lg) (hF : playL Lg.zero xs = F) (hI : LI F) (hO : LO F) :
    Calls Try.prog 7 #[.slice a0 xs.length c0, .int .i64 which, .int .u64 bv] w fun e w' => e = .returned (.bool true) ∧ Below w.heap.size w w' := by
  have HX := Lib.hid hx; clear hx
  have HL0 := Lib.hid hl0
  have d0 : decide ((1000 : Int) < (xs.length : Int)) = false := by simp; omega
  clear hl0
  have hlr := hI.lr
  have hlw := hI.lw
  have HO := Lib.hid hO; clear hO
  have HF := Lib.hid hF; clear hF
  have Hw1 := Lib.hid hw1; clear hw1
  have Hw2 := Lib.hid hw2; clear hw2
  clear hI
  go_enter Try.func7, Try.ntmps7
  go_wp2_with fail
  refine (alive_ok _).mono ?_
  rintro e w1 ⟨rfl, hb⟩
  have Hb := Lib.hid hb; clear hb
  go_wp2_with fail
  refine (new_st Hb.out).mono ?_
  rintro e w2 ⟨a, rfl, h⟩
  have H := Lib.hid h; clear h d0 Hb
  go_wp2_with fail
  refine (play_ok H.out a0 c0 xs HX.out HL0.out).mono ?_
  rintro e w3 ⟨rfl, h⟩
  rw [HF.out] at h
  clear H HX HL0; have H := Lib.hid h; clear h
  go_wp2_with fail
  refine (reads_st H.out).mono ?_
  rintro e w4 ⟨vr, rfl, h⟩
  obtain ⟨adr, capr, rfl, hrr, hra⟩ := h.row1.rows
  clear H; have H := Lib.hid h; clear h
  have Hra := Lib.hid hra; clear hra
  have HC := Lib.hid (broken_st H.out adr capr F.r hrr (by omega)); clear hrr
  go_wp2_with fail
  refine HC.out.mono ?_
  rintro e w5 ⟨rfl, h⟩
  rw [show BrkAns F.r F.r = .tuple #[.int .i64 0, .bool false] from by unfold BrkAns; rw [broken_part HO.out.r (fun y hy => hy)]; rfl]
  clear H HC; have H := Lib.hid h; clear h
  have HC := Lib.hid (broken_st H.out none 0 [] (.inl rfl) (by simp))
  go_wp2_with fail
  refine HC.out.mono ?_
  rintro e w6 ⟨rfl, h⟩
  rw [show BrkAns F.r [] = .tuple #[.int .i64 0, .bool false] from by unfold BrkAns; rw [broken_part HO.out.r (fun y hy => by cases hy)]; rfl]
  clear H HC; have H := Lib.hid h; clear h
  go_wp2_with fail
  refine (writes_st H.out).mono ?_
  rintro e w7 ⟨vw, rfl, h⟩
  obtain ⟨adw, capw, rfl, hrw, hwa⟩ := h.row1.rows
  have Hwa := Lib.hid hwa; clear hwa hrw
  have h0 : LSt w w7 a F ((.slice none 0 0, othL F 0) :: [(.slice adw F.w.length capw, F.w), (.slice adr F.r.length capr, F.r)]) := by
    refine h.more (Below.refl _ _) ?_
    exact World.ownsRow_nil _ _ _ _
  clear H; have H := Lib.hid h0; clear h0 h
  go_wp2
  go_loopw [14, 16] (fun vo i wr => ∃ k : Nat, k ≤ F.w.length ∧ i = .int .i64 k ∧ LSt w wr a F ((vo, othL F k) :: [(.slice adw F.w.length capw, F.w), (.slice adr F.r.length capr, F.r)]) ∧ ∀ g, vo.ownBlock = some g → (Value.slice adw F.w.length capw).ownBlock ≠ some g ∧ (Value.slice adr F.r.length capr).ownBlock ≠ some g) (fun _ i _ => F.w.length - (intOf i).toNat)
  case atStart => exact ⟨0, by omega, rfl, H.out, fun g e => by cases e⟩
  case round =>
    obtain ⟨vo, hvv⟩ : ∃ vo, vo = u14 := ⟨_, rfl⟩
    subst hvv
    obtain ⟨k, hk, rfl, hs, hvo⟩ := hrel
    have HS := Lib.hid hs; clear hs H
    have Hvo := Lib.hid hvo; clear hvo
    by_cases hlt : k < F.w.length
    · obtain ⟨x, hxk⟩ : ∃ x, F.w[k]? = some x := ⟨_, List.getElem?_eq_getElem hlt⟩
      have hrw : RowL wr w.heap.size (.slice adw F.w.length capw) F.w := HS.out.row (x := (_, F.w)) (by simp)
      obtain ⟨g, cap', e⟩ := hrw.form (by omega)
      simp only [Value.slice.injEq] at e
      obtain ⟨rfl, -, rfl⟩ := e
      obtain ⟨q0, q1⟩ := hrw.at hxk
      have Hxk := Lib.hid (othL_succ F hxk)
      have hxw := HS.out.fit.2.1 x (List.mem_of_getElem? hxk)
      have Hxw := Lib.hid hxw; clear hxw hrw hxk
      obtain ⟨hb, hhb⟩ : ∃ b, hasL F.r x.a = b := ⟨_, rfl⟩
      have HC := Lib.hid (was_st HS.out x.a Hxw.out.1)
      rw [hhb] at HC Hxk
      clear hhb
      cases hb
      · have Hr0 : Hid (RowL wr w.heap.size vo (othL F k)) := Lib.hid HS.out.row1
        have hol := othL_len F k
        have hbs := HS.out.below.size
        obtain ⟨i0, hi, hz0, hz1, hz2⟩ := info_parts Try.infoPair
        have HI := Lib.hid hi; clear hi
        have HZ0 := Lib.hid hz0; clear hz0
        have HZ1 := Lib.hid hz1; clear hz1
        have HZ2 := Lib.hid hz2; clear hz2
        go_wp2_with (first | (go_at_call 22; refine HC.out.mono ?_; rintro e w' ⟨rfl, rfl⟩) | (at_builtin; refine wpList_append_own_at _ rfl _ _ 26 rfl w.heap.size 48 i0 _ 2 16 Try.underlying26 HI.out HZ0.out HZ1.out HZ2.out rfl (by decide) vo (othL F k).length (flatP (othL F k)) rfl (World.ownsRow.alloc Hr0.out _) ⟨wr.heap.size, 0, none⟩ 1 1 [.int .i64 x.a, .int .u64 x.v] rfl rfl (World.news_of_block (t := 48) (fr := (0, 0)) (new_block wr _)) (by simp [Value.oneCell']) (by unfold maxLen; omega) (by omega) (by simp; omega) ?_; intro v' w5 hown5 hgrow5 hnil5 hat5; have Hown5 := Lib.hid hown5; have Hgrow5 := Lib.hid hgrow5; have Hat5 := Lib.hid hat5; clear hown5 hgrow5 hnil5 hat5))
        go_roundw
        case rel =>
          have hT : Tch (fun k => vo.ownBlock = some k) wr w5 := ((Tch.refl _ wr).alloc _).grown Hgrow5.out (fun k e => .inl e)
          have hv5 : ∀ g', v'.ownBlock = some g' → vo.ownBlock = some g' ∨ wr.heap.size ≤ g' := fun g' e => by
            rcases Hat5.out with h | h
            · exact .inl (h ▸ e)
            · right; rw [h] at e; simp at e; omega
          have hrows := fun (y : Value × List Pr) (hy : y ∈ [(Value.slice (some ⟨g, 0, none⟩) F.w.length capw, F.w), (Value.slice adr F.r.length capr, F.r)]) => HS.out.row (x := y) (List.mem_cons_of_mem _ hy)
          refine ⟨k + 1, by omega, by go_num, ?_, fun g' e => ?_⟩
          · rw [Hxk.out]
            simp only [if_true]
            refine HS.out.redo (v := vo) (l := othL F k) (by simp) hT ?_ hv5 (fun y hy => ⟨List.mem_cons_of_mem _ hy, fun g' e e2 => ?_⟩)
            · unfold RowL
              rw [flatP_snoc, List.length_append]
              exact Hown5.out
            · simp only [List.mem_cons, List.not_mem_nil, or_false] at hy
              rcases hy with rfl | rfl
              · exact (Hvo.out g' e2).1 e
              · exact (Hvo.out g' e2).2 e
          · rcases hv5 g' e with e2 | e2
            · exact Hvo.out g' e2
            · refine ⟨fun e3 => ?_, fun e3 => ?_⟩
              · have := ((hrows (Value.slice (some ⟨g, 0, none⟩) F.w.length capw, F.w) (by simp)).lt e3).2; omega
              · have := ((hrows (Value.slice adr F.r.length capr, F.r) (by simp)).lt e3).2; omega
        case measure => simp [intOf]; omega
      · go_wp2_with (go_at_call 22; refine HC.out.mono ?_; rintro e w' ⟨rfl, rfl⟩)
        go_roundw
        case rel => exact ⟨k + 1, by omega, by go_num, by rw [Hxk.out]; simpa using HS.out, Hvo.out⟩
        case measure => simp [intOf]; omega
    · have : k = F.w.length := by omega
      subst this
      obtain ⟨ado, capo, rfl, hro, -⟩ := HS.out.row1.rows
      have hol := othL_len F F.w.length
      have HC := Lib.hid (broken_st HS.out ado capo (othL F F.w.length) hro (by omega)); clear hro Hvo
      have z0 : ((F.r.length : Int) == 0) = decide (F.r.length = 0) := by rw [Bool.eq_iff_iff]; simp
      rcases Nat.eq_zero_or_pos F.r.length with hz | hz
      · rw [decide_eq_true hz] at z0
        clear hz
        go_wp2_with (first | (go_at_call 20; refine HC.out.mono ?_; rintro e w8 ⟨rfl, h⟩; rw [brk_oth]; clear HS HC; have H := Lib.hid (h.drop [(.slice adr F.r.length capr, F.r)] (by simp)); clear h))
        go_ret
        exact ⟨by simp, H.out.below⟩
      rw [decide_eq_false (by omega)] at z0
      by_cases hb0 : bv = 0
      · have z1 : (bv == 0) = true := by simp [hb0]
        clear hb0 hz
        go_wp2_with (first | (go_at_call 20; refine HC.out.mono ?_; rintro e w8 ⟨rfl, h⟩; rw [brk_oth]; clear HS HC; have H := Lib.hid (h.drop [(.slice adr F.r.length capr, F.r)] (by simp)); clear h))
        go_ret
        exact ⟨by simp, H.out.below⟩
      have z1 : (bv == 0) = false := by simp [hb0]
      go_wp2_with fail
      refine HC.out.mono ?_
      rintro e w8 ⟨rfl, h⟩
      rw [brk_oth]
      clear HS HC
      have H := Lib.hid (h.drop [(.slice adr F.r.length capr, F.r)] (by simp)); clear h
      obtain ⟨m, hm⟩ : ∃ m, which.tmod (F.r.length : Int) = m := ⟨_, rfl⟩
      have hbd := tmod_box which hz
      rw [hm] at hbd
      by_cases hneg : m < 0
      · obtain ⟨n, hn⟩ := Int.eq_ofNat_of_zero_le (show 0 ≤ m + (F.r.length : Int) by omega)
        have hnN : n < F.r.length := by omega
        have dm : decide (m < 0) = true := by simpa using hneg
        have hk : wrap64 (m + (F.r.length : Int)) = (n : Int) := by rw [hn]; exact IntWalk.wrap64_in _ (by omega)
        clear hn hneg hbd
        obtain ⟨x, hxk⟩ : ∃ x, F.r[n]? = some x := ⟨_, List.getElem?_eq_getElem hnN⟩
        obtain ⟨g, cap', e⟩ := H.out.row1.form hz
        simp only [Value.slice.injEq] at e
        obtain ⟨rfl, -, rfl⟩ := e
        have q1 := (H.out.row1.at hxk).2
        have q2 := (owns_cell H.out.row1 (g := g) rfl (j := n * 2 + 1) (u := .int .u64 x.v) (by rw [Nat.mul_comm]; exact flatP_v hxk)).2
        have hxf := H.out.fit.1 x (List.mem_of_getElem? hxk)
        obtain ⟨v', hv'⟩ : ∃ v', IntKind.u64.wrap (x.v + bv) = v' := ⟨_, rfl⟩
        have hne : v' ≠ x.v := by
          have h1 := u64_le hxf.2
          have h2 := u64_le Hw2.out
          rw [← hv', IntKind.wrap_u64]
          omega
        have hfv : (Lit.int .u64 v').wf = true := by rw [← hv']; exact wrapu_wf _
        have hst := H.out.row1.setv hxk v'
        have hT : Tch (fun k => (Value.slice (some ⟨g, 0, none⟩) F.r.length capr).ownBlock = some k) w8 (w8.setCell ⟨g, n * 2 + 1, none⟩ (.int .u64 v')) := Tch.setCell (C := fun k => (Value.slice (some ⟨g, 0, none⟩) F.r.length capr).ownBlock = some k) (Tch.refl _ w8) (p := ⟨g, n * 2 + 1, none⟩) (.inl rfl) _
        have h9 := H.out.redo (l := F.r) (G' := []) (List.mem_cons_self ..) hT hst (fun g' e => .inl e) (by simp)
        have hlen : (F.r.set n ⟨x.a, v'⟩).length = F.r.length := by simp
        have H9 := Lib.hid h9; clear h9 hst hT
        have Hxk := Lib.hid hxk; clear hxk hxf hfv
        have Hne := Lib.hid hne; clear hne
        obtain ⟨ad9, cap9, e9, hr9, -⟩ := H9.out.row1.rows
        rw [hlen] at e9
        simp only [Value.slice.injEq] at e9
        obtain ⟨rfl, -, rfl⟩ := e9
        have HC := Lib.hid (broken_st H9.out (some ⟨g, 0, none⟩) capr (F.r.set n ⟨x.a, v'⟩) hr9 (by rw [hlen]; omega))
        rw [hlen] at HC
        clear hlen
        go_wp2_with fail
        refine HC.out.mono ?_
        rintro e wa ⟨rfl, h⟩
        rw [show BrkAns F.r (F.r.set n ⟨x.a, v'⟩) = .tuple #[.int .i64 (n : Nat), .bool true] from by unfold BrkAns; rw [broken_turned HO.out.r Hxk.out Hne.out]; rfl]
        clear H HC H9
        have H := Lib.hid h; clear h
        have hpv := H.out.row1
        have hfl : (F.r.set n ⟨x.a, v'⟩)[n]? = some ⟨x.a, v'⟩ := by simp [hnN]
        have hr1 : RowsIn wa (some ⟨g, n * 2, none⟩) 2 Pr.cells [⟨x.a, v'⟩] := by
          refine .inr ⟨g, n * 2, rfl, (hpv.lt (g := g) rfl).2, fun k y hy i u hu => ?_⟩
          cases k with
          | succ k => simp at hy
          | zero =>
            simp at hy
            subst hy
            have hi : i < 2 := (List.getElem?_eq_some_iff.1 hu).1
            obtain ⟨p0, p1⟩ := hpv.at hfl
            match i, hi with
            | 0, _ => cases hu; simpa using p0
            | 1, _ => cases hu; simpa using p1
        have hcap : F.r.length ≤ capr := by
          rcases (show World.ownsRow _ _ _ _ _ _ _ from hpv).2 with ⟨e, _⟩ | ⟨_, _, _, e, _, _, h1, _⟩
          · cases e
          · simp only [Value.slice.injEq, List.length_set] at e h1
            have := e.2.1
            have := e.2.2
            omega
        have HC1 := broken_st H.out (some ⟨g, n * 2, none⟩) (capr - n) [⟨x.a, v'⟩] hr1 (by simp)
        rw [List.length_singleton] at HC1
        have HC1 := Lib.hid HC1
        have g1 : n + 1 ≤ capr := by omega
        have g2 : ¬ capr = n := by omega
        have g3 : n + 1 ≤ F.r.length := by omega
        have g4 : n < capr := by omega
        have j2 : 0 ≤ (n : Int) + 1 ∧ (n : Int) + 1 ≤ (capr : Int) := by omega
        clear hpv hfl hr1
        go_wp2_with fail
        refine HC1.out.mono ?_
        rintro e wb ⟨rfl, h⟩
        rw [show BrkAns F.r [⟨x.a, v'⟩] = .tuple #[.int .i64 (n : Nat), .bool true] from by unfold BrkAns; rw [broken_alone HO.out.r Hxk.out Hne.out]; rfl]
        have H2 := Lib.hid h; clear h
        have hpv2 := H2.out.row1
        have hr2 : n + 1 < F.r.length → RowsIn wb (some ⟨g, (n + 1) * 2, none⟩) 2 Pr.cells ((F.r.set n ⟨x.a, v'⟩).drop (n + 1)) := fun _ => by
          refine .inr ⟨g, (n + 1) * 2, rfl, (hpv2.lt (g := g) rfl).2, fun k y hy i u hu => ?_⟩
          rw [List.getElem?_drop] at hy
          have hi : i < 2 := (List.getElem?_eq_some_iff.1 hu).1
          obtain ⟨p0, p1⟩ := hpv2.at hy
          match i, hi with
          | 0, _ => cases hu; rw [show (n + 1) * 2 + k * 2 + 0 = (n + 1 + k) * 2 from by omega]; exact p0
          | 1, _ => cases hu; rw [show (n + 1) * 2 + k * 2 + 1 = (n + 1 + k) * 2 + 1 from by omega]; exact p1
        have Hr2 := Lib.hid hr2
        clear hpv2 hr2
        by_cases hcc : capr = n + 1
        · subst hcc
          have e0 : F.r.length - (n + 1) = 0 := by omega
          have HC2 := broken_st H2.out (some ⟨g, 0, none⟩) 0 [] (.inl rfl) (by simp)
          rw [List.length_nil] at HC2
          have HC2 := Lib.hid HC2
          go_wp2_with fail
          refine HC2.out.mono ?_
          rintro e wc ⟨rfl, h⟩
          rw [show BrkAns F.r [] = .tuple #[.int .i64 0, .bool false] from by unfold BrkAns; rw [broken_part HO.out.r (fun y hy => by cases hy)]; rfl]
          clear H
          have H := Lib.hid h; clear h
          go_wp2_with fail
          refine (reads_st H.out).mono ?_
          rintro e wd ⟨v3, rfl, h⟩
          have hr3 : RowL wd w.heap.size v3 F.r := h.row1
          have hr4 : RowL wd w.heap.size (.slice (some ⟨g, 0, none⟩) F.r.length (n + 1)) (F.r.set n ⟨x.a, v'⟩) := h.row2
          clear H
          have H := Lib.hid h; clear h
          have Hr3 := Lib.hid hr3; clear hr3
          have Hr4 := Lib.hid hr4; clear hr4
          have hbs := H.out.below.size
          have hl2 : (flatP (F.r.set n ⟨x.a, v'⟩)).length = F.r.length * 2 := by rw [flatP_length, List.length_set, Nat.mul_comm]
          have hone : ∀ u ∈ flatP (F.r.set n ⟨x.a, v'⟩), u.oneCell' = true := flatP_one _
          have Hl2 := Lib.hid hl2; clear hl2
          have Hone := Lib.hid hone; clear hone
          obtain ⟨i0, hi, hz0, hz1, hz2⟩ := info_parts Try.infoPair
          have HI := Lib.hid hi; clear hi
          have HZ0 := Lib.hid hz0; clear hz0
          have HZ1 := Lib.hid hz1; clear hz1
          have HZ2 := Lib.hid hz2; clear hz2
          obtain ⟨g3', cap3, rfl⟩ := Hr3.out.form hz
          go_wp2_with (at_builtin; refine wpList_append_own_at _ rfl _ _ 26 rfl w.heap.size 48 i0 _ 2 16 Try.underlying26 HI.out HZ0.out HZ1.out HZ2.out rfl (by decide) (.slice (some ⟨g3', 0, none⟩) F.r.length cap3) F.r.length (flatP F.r) rfl Hr3.out ⟨g, 0, none⟩ F.r.length (n + 1) (flatP (F.r.set n ⟨x.a, v'⟩)) rfl Hl2.out (fun j u hu => (World.ownsRow.cells Hr4.out (g := g) rfl j u hu)) Hone.out (by unfold maxLen; omega) (by omega) hbs ?_; intro v5 w5 hown5 hgrow5 hnil5 hat5; obtain ⟨g5, cap5, rfl, -, -⟩ := hown5.form (by omega); have Hown5 := Lib.hid hown5; have Hgrow5 := Lib.hid hgrow5; have Hat5 := Lib.hid hat5; clear hown5 hgrow5 hnil5 hat5)
          have h5 : LSt w w5 a F [(.slice (some ⟨g5, 0, none⟩) (F.r.length + F.r.length) cap5, F.r ++ F.r.set n ⟨x.a, v'⟩)] := by
            refine H.out.redo (G' := []) (v := .slice (some ⟨g3', 0, none⟩) F.r.length cap3) (l := F.r) (by simp) ((Tch.refl _ wd).grown Hgrow5.out (fun k e => .inl e)) ?_ (fun g' e => ?_) (by simp)
            · unfold RowL
              rw [List.length_append, List.length_set, flatP_app]
              exact Hown5.out
            · rcases Hat5.out with h | h
              · exact .inl (h ▸ e)
              · right; rw [h] at e; simp at e; omega
          have H5 := Lib.hid h5; clear h5
          obtain ⟨ad6, cap6, e6, hr6, -⟩ := H5.out.row1.rows
          have hlen2 : (F.r ++ F.r.set n ⟨x.a, v'⟩).length = F.r.length + F.r.length := by simp
          rw [hlen2] at e6
          simp only [Value.slice.injEq] at e6
          obtain ⟨rfl, -, rfl⟩ := e6
          have HC3 := broken_st H5.out (some ⟨g5, 0, none⟩) cap5 (F.r ++ F.r.set n ⟨x.a, v'⟩) hr6 (by rw [hlen2]; omega)
          rw [hlen2] at HC3
          have HC3 := Lib.hid HC3
          clear hlen2 hr6
          refine HC3.out.mono ?_
          rintro e we ⟨rfl, h⟩
          rw [show BrkAns F.r (F.r ++ F.r.set n ⟨x.a, v'⟩) = .tuple #[.int .i64 0, .bool false] from by unfold BrkAns; rw [broken_ahead HO.out.r]; rfl]
          have HB := Lib.hid h.below; clear h
          go_wp2
          go_ret
          exact ⟨by simp, HB.out⟩
        · have hdl : ((F.r.set n ⟨x.a, v'⟩).drop (n + 1)).length = F.r.length - (n + 1) := by simp
          have hr2' : RowsIn wb (some ⟨g, (n + 1) * 2, none⟩) 2 Pr.cells ((F.r.set n ⟨x.a, v'⟩).drop (n + 1)) := by
            by_cases hl : n + 1 < F.r.length
            · exact Hr2.out hl
            · exact .inl (List.eq_nil_of_length_eq_zero (by rw [hdl]; omega))
          have HC2 := broken_st H2.out (some ⟨g, (n + 1) * 2, none⟩) (capr - (n + 1)) _ hr2' (by rw [hdl]; omega)
          rw [hdl] at HC2
          have HC2 := Lib.hid HC2
          clear hdl hr2'
          go_wp2_with fail
          refine HC2.out.mono ?_
          rintro e wc ⟨rfl, h⟩
          rw [show BrkAns F.r ((F.r.set n ⟨x.a, v'⟩).drop (n + 1)) = .tuple #[.int .i64 0, .bool false] from by unfold BrkAns; rw [broken_rest HO.out.r]; rfl]
          clear H
          have H := Lib.hid h; clear h
          go_wp2_with fail
          refine (reads_st H.out).mono ?_
          rintro e wd ⟨v3, rfl, h⟩
          have hr3 : RowL wd w.heap.size v3 F.r := h.row1
          have hr4 : RowL wd w.heap.size (.slice (some ⟨g, 0, none⟩) F.r.length capr) (F.r.set n ⟨x.a, v'⟩) := h.row2
          clear H
          have H := Lib.hid h; clear h
          have Hr3 := Lib.hid hr3; clear hr3
          have Hr4 := Lib.hid hr4; clear hr4
          have hbs := H.out.below.size
          have hl2 : (flatP (F.r.set n ⟨x.a, v'⟩)).length = F.r.length * 2 := by rw [flatP_length, List.length_set, Nat.mul_comm]
          have hone : ∀ u ∈ flatP (F.r.set n ⟨x.a, v'⟩), u.oneCell' = true := flatP_one _
          have Hl2 := Lib.hid hl2; clear hl2
          have Hone := Lib.hid hone; clear hone
          obtain ⟨i0, hi, hz0, hz1, hz2⟩ := info_parts Try.infoPair
          have HI := Lib.hid hi; clear hi
          have HZ0 := Lib.hid hz0; clear hz0
          have HZ1 := Lib.hid hz1; clear hz1
          have HZ2 := Lib.hid hz2; clear hz2
          obtain ⟨g3', cap3, rfl⟩ := Hr3.out.form hz
          go_wp2_with (at_builtin; refine wpList_append_own_at _ rfl _ _ 26 rfl w.heap.size 48 i0 _ 2 16 Try.underlying26 HI.out HZ0.out HZ1.out HZ2.out rfl (by decide) (.slice (some ⟨g3', 0, none⟩) F.r.length cap3) F.r.length (flatP F.r) rfl Hr3.out ⟨g, 0, none⟩ F.r.length capr (flatP (F.r.set n ⟨x.a, v'⟩)) rfl Hl2.out (fun j u hu => (World.ownsRow.cells Hr4.out (g := g) rfl j u hu)) Hone.out (by unfold maxLen; omega) (by omega) hbs ?_; intro v5 w5 hown5 hgrow5 hnil5 hat5; obtain ⟨g5, cap5, rfl, -, -⟩ := hown5.form (by omega); have Hown5 := Lib.hid hown5; have Hgrow5 := Lib.hid hgrow5; have Hat5 := Lib.hid hat5; clear hown5 hgrow5 hnil5 hat5)
          have h5 : LSt w w5 a F [(.slice (some ⟨g5, 0, none⟩) (F.r.length + F.r.length) cap5, F.r ++ F.r.set n ⟨x.a, v'⟩)] := by
            refine H.out.redo (G' := []) (v := .slice (some ⟨g3', 0, none⟩) F.r.length cap3) (l := F.r) (by simp) ((Tch.refl _ wd).grown Hgrow5.out (fun k e => .inl e)) ?_ (fun g' e => ?_) (by simp)
            · unfold RowL
              rw [List.length_append, List.length_set, flatP_app]
              exact Hown5.out
            · rcases Hat5.out with h | h
              · exact .inl (h ▸ e)
              · right; rw [h] at e; simp at e; omega
          have H5 := Lib.hid h5; clear h5
          obtain ⟨ad6, cap6, e6, hr6, -⟩ := H5.out.row1.rows
          have hlen2 : (F.r ++ F.r.set n ⟨x.a, v'⟩).length = F.r.length + F.r.length := by simp
          rw [hlen2] at e6
          simp only [Value.slice.injEq] at e6
          obtain ⟨rfl, -, rfl⟩ := e6
          have HC3 := broken_st H5.out (some ⟨g5, 0, none⟩) cap5 (F.r ++ F.r.set n ⟨x.a, v'⟩) hr6 (by rw [hlen2]; omega)
          rw [hlen2] at HC3
          have HC3 := Lib.hid HC3
          clear hlen2 hr6
          refine HC3.out.mono ?_
          rintro e we ⟨rfl, h⟩
          rw [show BrkAns F.r (F.r ++ F.r.set n ⟨x.a, v'⟩) = .tuple #[.int .i64 0, .bool false] from by unfold BrkAns; rw [broken_ahead HO.out.r]; rfl]
          have HB := Lib.hid h.below; clear h
          go_wp2
          go_ret
          exact ⟨by simp, HB.out⟩
      · obtain ⟨n, rfl⟩ := Int.eq_ofNat_of_zero_le (show 0 ≤ m by omega)
        have hnN : n < F.r.length := by omega
        clear hneg hbd
        obtain ⟨x, hxk⟩ : ∃ x, F.r[n]? = some x := ⟨_, List.getElem?_eq_getElem hnN⟩
        obtain ⟨g, cap', e⟩ := H.out.row1.form hz
        simp only [Value.slice.injEq] at e
        obtain ⟨rfl, -, rfl⟩ := e
        have q1 := (H.out.row1.at hxk).2
        have q2 := (owns_cell H.out.row1 (g := g) rfl (j := n * 2 + 1) (u := .int .u64 x.v) (by rw [Nat.mul_comm]; exact flatP_v hxk)).2
        have hxf := H.out.fit.1 x (List.mem_of_getElem? hxk)
        obtain ⟨v', hv'⟩ : ∃ v', IntKind.u64.wrap (x.v + bv) = v' := ⟨_, rfl⟩
        have hne : v' ≠ x.v := by
          have h1 := u64_le hxf.2
          have h2 := u64_le Hw2.out
          rw [← hv', IntKind.wrap_u64]
          omega
        have hfv : (Lit.int .u64 v').wf = true := by rw [← hv']; exact wrapu_wf _
        have hst := H.out.row1.setv hxk v'
        have hT : Tch (fun k => (Value.slice (some ⟨g, 0, none⟩) F.r.length capr).ownBlock = some k) w8 (w8.setCell ⟨g, n * 2 + 1, none⟩ (.int .u64 v')) := Tch.setCell (C := fun k => (Value.slice (some ⟨g, 0, none⟩) F.r.length capr).ownBlock = some k) (Tch.refl _ w8) (p := ⟨g, n * 2 + 1, none⟩) (.inl rfl) _
        have h9 := H.out.redo (l := F.r) (G' := []) (List.mem_cons_self ..) hT hst (fun g' e => .inl e) (by simp)
        have hlen : (F.r.set n ⟨x.a, v'⟩).length = F.r.length := by simp
        have H9 := Lib.hid h9; clear h9 hst hT
        have Hxk := Lib.hid hxk; clear hxk hxf hfv
        have Hne := Lib.hid hne; clear hne
        obtain ⟨ad9, cap9, e9, hr9, -⟩ := H9.out.row1.rows
        rw [hlen] at e9
        simp only [Value.slice.injEq] at e9
        obtain ⟨rfl, -, rfl⟩ := e9
        have HC := Lib.hid (broken_st H9.out (some ⟨g, 0, none⟩) capr (F.r.set n ⟨x.a, v'⟩) hr9 (by rw [hlen]; omega))
        rw [hlen] at HC
        clear hlen
        go_wp2_with fail
        refine HC.out.mono ?_
        rintro e wa ⟨rfl, h⟩
        rw [show BrkAns F.r (F.r.set n ⟨x.a, v'⟩) = .tuple #[.int .i64 (n : Nat), .bool true] from by unfold BrkAns; rw [broken_turned HO.out.r Hxk.out Hne.out]; rfl]
        clear H HC H9
        have H := Lib.hid h; clear h
        have hpv := H.out.row1
        have hfl : (F.r.set n ⟨x.a, v'⟩)[n]? = some ⟨x.a, v'⟩ := by simp [hnN]
        have hr1 : RowsIn wa (some ⟨g, n * 2, none⟩) 2 Pr.cells [⟨x.a, v'⟩] := by
          refine .inr ⟨g, n * 2, rfl, (hpv.lt (g := g) rfl).2, fun k y hy i u hu => ?_⟩
          cases k with
          | succ k => simp at hy
          | zero =>
            simp at hy
            subst hy
            have hi : i < 2 := (List.getElem?_eq_some_iff.1 hu).1
            obtain ⟨p0, p1⟩ := hpv.at hfl
            match i, hi with
            | 0, _ => cases hu; simpa using p0
            | 1, _ => cases hu; simpa using p1
        have hcap : F.r.length ≤ capr := by
          rcases (show World.ownsRow _ _ _ _ _ _ _ from hpv).2 with ⟨e, _⟩ | ⟨_, _, _, e, _, _, h1, _⟩
          · cases e
          · simp only [Value.slice.injEq, List.length_set] at e h1
            have := e.2.1
            have := e.2.2
            omega
        have HC1 := broken_st H.out (some ⟨g, n * 2, none⟩) (capr - n) [⟨x.a, v'⟩] hr1 (by simp)
        rw [List.length_singleton] at HC1
        have HC1 := Lib.hid HC1
        have g1 : n + 1 ≤ capr := by omega
        have g2 : ¬ capr = n := by omega
        have g3 : n + 1 ≤ F.r.length := by omega
        have g4 : n < capr := by omega
        have j2 : 0 ≤ (n : Int) + 1 ∧ (n : Int) + 1 ≤ (capr : Int) := by omega
        clear hpv hfl hr1
        go_wp2_with fail
        refine HC1.out.mono ?_
        rintro e wb ⟨rfl, h⟩
        rw [show BrkAns F.r [⟨x.a, v'⟩] = .tuple #[.int .i64 (n : Nat), .bool true] from by unfold BrkAns; rw [broken_alone HO.out.r Hxk.out Hne.out]; rfl]
        have H2 := Lib.hid h; clear h
        have hpv2 := H2.out.row1
        have hr2 : n + 1 < F.r.length → RowsIn wb (some ⟨g, (n + 1) * 2, none⟩) 2 Pr.cells ((F.r.set n ⟨x.a, v'⟩).drop (n + 1)) := fun _ => by
          refine .inr ⟨g, (n + 1) * 2, rfl, (hpv2.lt (g := g) rfl).2, fun k y hy i u hu => ?_⟩
          rw [List.getElem?_drop] at hy
          have hi : i < 2 := (List.getElem?_eq_some_iff.1 hu).1
          obtain ⟨p0, p1⟩ := hpv2.at hy
          match i, hi with
          | 0, _ => cases hu; rw [show (n + 1) * 2 + k * 2 + 0 = (n + 1 + k) * 2 from by omega]; exact p0
          | 1, _ => cases hu; rw [show (n + 1) * 2 + k * 2 + 1 = (n + 1 + k) * 2 + 1 from by omega]; exact p1
        have Hr2 := Lib.hid hr2
        clear hpv2 hr2
        by_cases hcc : capr = n + 1
        · subst hcc
          have e0 : F.r.length - (n + 1) = 0 := by omega
          have HC2 := broken_st H2.out (some ⟨g, 0, none⟩) 0 [] (.inl rfl) (by simp)
          rw [List.length_nil] at HC2
          have HC2 := Lib.hid HC2
          go_wp2_with fail
          refine HC2.out.mono ?_
          rintro e wc ⟨rfl, h⟩
          rw [show BrkAns F.r [] = .tuple #[.int .i64 0, .bool false] from by unfold BrkAns; rw [broken_part HO.out.r (fun y hy => by cases hy)]; rfl]
          clear H
          have H := Lib.hid h; clear h
          go_wp2_with fail
          refine (reads_st H.out).mono ?_
          rintro e wd ⟨v3, rfl, h⟩
          have hr3 : RowL wd w.heap.size v3 F.r := h.row1
          have hr4 : RowL wd w.heap.size (.slice (some ⟨g, 0, none⟩) F.r.length (n + 1)) (F.r.set n ⟨x.a, v'⟩) := h.row2
          clear H
          have H := Lib.hid h; clear h
          have Hr3 := Lib.hid hr3; clear hr3
          have Hr4 := Lib.hid hr4; clear hr4
          have hbs := H.out.below.size
          have hl2 : (flatP (F.r.set n ⟨x.a, v'⟩)).length = F.r.length * 2 := by rw [flatP_length, List.length_set, Nat.mul_comm]
          have hone : ∀ u ∈ flatP (F.r.set n ⟨x.a, v'⟩), u.oneCell' = true := flatP_one _
          have Hl2 := Lib.hid hl2; clear hl2
          have Hone := Lib.hid hone; clear hone
          obtain ⟨i0, hi, hz0, hz1, hz2⟩ := info_parts Try.infoPair
          have HI := Lib.hid hi; clear hi
          have HZ0 := Lib.hid hz0; clear hz0
          have HZ1 := Lib.hid hz1; clear hz1
          have HZ2 := Lib.hid hz2; clear hz2
          obtain ⟨g3', cap3, rfl⟩ := Hr3.out.form hz
          go_wp2_with (at_builtin; refine wpList_append_own_at _ rfl _ _ 26 rfl w.heap.size 48 i0 _ 2 16 Try.underlying26 HI.out HZ0.out HZ1.out HZ2.out rfl (by decide) (.slice (some ⟨g3', 0, none⟩) F.r.length cap3) F.r.length (flatP F.r) rfl Hr3.out ⟨g, 0, none⟩ F.r.length (n + 1) (flatP (F.r.set n ⟨x.a, v'⟩)) rfl Hl2.out (fun j u hu => (World.ownsRow.cells Hr4.out (g := g) rfl j u hu)) Hone.out (by unfold maxLen; omega) (by omega) hbs ?_; intro v5 w5 hown5 hgrow5 hnil5 hat5; obtain ⟨g5, cap5, rfl, -, -⟩ := hown5.form (by omega); have Hown5 := Lib.hid hown5; have Hgrow5 := Lib.hid hgrow5; have Hat5 := Lib.hid hat5; clear hown5 hgrow5 hnil5 hat5)
          have h5 : LSt w w5 a F [(.slice (some ⟨g5, 0, none⟩) (F.r.length + F.r.length) cap5, F.r ++ F.r.set n ⟨x.a, v'⟩)] := by
            refine H.out.redo (G' := []) (v := .slice (some ⟨g3', 0, none⟩) F.r.length cap3) (l := F.r) (by simp) ((Tch.refl _ wd).grown Hgrow5.out (fun k e => .inl e)) ?_ (fun g' e => ?_) (by simp)
            · unfold RowL
              rw [List.length_append, List.length_set, flatP_app]
              exact Hown5.out
            · rcases Hat5.out with h | h
              · exact .inl (h ▸ e)
              · right; rw [h] at e; simp at e; omega
          have H5 := Lib.hid h5; clear h5
          obtain ⟨ad6, cap6, e6, hr6, -⟩ := H5.out.row1.rows
          have hlen2 : (F.r ++ F.r.set n ⟨x.a, v'⟩).length = F.r.length + F.r.length := by simp
          rw [hlen2] at e6
          simp only [Value.slice.injEq] at e6
          obtain ⟨rfl, -, rfl⟩ := e6
          have HC3 := broken_st H5.out (some ⟨g5, 0, none⟩) cap5 (F.r ++ F.r.set n ⟨x.a, v'⟩) hr6 (by rw [hlen2]; omega)
          rw [hlen2] at HC3
          have HC3 := Lib.hid HC3
          clear hlen2 hr6
          refine HC3.out.mono ?_
          rintro e we ⟨rfl, h⟩
          rw [show BrkAns F.r (F.r ++ F.r.set n ⟨x.a, v'⟩) = .tuple #[.int .i64 0, .bool false] from by unfold BrkAns; rw [broken_ahead HO.out.r]; rfl]
          have HB := Lib.hid h.below; clear h
          go_wp2
          go_ret
          exact ⟨by simp, HB.out⟩
        · have hdl : ((F.r.set n ⟨x.a, v'⟩).drop (n + 1)).length = F.r.length - (n + 1) := by simp
          have hr2' : RowsIn wb (some ⟨g, (n + 1) * 2, none⟩) 2 Pr.cells ((F.r.set n ⟨x.a, v'⟩).drop (n + 1)) := by
            by_cases hl : n + 1 < F.r.length
            · exact Hr2.out hl
            · exact .inl (List.eq_nil_of_length_eq_zero (by rw [hdl]; omega))
          have HC2 := broken_st H2.out (some ⟨g, (n + 1) * 2, none⟩) (capr - (n + 1)) _ hr2' (by rw [hdl]; omega)
          rw [hdl] at HC2
          have HC2 := Lib.hid HC2
          clear hdl hr2'
          go_wp2_with fail
          refine HC2.out.mono ?_
          rintro e wc ⟨rfl, h⟩
          rw [show BrkAns F.r ((F.r.set n ⟨x.a, v'⟩).drop (n + 1)) = .tuple #[.int .i64 0, .bool false] from by unfold BrkAns; rw [broken_rest HO.out.r]; rfl]
          clear H
          have H := Lib.hid h; clear h
          go_wp2_with fail
          refine (reads_st H.out).mono ?_
          rintro e wd ⟨v3, rfl, h⟩
          have hr3 : RowL wd w.heap.size v3 F.r := h.row1
          have hr4 : RowL wd w.heap.size (.slice (some ⟨g, 0, none⟩) F.r.length capr) (F.r.set n ⟨x.a, v'⟩) := h.row2
          clear H
          have H := Lib.hid h; clear h
          have Hr3 := Lib.hid hr3; clear hr3
          have Hr4 := Lib.hid hr4; clear hr4
          have hbs := H.out.below.size
          have hl2 : (flatP (F.r.set n ⟨x.a, v'⟩)).length = F.r.length * 2 := by rw [flatP_length, List.length_set, Nat.mul_comm]
          have hone : ∀ u ∈ flatP (F.r.set n ⟨x.a, v'⟩), u.oneCell' = true := flatP_one _
          have Hl2 := Lib.hid hl2; clear hl2
          have Hone := Lib.hid hone; clear hone
          obtain ⟨i0, hi, hz0, hz1, hz2⟩ := info_parts Try.infoPair
          have HI := Lib.hid hi; clear hi
          have HZ0 := Lib.hid hz0; clear hz0
          have HZ1 := Lib.hid hz1; clear hz1
          have HZ2 := Lib.hid hz2; clear hz2
          obtain ⟨g3', cap3, rfl⟩ := Hr3.out.form hz
          go_wp2_with (at_builtin; refine wpList_append_own_at _ rfl _ _ 26 rfl w.heap.size 48 i0 _ 2 16 Try.underlying26 HI.out HZ0.out HZ1.out HZ2.out rfl (by decide) (.slice (some ⟨g3', 0, none⟩) F.r.length cap3) F.r.length (flatP F.r) rfl Hr3.out ⟨g, 0, none⟩ F.r.length capr (flatP (F.r.set n ⟨x.a, v'⟩)) rfl Hl2.out (fun j u hu => (World.ownsRow.cells Hr4.out (g := g) rfl j u hu)) Hone.out (by unfold maxLen; omega) (by omega) hbs ?_; intro v5 w5 hown5 hgrow5 hnil5 hat5; obtain ⟨g5, cap5, rfl, -, -⟩ := hown5.form (by omega); have Hown5 := Lib.hid hown5; have Hgrow5 := Lib.hid hgrow5; have Hat5 := Lib.hid hat5; clear hown5 hgrow5 hnil5 hat5)
          have h5 : LSt w w5 a F [(.slice (some ⟨g5, 0, none⟩) (F.r.length + F.r.length) cap5, F.r ++ F.r.set n ⟨x.a, v'⟩)] := by
            refine H.out.redo (G' := []) (v := .slice (some ⟨g3', 0, none⟩) F.r.length cap3) (l := F.r) (by simp) ((Tch.refl _ wd).grown Hgrow5.out (fun k e => .inl e)) ?_ (fun g' e => ?_) (by simp)
            · unfold RowL
              rw [List.length_append, List.length_set, flatP_app]
              exact Hown5.out
            · rcases Hat5.out with h | h
              · exact .inl (h ▸ e)
              · right; rw [h] at e; simp at e; omega
          have H5 := Lib.hid h5; clear h5
          obtain ⟨ad6, cap6, e6, hr6, -⟩ := H5.out.row1.rows
          have hlen2 : (F.r ++ F.r.set n ⟨x.a, v'⟩).length = F.r.length + F.r.length := by simp
          rw [hlen2] at e6
          simp only [Value.slice.injEq] at e6
          obtain ⟨rfl, -, rfl⟩ := e6
          have HC3 := broken_st H5.out (some ⟨g5, 0, none⟩) cap5 (F.r ++ F.r.set n ⟨x.a, v'⟩) hr6 (by rw [hlen2]; omega)
          rw [hlen2] at HC3
          have HC3 := Lib.hid HC3
          clear hlen2 hr6
          refine HC3.out.mono ?_
          rintro e we ⟨rfl, h⟩
          rw [show BrkAns F.r (F.r ++ F.r.set n ⟨x.a, v'⟩) = .tuple #[.int .i64 0, .bool false] from by unfold BrkAns; rw [broken_ahead HO.out.r]; rfl]
          have HB := Lib.hid h.below; clear h
          go_wp2
          go_ret
          exact ⟨by simp, HB.out⟩

set_option maxRecDepth 100000 in
set_option maxHeartbeats 1000000 in
theorem lbroken_long (a0 : Option Addr) (l0 c0 : Nat) (which bv : Int) (w : World) (hl : 1000 < l0) :
    Calls Try.prog 7 #[.slice a0 l0 c0, .int .i64 which, .int .u64 bv] w fun e w' => e = .returned (.bool true) ∧ Below w.heap.size w w' := by
  have d0 : decide ((1000 : Int) < (l0 : Int)) = true := by simp; omega
  clear hl
  go_enter Try.func7, Try.ntmps7
  go_wp2_with fail
  refine (alive_ok _).mono ?_
  rintro e w1 ⟨rfl, hb⟩
  have HB2 := Lib.hid hb; clear hb
  go_wp2
  go_ret
  exact ⟨rfl, HB2.out⟩
theorem lbroken_any (a0 : Option Addr) (c0 : Nat) (xs : List OpV) (which bv : Int) (w : World) (hx : OpsIn w a0 xs) (hw1 : (Lit.int .i64 which).wf = true) (hw2 : (Lit.int .u64 bv).wf = true) :
    Calls Try.prog 7 #[.slice a0 xs.length c0, .int .i64 which, .int .u64 bv] w fun e w' => e = .returned (.bool true) ∧ Below w.heap.size w w' := by
  by_cases hl : 1000 < xs.length
  · exact lbroken_long a0 _ c0 which bv w hl
  · exact lbroken_ok a0 c0 xs which bv w hx hw1 hw2 (by omega) _ rfl (LI.zero.play xs) (LO.zero.play xs)

end Go.Proofs.Ytfngfphoefpndaa
