/- HistParts: its walk. Conditions: those stated in each theorem. -/
import Derived.Test.YtgjbhcnadenojaaParC
namespace Go.Proofs.Ytgjbhcnadenojaa
open Go.RowKit Go.BigFrame Go.Maps

theorem judge_lt : ∀ (L : List Mo) (m : Wd) (i j : Nat), judgeFrom m i L = some j → i ≤ j ∧ j < i + L.length
  | [], _, _, _, h => by cases h
  | x :: L, m, i, j, h => by
    simp only [judgeFrom] at h
    split at h
    · have := judge_lt L _ _ _ h; simp only [List.length_cons]; omega
    · cases h; simp
/-- What the three judgements say of each other. -/
theorem parts_three {A B : List Ev} {F : List Int} {sa sb : Rd} (ha : readH A = some sa) (ho : ∀ x ∈ sa.ks, ¬ x.to_ < 0) (hb : readH B = some sb) (hfa : ∀ e ∈ A, e.fit) (hfb : ∀ e ∈ B, e.fit) (had : ∀ e ∈ A, e.ad ≤ 511) :
    ∃ (xn yn zn : Int) (yb zb : Bool), judgeP (A ++ B) F = (xn, yb && zb, 0) ∧ judgeP A F = (yn, yb, 0) ∧ judgeP B (wlist (finalM ⟨F, Mp.none⟩ (moments A sa)) F) = (zn, zb, 0) ∧ (yb = false → xn = yn) ∧ (yb = true → zb = false → xn = (A.length : Int) + zn) ∧ 0 ≤ zn ∧ zn ≤ B.length := by
  have hp := parts_plain (first := F) ha ho hb hfa hfb had
  have hA : judgeP A F = match judgeFrom ⟨F, Mp.none⟩ 0 (moments A sa) with | none => (0, true, 0) | some i => (((i : Nat) : Int), false, 0) := by unfold judgeP; rw [ha]; simp only; cases judgeFrom ⟨F, Mp.none⟩ 0 (moments A sa) <;> rfl
  have hB : judgeP B (wlist (finalM ⟨F, Mp.none⟩ (moments A sa)) F) = match judgeFrom ⟨wlist (finalM ⟨F, Mp.none⟩ (moments A sa)) F, Mp.none⟩ 0 (moments B sb) with | none => (0, true, 0) | some i => (((i : Nat) : Int), false, 0) := by unfold judgeP; rw [hb]; simp only; cases judgeFrom ⟨wlist (finalM ⟨F, Mp.none⟩ (moments A sa)) F, Mp.none⟩ 0 (moments B sb) <;> rfl
  rw [hp, hA, hB]
  cases hjb : judgeFrom ⟨wlist (finalM ⟨F, Mp.none⟩ (moments A sa)) F, Mp.none⟩ 0 (moments B sb) with
  | some j =>
    have hlt := judge_lt _ _ _ _ hjb
    rw [moments_len] at hlt
    cases judgeFrom ⟨F, Mp.none⟩ 0 (moments A sa) with
    | some i => exact ⟨_, _, _, false, false, rfl, rfl, rfl, fun _ => rfl, fun h => (by cases h), by omega, by omega⟩
    | none => exact ⟨_, _, _, true, false, rfl, rfl, rfl, fun h => (by cases h), fun _ _ => by omega, by omega, by omega⟩
  | none =>
    cases judgeFrom ⟨F, Mp.none⟩ 0 (moments A sa) with
    | some i => exact ⟨_, _, _, false, true, rfl, rfl, rfl, fun _ => rfl, fun h => (by cases h), by omega, by omega⟩
    | none => exact ⟨_, _, _, true, true, rfl, rfl, rfl, fun h => (by cases h), fun _ h => (by cases h), by omega, by omega⟩
/-- What came in. -/
structure PIn (w : World) (a1 a2 a3 : Option Addr) (A B : List Ev) (F : List Int) : Prop where
  a : RowsIn w a1 9 Ev.cells A
  b : RowsIn w a2 9 Ev.cells B
  f : RowsIn w a3 1 ucell F
theorem PIn.below {w w' : World} {a1 a2 a3 : Option Addr} {A B : List Ev} {F : List Int} (h : PIn w a1 a2 a3 A B F) (hb : Below w.heap.size w w') : PIn w' a1 a2 a3 A B F := ⟨h.a.below hb, h.b.below hb, h.f.below hb⟩

set_option maxRecDepth 100000 in
set_option maxHeartbeats 8000000 in
theorem parts_any {a1 a2 a3 : Option Addr} {c1 c2 c3 : Nat} {A B : List Ev} {F : List Int} (w : World) (h : PIn w a1 a2 a3 A B F) (n1 : a1 = none → c1 = 0) (n2 : a2 = none → c2 = 0) (hfa : ∀ e ∈ A, e.fit) (hfb : ∀ e ∈ B, e.fit) (hff : ∀ v ∈ F, (Lit.int .u64 v).wf = true) :
    Calls Try.prog 7 #[.slice a1 A.length c1, .slice a2 B.length c2, .slice a3 F.length c3] w fun z w' => z = .returned (.bool true) ∧ Below w.heap.size w w' := by
  have H := Lib.hid h; clear h
  have HN1 := Lib.hid n1; clear n1
  have HN2 := Lib.hid n2; clear n2
  have HFA := Lib.hid hfa; clear hfa
  have HFB := Lib.hid hfb; clear hfb
  have HFF := Lib.hid hff; clear hff
  by_cases hA : A.length ≤ 150
  · have dA : decide (150 < (A.length : Int)) = false := by simp; omega
    by_cases hB : B.length ≤ 150
    · have dB : decide (150 < (B.length : Int)) = false := by simp; omega
      by_cases hF : F.length ≤ 600
      · have dF : decide (600 < (F.length : Int)) = false := by simp; omega
        go_enter Try.func7, Try.ntmps7
        go_wp2_with (go_at_call 23; refine (alive_any _).mono ?_; rintro z w1 ⟨rfl, hb1⟩; have HB1 := Lib.hid hb1; clear hb1)
        refine (split_any (cap := c2) w1 (H.out.below HB1.out).b (by omega) HFB.out).mono ?_
        rintro z w2 (⟨hn, rfl, hb⟩ | ⟨c, w2', v2, hrd, hri, hap, hb, rfl, hrow⟩)
        · have HB2 := Lib.hid (HB1.out.trans (hb.mono HB1.out.size)); clear hb hn
          have HO := Lib.hid (over_any (cap := c1) w2 (H.out.below HB2.out).a (by omega) HFA.out)
          obtain ⟨ov, hov⟩ : ∃ ov, overP A = ov := ⟨_, rfl⟩
          rw [hov] at HO
          cases ov
          all_goals
            go_wp2_with (go_at_call 25; refine HO.out.mono ?_; rintro z w3 ⟨rfl, hb3⟩; have HB3 := Lib.hid (HB2.out.trans (hb3.mono HB2.out.size)); clear hb3)
            go_ret
            exact ⟨rfl, HB3.out⟩
        · have HB2 := Lib.hid (HB1.out.trans ((hap.below.trans (hb.mono hap.below.size)).mono HB1.out.size))
          obtain ⟨sb, hsb⟩ : ∃ sb, c.rd = sb := ⟨_, rfl⟩
          rw [hsb] at hrd
          have HRB := Lib.hid hrd
          have hv2 : ∃ ad cp, v2 = .slice ad c.l.length cp := by
            rcases owns_form hrow with ⟨h1, h2, _⟩ | ⟨g, cap, h1, _⟩
            · exact ⟨none, 0, by rw [h1, h2]⟩
            · exact ⟨_, _, h1⟩
          obtain ⟨ad2, cp2, rfl⟩ := hv2
          clear hrd hri hap hb hrow hsb
          have HO := Lib.hid (over_any (cap := c1) w2 (H.out.below HB2.out).a (by omega) HFA.out)
          cases hov : overP A with
          | false =>
            rw [hov] at HO
            go_wp2_with (go_at_call 25; refine HO.out.mono ?_; rintro z w3 ⟨rfl, hb3⟩; have HB3 := Lib.hid (HB2.out.trans (hb3.mono HB2.out.size)); clear hb3)
            go_ret
            exact ⟨rfl, HB3.out⟩
          | true =>
            rw [hov] at HO
            obtain ⟨sa, hsa, hend⟩ : ∃ sa, readH A = some sa ∧ ∀ x ∈ sa.ks, ¬ x.to_ < 0 := by
              unfold overP at hov
              cases hr : readH A with
              | none => rw [hr] at hov; cases hov
              | some s => rw [hr] at hov; exact ⟨s, rfl, fun x hx => by simpa using List.all_eq_true.1 hov x hx⟩
            have HSA := Lib.hid hsa; clear hsa
            have HEND := Lib.hid hend; clear hend hov
            go_wp2_with (go_at_call 25; refine HO.out.mono ?_; rintro z w3 ⟨rfl, hb3⟩; have HB3 := Lib.hid (HB2.out.trans (hb3.mono HB2.out.size)); clear hb3)
            go_loopw [11] (fun i wr => ∃ k : Nat, k ≤ A.length ∧ i = .int .i64 k ∧ wr = w3 ∧ ∀ e ∈ A.take k, e.ad ≤ 511) (fun i _ => A.length - (intOf i).toNat)
            case atStart => exact ⟨0, Nat.zero_le _, rfl, rfl, fun e he => by simp at he⟩
            case round =>
              obtain ⟨k, hk, rfl, rfl, hall⟩ := hrel
              have Hall := Lib.hid hall; clear hall
              by_cases hlt : k < A.length
              · obtain ⟨x, hx⟩ : ∃ x, A[k]? = some x := ⟨_, List.getElem?_eq_getElem hlt⟩
                obtain ⟨q, o, rfl, hq, hr⟩ := (H.out.below HB3.out).a.row hx
                have c6 := hr 6 _ rfl
                have hkl : (0 : Int) ≤ k ∧ (k : Int) < A.length := by omega
                have HX := Lib.hid hx; clear hx hr hq
                by_cases ht : 511 < x.ad
                · have d : decide (511 < x.ad) = true := by simpa using ht
                  go_wp2
                  go_ret
                  exact ⟨rfl, HB3.out⟩
                · have d : decide (511 < x.ad) = false := by simpa using ht
                  go_wp2
                  go_roundw
                  case rel =>
                    refine ⟨k + 1, by omega, by go_num, trivial, fun e he => ?_⟩
                    rw [List.take_add_one, HX.out] at he
                    rcases List.mem_append.1 he with he | he
                    · exact Hall.out e he
                    · simp at he; subst he; omega
                  case measure => simp [intOf]; omega
              · obtain rfl : k = A.length := by omega
                have had : ∀ e ∈ A, e.ad ≤ 511 := by have := Hall.out; rwa [List.take_length] at this
                have HAD := Lib.hid had; clear had Hall
                have hba : Below w.heap.size w (wr.alloc (.cells #[] 61)) := HB3.out.alloc HB3.out.size _
                have HBa := Lib.hid hba; clear hba
                go_wp2_with (at_builtin; refine wpList_append_hist rfl (.tmp 71) (.tmp 72) rfl wr.heap.size (.slice (some ⟨wr.heap.size, 0, none⟩) 0 0) 0 [] rfl (ownsE_zero wr) rfl (H.out.below HBa.out).a HN1.out (by omega) (by omega) (by simp) ?_; intro v4 w4 hown4 hgrow4 hat4; refine Hid.out ?_)
                refine Lib.hid ?_
                rw [List.nil_append, Nat.zero_add] at hown4
                have hb4 : Below w.heap.size w w4 := HBa.out.grown hgrow4 HBa.out.size (fun g hg => by cases hg; exact HB3.out.size)
                have HB4 := Lib.hid hb4
                have HO4 := Lib.hid (owns_mono hown4 (lo' := w.heap.size) (fun g e => Nat.le_trans HB3.out.size (owns_lt hown4 e).1))
                clear hb4 hown4 hgrow4 hat4
                go_wp2_with (at_builtin; refine wpList_append_hist rfl (.tmp 74) (.tmp 75) rfl w.heap.size v4 A.length (flatE A) rfl HO4.out rfl (H.out.below HB4.out).b HN2.out (by omega) (by omega) HB4.out.size ?_; intro v5 w5 hown5 hgrow5 hat5; refine Hid.out ?_)
                refine Lib.hid ?_
                obtain ⟨L5, hL5⟩ : ∃ L5, A ++ B = L5 := ⟨_, rfl⟩
                rw [← flatE_append, ← List.length_append, hL5] at hown5
                have hb5 : Below w.heap.size w w5 := HB4.out.grown hgrow5 HB4.out.size (fun g hg => (owns_lt HO4.out hg).1)
                obtain ⟨a5, cap5, rfl, hr5⟩ := rowsE_own hown5
                have HB5 := Lib.hid hb5
                have HR5 := Lib.hid hr5
                clear hb5 hown5 hgrow5 hat5 hr5
                have hlen5 : L5.length ≤ 900 := by rw [← hL5, List.length_append]; omega
                have hfit5 : ∀ e ∈ L5, e.fit := by rw [← hL5]; exact fun e he => (List.mem_append.1 he).elim (HFA.out e) (HFB.out e)
                obtain ⟨xn, yn, zn, yb, zb, hx, hy, hz, r1, r2, z0, z1⟩ := parts_three (F := F) HSA.out (fun x hx => by have := HEND.out x hx; omega) HRB.out HFA.out HFB.out HAD.out
                have hfin : finalP A F 512 = (wordsP (finalM ⟨F, Mp.none⟩ (moments A sa)) 512, 0) := by unfold finalP; rw [HSA.out]; rfl
                obtain ⟨fm, hfm⟩ : ∃ fm, finalM ⟨F, Mp.none⟩ (moments A sa) = fm := ⟨_, rfl⟩
                rw [hfm] at hfin hz
                rw [hL5] at hx
                have J1 := judge_any (cap := cap5) (cap2 := c3) w5 HR5.out hlen5 hfit5 (H.out.below HB5.out).f
                rw [hx] at J1
                have HJ1 := Lib.hid J1
                have HY := Lib.hid hy
                have HFin := Lib.hid hfin
                have HZ := Lib.hid hz
                have hw512 : (wordsP fm 512).length = 512 := by unfold wordsP; simp
                have HW5 := Lib.hid hw512
                obtain ⟨i0, hi0, hz0, hz1, hz2⟩ := info_parts Try.infoU
                have HI0 := Lib.hid hi0; clear hi0
                have HZ0 := Lib.hid hz0; clear hz0
                have HZ1 := Lib.hid hz1; clear hz1
                have HZ2 := Lib.hid hz2; clear hz2
                clear J1 hx hy hz hfm hfin hlen5 hfit5 hw512 HO4 hL5
                go_wp2_with (first | (go_at_call 17; with_reducible refine HJ1.out.mono ?_; rintro z w6 ⟨rfl, hb6⟩; have HB6 := Lib.hid (HB5.out.trans (hb6.mono HB5.out.size)); clear hb6; refine Hid.out ?_) | fail)
                refine Lib.hid ?_
                have J2 := judge_any (cap := c1) (cap2 := c3) w6 (H.out.below HB6.out).a (by omega) HFA.out (H.out.below HB6.out).f
                rw [HY.out] at J2
                have HJ2 := Lib.hid J2; clear J2
                go_wp2_with (first | (go_at_call 17; with_reducible refine HJ2.out.mono ?_; rintro z w7 ⟨rfl, hb7⟩; have HB7 := Lib.hid (HB6.out.trans (hb7.mono HB6.out.size)); clear hb7; refine Hid.out ?_) | fail)
                refine Lib.hid ?_
                have J3 := final_any (cap := c1) (cap2 := c3) w7 (H.out.below HB7.out).a (by omega) HFA.out (H.out.below HB7.out).f 512
                rw [HFin.out] at J3
                unfold RowU at J3
                simp only [HW5.out] at J3
                have HJ3 := Lib.hid J3; clear J3
                go_wp2_with (first | (go_at_call 18; with_reducible refine HJ3.out.mono ?_; rintro z w8 ⟨v8, rfl, hrow8, hb8⟩; have HB8 := Lib.hid (HB7.out.trans (hb8.mono HB7.out.size)); have HR8 := Lib.hid (owns_mono hrow8 (lo' := w.heap.size) (fun g e => Nat.le_trans HB7.out.size (owns_lt hrow8 e).1)); clear hb8 hrow8; refine Hid.out ?_) | fail)
                refine Lib.hid ?_
                obtain ⟨a8, cap8, e8⟩ : ∃ a8 cap8, v8 = .slice a8 512 cap8 := by
                  obtain ⟨g, cap, e, -, -⟩ := HR8.out.form (by omega)
                  exact ⟨_, _, e⟩
                subst e8
                go_wp2
                go_loopw [19, 21] (fun v i wr2 => ∃ s : Nat, 512 ≤ s ∧ (s ≤ F.length ∨ s = 512) ∧ i = .int .i64 (s : Int) ∧ wr2.ownsRow w.heap.size 46 1 v s ((wordsP fm 512 ++ (F.drop 512).take (s - 512)).map (.int .u64)) ∧ Below w.heap.size w wr2) (fun _ i _ => F.length - (intOf i).toNat)
                case atStart => exact ⟨512, Nat.le_refl _, .inr rfl, rfl, by simpa using HR8.out, HB8.out⟩
                case round =>
                  obtain ⟨s, hs, hsF, rfl, hrow, hbw⟩ := hrel
                  have Hrow := Lib.hid hrow; clear hrow
                  have Hbw := Lib.hid hbw; clear hbw HR8 HB8 HJ1 HJ2 HJ3
                  by_cases hlt2 : s < F.length
                  · obtain ⟨x, hx⟩ : ∃ x, F[s]? = some x := ⟨_, List.getElem?_eq_getElem hlt2⟩
                    obtain ⟨q, o, rfl, hq, hr⟩ := (H.out.below Hbw.out).f.row hx
                    have cx := hr 0 _ rfl
                    rw [Nat.mul_one, Nat.add_zero] at cx
                    have hkl : (0 : Int) ≤ s ∧ (s : Int) < F.length := by omega
                    have hdx : (F.drop 512)[s - 512]? = some x := by rw [List.getElem?_drop, show 512 + (s - 512) = s from by omega]; exact hx
                    have HDX := Lib.hid hdx
                    have d2 : decide ((s : Int) < (F.length : Int)) = true := by simp; omega
                    clear hx hr hq hdx
                    go_wp2_with (at_builtin; refine wpList_append_own_at _ rfl _ _ 51 rfl w.heap.size 46 i0 _ 1 8 Try.underlying51 HI0.out HZ0.out HZ1.out HZ2.out rfl (by decide) u19 s _ rfl (World.ownsRow.alloc Hrow.out _) ⟨wr.heap.size, 0, none⟩ 1 1 [.int .u64 x] rfl rfl (World.news_of_block (t := 46) (fr := (0, 0)) (new_block wr _)) (by simp [Value.oneCell']) (by unfold maxLen; omega) (by omega) (by have := Hbw.out.size; simp; omega) ?_; intro v9 w9 hown9 hgrow9 hnil9 hat9; have Hown9 := Lib.hid hown9; have HB9 := Lib.hid ((Hbw.out.alloc Hbw.out.size (.cells #[.int .u64 x] 46)).grown hgrow9 (by have := Hbw.out.size; simp; omega) (fun g e => (owns_lt Hrow.out e).1)); clear hown9 hgrow9 hnil9 hat9)
                    go_roundw
                    case rel => exact ⟨s + 1, by omega, .inl (by omega), by go_num, by rw [show s + 1 - 512 = (s - 512) + 1 from by omega, List.take_add_one, HDX.out, ← List.append_assoc, List.map_append]; exact Hown9.out, HB9.out⟩
                    case measure => simp [intOf]; omega
                  · have d2 : decide ((s : Int) < (F.length : Int)) = false := by simp; omega
                    obtain ⟨W, hW⟩ : ∃ W, wlist fm F = W := ⟨_, rfl⟩
                    have hWl : W.length = s := by
                      rw [← hW]; unfold wlist; rw [List.length_append, HW5.out, List.length_drop]; omega
                    have hrw := Hrow.out
                    rw [List.take_of_length_le (by rw [List.length_drop]; omega)] at hrw
                    have hrw2 : RowU wr w.heap.size u19 W := by unfold RowU; rw [hWl, ← hW]; exact hrw
                    obtain ⟨aw, cw, hu, hrW⟩ := rowsU_own hrw2
                    rw [hWl] at hu
                    have J4 := judge_any (cap := c2) (cap2 := cw) (b := aw) wr (H.out.below Hbw.out).b (by omega) HFB.out hrW
                    have hzz := HZ.out
                    rw [hW] at hzz
                    rw [hzz, hWl] at J4
                    have HJ4 := Lib.hid J4
                    clear J4 hzz hrw hrw2 hrW hW hWl
                    subst hu
                    cases yb
                    · have e1 := r1 rfl
                      subst e1
                      clear r1 r2
                      go_wp2_with (go_at_call 17; with_reducible refine HJ4.out.mono ?_; rintro z w10 ⟨rfl, hb10⟩; have HB10 := Lib.hid (Hbw.out.trans (hb10.mono Hbw.out.size)); clear hb10)
                      go_ret
                      exact ⟨rfl, HB10.out⟩
                    · cases zb
                      · have e1 := r2 rfl rfl
                        subst e1
                        have hwr : IntKind.i64.wrap ((A.length : Int) + zn) = (A.length : Int) + zn := by rw [IntKind.wrap_i64]; omega
                        clear r1 r2
                        go_wp2_with (go_at_call 17; with_reducible refine HJ4.out.mono ?_; rintro z w10 ⟨rfl, hb10⟩; have HB10 := Lib.hid (Hbw.out.trans (hb10.mono Hbw.out.size)); clear hb10)
                        go_ret
                        exact ⟨rfl, HB10.out⟩
                      · clear r1 r2
                        go_wp2_with (go_at_call 17; with_reducible refine HJ4.out.mono ?_; rintro z w10 ⟨rfl, hb10⟩; have HB10 := Lib.hid (Hbw.out.trans (hb10.mono Hbw.out.size)); clear hb10)
                        go_ret
                        exact ⟨rfl, HB10.out⟩
      · have dF : decide (600 < (F.length : Int)) = true := by simp; omega
        go_enter Try.func7, Try.ntmps7
        go_wp2_with (go_at_call 23; refine (alive_any _).mono ?_; rintro z w1 ⟨rfl, hb1⟩; have HB1 := Lib.hid hb1; clear hb1)
        go_ret
        exact ⟨rfl, HB1.out⟩
    · have dB : decide (150 < (B.length : Int)) = true := by simp; omega
      go_enter Try.func7, Try.ntmps7
      go_wp2_with (go_at_call 23; refine (alive_any _).mono ?_; rintro z w1 ⟨rfl, hb1⟩; have HB1 := Lib.hid hb1; clear hb1)
      go_ret
      exact ⟨rfl, HB1.out⟩
  · have dA : decide (150 < (A.length : Int)) = true := by simp; omega
    go_enter Try.func7, Try.ntmps7
    go_wp2_with (go_at_call 23; refine (alive_any _).mono ?_; rintro z w1 ⟨rfl, hb1⟩; have HB1 := Lib.hid hb1; clear hb1)
    go_ret
    exact ⟨rfl, HB1.out⟩

end Go.Proofs.Ytgjbhcnadenojaa
