/- LogOrder. Conditions: those stated in each theorem. -/
import Derived.Test.YtfngfphoefpndaaLogMP
import Derived.Test.YtfngfphoefpndaaPairEq
namespace Go.Proofs.Ytfngfphoefpndaa
open Go.RowKit Go.BigFrame Go.Maps

theorem readL_pre (l : List Pr) (a v : Int) {i : Nat} {x : Pr} (h : l[i]? = some x) : (readL l a v)[i]? = some x := by
  have hi := (List.getElem?_eq_some_iff.1 h).1
  unfold readL
  split
  · exact h
  · split
    · exact h
    · split
      · exact h
      · rw [List.getElem?_append_left hi]; exact h
theorem writeL_pre (l : List Pr) (a v : Int) {i : Nat} {x : Pr} (h : l[i]? = some x) : ∃ y, (writeL l a v)[i]? = some y ∧ y.a = x.a := by
  have hi := (List.getElem?_eq_some_iff.1 h).1
  unfold writeL
  split
  · exact ⟨x, h, rfl⟩
  · split
    · rename_i j hp
      obtain ⟨z, hz, rfl⟩ := posL_at hp
      by_cases hij : j = i
      · subst hij
        rw [h] at hz; cases hz
        exact ⟨⟨x.a, v⟩, by simp [hi], rfl⟩
      · exact ⟨x, by rw [List.getElem?_set_ne hij]; exact h, rfl⟩
    · split
      · exact ⟨x, h, rfl⟩
      · exact ⟨x, by rw [List.getElem?_append_left hi]; exact h, rfl⟩
/-- The lists go on. -/
structure Goes (f g : Lg) : Prop where
  r : ∀ (i : Nat) (x : Pr), f.r[i]? = some x → g.r[i]? = some x
  w : ∀ (i : Nat) (x : Pr), f.w[i]? = some x → ∃ y, g.w[i]? = some y ∧ y.a = x.a
theorem Goes.refl (f : Lg) : Goes f f := ⟨fun _ _ h => h, fun _ x h => ⟨x, h, rfl⟩⟩
theorem Goes.step {f g : Lg} (h : Goes f g) (x : OpV) (hk : x.kind ≠ 2) : Goes f (stepL g x) := by
  unfold stepL
  have h2 : (x.kind == 2) = false := by simpa using hk
  split
  · exact ⟨fun i y hy => readL_pre _ _ _ (h.r i y hy), h.w⟩
  · split
    · refine ⟨h.r, fun i y hy => ?_⟩
      obtain ⟨z, hz, e⟩ := h.w i y hy
      obtain ⟨u, hu, e2⟩ := writeL_pre g.w x.a x.v hz
      exact ⟨u, hu, e2.trans e⟩
    · rw [h2]; exact h
theorem Goes.play {f g : Lg} (h : Goes f g) (xs : List OpV) (hk : ∀ x ∈ xs, x.kind ≠ 2) : Goes f (playL g xs) := by
  induction xs generalizing g with
  | nil => exact h
  | cons x xs ih => exact ih (h.step x (hk x (by simp))) (fun y hy => hk y (List.mem_cons_of_mem _ hy))
theorem len_of_get {l m : List Pr} (h : ∀ (i : Nat) (x : Pr), l[i]? = some x → ∃ y, m[i]? = some y) : l.length ≤ m.length := by
  rcases Nat.eq_zero_or_pos l.length with hz | hz
  · omega
  · obtain ⟨y, hy⟩ := h (l.length - 1) l[l.length - 1] (List.getElem?_eq_getElem _)
    have := (List.getElem?_eq_some_iff.1 hy).1; omega

set_option maxRecDepth 100000 in
set_option maxHeartbeats 1000000 in
theorem lorder_long (a0 a1 : Option Addr) (l0 l1 c0 c1 : Nat) (w : World) (hl : 1000 < l0 ∨ 1000 < l1) :
    Calls Try.prog 9 #[.slice a0 l0 c0, .slice a1 l1 c1] w fun e w' => e = .returned (.bool true) ∧ Below w.heap.size w w' := by
  have HL : Hid (1000 < l0 ∨ 1000 < l1) := Lib.hid hl
  clear hl
  go_enter Try.func9, Try.ntmps9
  go_wp2_with fail
  refine (alive_ok _).mono ?_
  rintro e w1 ⟨rfl, hb⟩
  have Hb := Lib.hid hb; clear hb
  by_cases h0 : 1000 < l0
  · have d0 : decide ((1000 : Int) < (l0 : Int)) = true := by simp; omega
    go_wp2
    go_ret
    exact ⟨rfl, Hb.out⟩
  · have h1 : 1000 < l1 := HL.out.resolve_left h0
    have d0 : decide ((1000 : Int) < (l0 : Int)) = false := by simp; omega
    have d1 : decide ((1000 : Int) < (l1 : Int)) = true := by simp; omega
    go_wp2
    go_ret
    exact ⟨rfl, Hb.out⟩

set_option maxRecDepth 100000 in
set_option maxHeartbeats 4000000 in
theorem lorder_ok (a0 a1 : Option Addr) (xs ys : List OpV) (c0 c1 : Nat) (w : World) (hx : OpsIn w a0 xs) (hy : OpsIn w a1 ys) (hl0 : xs.length ≤ 1000) (hl1 : ys.length ≤ 1000) :
    Calls Try.prog 9 #[.slice a0 xs.length c0, .slice a1 ys.length c1] w fun e w' => e = .returned (.bool true) ∧ Below w.heap.size w w' := by
  have HX := Lib.hid hx; clear hx
  have HY := Lib.hid hy; clear hy
  have HL0 := Lib.hid hl0
  have HL1 := Lib.hid hl1
  have d0 : decide ((1000 : Int) < (xs.length : Int)) = false := by simp; omega
  have d1 : decide ((1000 : Int) < (ys.length : Int)) = false := by simp; omega
  clear hl0
  go_enter Try.func9, Try.ntmps9
  go_wp2_with fail
  refine (alive_ok _).mono ?_
  rintro e w1 ⟨rfl, hb⟩
  have Hb := Lib.hid hb; clear hb
  go_wp2
  clear d0 d1
  go_loopw [6] (fun i wr => wr = w1 ∧ ∃ k : Nat, k ≤ ys.length ∧ i = .int .i64 k ∧ ∀ j x, j < k → ys[j]? = some x → x.kind ≠ 2) (fun i _ => ys.length - (intOf i).toNat)
  case atStart => exact ⟨rfl, 0, by omega, rfl, fun j x h => by omega⟩
  case round =>
    obtain ⟨rfl, k, hk, rfl, hn⟩ := hrel
    have Hn := Lib.hid hn; clear hn
    by_cases hlt : k < ys.length
    · obtain ⟨x, hxk⟩ : ∃ x, ys[k]? = some x := ⟨_, List.getElem?_eq_getElem hlt⟩
      obtain ⟨q, c, rfl, hq, hr⟩ := HY.out.1.row hxk
      have y0 : wr.cell? ⟨q, c + k * 4, none⟩ = some (.int .i64 x.kind) := by
        rw [World.cell?_of_block (a := ⟨q, c + k * 4, none⟩) (Hb.out.block q hq)]
        exact hr 0 _ rfl
      clear hr
      have Hxk := Lib.hid hxk; clear hxk
      by_cases h2 : x.kind = 2
      · have b2 : (x.kind == 2) = true := by simp [h2]
        go_wp2
        go_ret
        exact ⟨rfl, Hb.out⟩
      · have b2 : (x.kind == 2) = false := by simp [h2]
        have H2 := Lib.hid h2; clear h2
        go_wp2
        go_roundw
        case rel => exact ⟨trivial, k + 1, by omega, by go_num, fun j z hj hz => by
          by_cases hjk : j = k
          · subst hjk; rw [Hxk.out] at hz; cases hz; exact H2.out
          · exact Hn.out j z (by omega) hz⟩
        case measure => simp [intOf]; omega
    · have hn : ∀ z ∈ ys, z.kind ≠ 2 := fun z hz => by
        obtain ⟨j, hj, rfl⟩ := List.mem_iff_getElem.1 hz
        exact Hn.out j _ (by omega) (List.getElem?_eq_getElem hj)
      have HN := Lib.hid hn; clear hn Hn
      go_wp2_with fail
      refine (new_st Hb.out).mono ?_
      rintro e w2 ⟨a, rfl, h⟩
      have H := Lib.hid h; clear h Hb
      go_wp2_with fail
      refine (play_ok H.out a0 c0 xs HX.out HL0.out).mono ?_
      rintro e w3 ⟨rfl, h⟩
      have hI := LI.zero.play xs
      have hO := LO.zero.play xs
      have hG := (Goes.refl (playL Lg.zero xs)).play ys HN.out
      have hI2 := hI.play ys
      have hO2 := hO.play ys
      obtain ⟨F2, hF2⟩ : ∃ F2, playL (playL Lg.zero xs) ys = F2 := ⟨_, rfl⟩
      rw [hF2] at hG hI2 hO2
      generalize playL Lg.zero xs = F at *
      clear H HX HL0 hI hO; have H := Lib.hid h; clear h
      go_wp2_with fail
      refine (reads_st H.out).mono ?_
      rintro e w4 ⟨vr, rfl, h⟩
      obtain ⟨adr, capr, rfl, hrr, -⟩ := h.row1.rows
      clear H hrr; have H := Lib.hid h; clear h
      go_wp2_with fail
      refine (writes_st H.out).mono ?_
      rintro e w5 ⟨vw, rfl, h⟩
      obtain ⟨adw, capw, rfl, hrw, -⟩ := h.row1.rows
      clear H hrw; have H := Lib.hid h; clear h
      go_wp2_with fail
      refine (play_ok H.out a1 c1 ys HY.out HL1.out).mono ?_
      rintro e w6 ⟨rfl, h⟩
      rw [hF2] at h
      clear hF2
      clear H HY HL1; have H := Lib.hid h; clear h
      go_wp2_with fail
      refine (reads_st H.out).mono ?_
      rintro e w7 ⟨vs, rfl, h⟩
      obtain ⟨ads, caps, rfl, hrs, -⟩ := h.row1.rows
      clear H hrs; have H := Lib.hid h; clear h
      go_wp2_with fail
      refine (writes_st H.out).mono ?_
      rintro e w8 ⟨vx, rfl, h⟩
      obtain ⟨adx, capx, rfl, hrx, -⟩ := h.row1.rows
      clear H hrx; have H := Lib.hid h; clear h
      have t1 : decide ((F2.r.length : Int) < (F.r.length : Int)) = false := by
        have := len_of_get (fun i x h => ⟨x, hG.r i x h⟩); simp; omega
      have t2 : decide ((F2.w.length : Int) < (F.w.length : Int)) = false := by
        have := len_of_get (fun i x h => by obtain ⟨y, hy, _⟩ := hG.w i x h; exact ⟨y, hy⟩); simp; omega
      have t5 : decide (F2.r.length < F.r.length) = false := by
        have := len_of_get (fun i x h => ⟨x, hG.r i x h⟩); simp; omega
      have t6 : decide (F2.w.length < F.w.length) = false := by
        have := len_of_get (fun i x h => by obtain ⟨y, hy, _⟩ := hG.w i x h; exact ⟨y, hy⟩); simp; omega
      have t3 : decide ((128 : Int) < (F2.r.length : Int)) = false := by have := hI2.lr; simp; omega
      have t4 : decide ((128 : Int) < (F2.w.length : Int)) = false := by have := hI2.lw; simp; omega
      have hlr := hI2.lr
      have hlw := hI2.lw
      have HG := Lib.hid hG; clear hG
      have HI2 := Lib.hid hI2; clear hI2
      have HO2 := Lib.hid hO2; clear hO2
      clear HN
      go_wp2
      clear t1 t2 t3 t4 t5 t6
      go_loopw [12] (fun i wr => ∃ k : Nat, k ≤ F2.r.length ∧ i = .int .i64 k ∧ LSt w wr a F2 [(.slice adx F2.w.length capx, F2.w), (.slice ads F2.r.length caps, F2.r), (.slice adw F.w.length capw, F.w), (.slice adr F.r.length capr, F.r)]) (fun i _ => F2.r.length - (intOf i).toNat)
      case atStart => exact ⟨0, by omega, rfl, H.out⟩
      case round =>
        obtain ⟨k, hk, rfl, hs⟩ := hrel
        have HS := Lib.hid hs; clear hs H
        by_cases hlt : k < F2.r.length
        · obtain ⟨y, hyk⟩ : ∃ y, F2.r[k]? = some y := ⟨_, List.getElem?_eq_getElem hlt⟩
          have hrs : RowL wr w.heap.size (.slice ads F2.r.length caps) F2.r := HS.out.row (x := (_, F2.r)) (by simp)
          obtain ⟨g, cap', e⟩ := hrs.form (by omega)
          simp only [Value.slice.injEq] at e
          obtain ⟨rfl, -, rfl⟩ := e
          obtain ⟨q0, q1⟩ := hrs.at hyk
          have hnn : decide (y.a < 0) = false := by have := HI2.out.r y (List.mem_of_getElem? hyk); simp; omega
          clear hrs
          have Hyk := Lib.hid hyk; clear hyk
          by_cases hin : k < F.r.length
          · obtain ⟨x, hxk⟩ : ∃ x, F.r[k]? = some x := ⟨_, List.getElem?_eq_getElem hin⟩
            obtain rfl : x = y := by have := HG.out.r k x hxk; rw [Hyk.out] at this; cases this; rfl
            have hrr : RowL wr w.heap.size (.slice adr F.r.length capr) F.r := HS.out.row (x := (_, F.r)) (by simp)
            obtain ⟨g2, cap', e⟩ := hrr.form (by omega)
            simp only [Value.slice.injEq] at e
            obtain ⟨rfl, -, rfl⟩ := e
            obtain ⟨p0, p1⟩ := hrr.at hxk
            clear hrr hxk
            go_wp2
            go_quiet (fail)
            have HZ := Lib.hid (HS.out.idle (below_drewN (Below.refl _ _) nq))
            generalize wr.drewN nq = V1 at *
            clear q0 q1 p0 p1 hnn
            go_wp2
            go_loopw [13] (fun i wr => ∃ j : Nat, j ≤ k ∧ i = .int .i64 j ∧ LSt w wr a F2 [(.slice adx F2.w.length capx, F2.w), (.slice (some ⟨g, 0, none⟩) F2.r.length caps, F2.r), (.slice adw F.w.length capw, F.w), (.slice (some ⟨g2, 0, none⟩) F.r.length capr, F.r)]) (fun i _ => k - (intOf i).toNat)
            case atStart => exact ⟨0, by omega, rfl, HZ.out⟩
            case round =>
              obtain ⟨j, hj, rfl, hs⟩ := hrel
              have HS2 := Lib.hid hs; clear hs HS HZ
              by_cases hjk : j < k
              · obtain ⟨z, hzj⟩ : ∃ z, F2.r[j]? = some z := ⟨_, List.getElem?_eq_getElem (by omega)⟩
                have hrs : RowL wr w.heap.size (.slice (some ⟨g, 0, none⟩) F2.r.length caps) F2.r := HS2.out.row (x := (_, F2.r)) (by simp)
                have z0 := (hrs.at hzj).1
                have q0 := (hrs.at Hyk.out).1
                have hzy : (z.a == x.a) = false := by
                  have h : z.a ≠ x.a := fun e => by have := HO2.out.r j k z x hzj Hyk.out e; omega
                  simpa using h
                clear hrs hzj
                go_wp2
                go_quiet (fail)
                have HZ2 := Lib.hid (HS2.out.idle (below_drewN (Below.refl _ _) nq))
                generalize wr.drewN nq = V2 at *
                go_wp2
                go_round
                case rel => exact ⟨j + 1, by omega, by go_num, HZ2.out⟩
                case measure => simp [intOf]; omega
              · obtain rfl : j = k := by omega
                go_wp2
                go_round
                case rel => exact ⟨j + 1, by omega, by go_num, HS2.out⟩
                case measure => simp [intOf]; omega
          · go_wp2
            go_quiet (fail)
            have HZ := Lib.hid (HS.out.idle (below_drewN (Below.refl _ _) nq))
            generalize wr.drewN nq = V1 at *
            clear q0 q1 hnn
            go_wp2
            go_loopw [13] (fun i wr => ∃ j : Nat, j ≤ k ∧ i = .int .i64 j ∧ LSt w wr a F2 [(.slice adx F2.w.length capx, F2.w), (.slice (some ⟨g, 0, none⟩) F2.r.length caps, F2.r), (.slice adw F.w.length capw, F.w), (.slice adr F.r.length capr, F.r)]) (fun i _ => k - (intOf i).toNat)
            case atStart => exact ⟨0, by omega, rfl, HZ.out⟩
            case round =>
              obtain ⟨j, hj, rfl, hs⟩ := hrel
              have HS2 := Lib.hid hs; clear hs HS HZ
              by_cases hjk : j < k
              · obtain ⟨z, hzj⟩ : ∃ z, F2.r[j]? = some z := ⟨_, List.getElem?_eq_getElem (by omega)⟩
                have hrs : RowL wr w.heap.size (.slice (some ⟨g, 0, none⟩) F2.r.length caps) F2.r := HS2.out.row (x := (_, F2.r)) (by simp)
                have z0 := (hrs.at hzj).1
                have q0 := (hrs.at Hyk.out).1
                have hzy : (z.a == y.a) = false := by
                  have h : z.a ≠ y.a := fun e => by have := HO2.out.r j k z y hzj Hyk.out e; omega
                  simpa using h
                clear hrs hzj
                go_wp2
                go_quiet (fail)
                have HZ2 := Lib.hid (HS2.out.idle (below_drewN (Below.refl _ _) nq))
                generalize wr.drewN nq = V2 at *
                go_wp2
                go_round
                case rel => exact ⟨j + 1, by omega, by go_num, HZ2.out⟩
                case measure => simp [intOf]; omega
              · obtain rfl : j = k := by omega
                go_wp2
                go_round
                case rel => exact ⟨j + 1, by omega, by go_num, HS2.out⟩
                case measure => simp [intOf]; omega
        · obtain rfl : k = F2.r.length := by omega
          go_wp2
          go_loopw [14] (fun i wr => ∃ k : Nat, k ≤ F2.w.length ∧ i = .int .i64 k ∧ LSt w wr a F2 [(.slice adx F2.w.length capx, F2.w), (.slice ads F2.r.length caps, F2.r), (.slice adw F.w.length capw, F.w), (.slice adr F.r.length capr, F.r)]) (fun i _ => F2.w.length - (intOf i).toNat)
          case atStart => exact ⟨0, by omega, rfl, HS.out⟩
          case round =>
            obtain ⟨k, hk, rfl, hs⟩ := hrel
            have HS := Lib.hid hs; clear hs
            by_cases hlt : k < F2.w.length
            · obtain ⟨y, hyk⟩ : ∃ y, F2.w[k]? = some y := ⟨_, List.getElem?_eq_getElem hlt⟩
              have hrs : RowL wr w.heap.size (.slice adx F2.w.length capx) F2.w := HS.out.row (x := (_, F2.w)) (by simp)
              obtain ⟨g, cap', e⟩ := hrs.form (by omega)
              simp only [Value.slice.injEq] at e
              obtain ⟨rfl, -, rfl⟩ := e
              obtain ⟨q0, q1⟩ := hrs.at hyk
              have hnn : decide (y.a < 0) = false := by have := HI2.out.w y (List.mem_of_getElem? hyk); simp; omega
              clear hrs
              have Hyk := Lib.hid hyk; clear hyk
              by_cases hin : k < F.w.length
              · obtain ⟨x, hxk⟩ : ∃ x, F.w[k]? = some x := ⟨_, List.getElem?_eq_getElem hin⟩
                have hxy : (y.a != x.a) = false := by obtain ⟨u, hu, e⟩ := HG.out.w k x hxk; rw [Hyk.out] at hu; cases hu; simp [e]
                have hrr : RowL wr w.heap.size (.slice adw F.w.length capw) F.w := HS.out.row (x := (_, F.w)) (by simp)
                obtain ⟨g2, cap', e⟩ := hrr.form (by omega)
                simp only [Value.slice.injEq] at e
                obtain ⟨rfl, -, rfl⟩ := e
                obtain ⟨p0, p1⟩ := hrr.at hxk
                clear hrr hxk
                go_wp2
                go_quiet (fail)
                have HZ := Lib.hid (HS.out.idle (below_drewN (Below.refl _ _) nq))
                generalize wr.drewN nq = V1 at *
                clear q0 q1 p0 p1 hnn hxy
                go_wp2
                go_loopw [15] (fun i wr => ∃ j : Nat, j ≤ k ∧ i = .int .i64 j ∧ LSt w wr a F2 [(.slice (some ⟨g, 0, none⟩) F2.w.length capx, F2.w), (.slice ads F2.r.length caps, F2.r), (.slice (some ⟨g2, 0, none⟩) F.w.length capw, F.w), (.slice adr F.r.length capr, F.r)]) (fun i _ => k - (intOf i).toNat)
                case atStart => exact ⟨0, by omega, rfl, HZ.out⟩
                case round =>
                  obtain ⟨j, hj, rfl, hs⟩ := hrel
                  have HS2 := Lib.hid hs; clear hs HS HZ
                  by_cases hjk : j < k
                  · obtain ⟨z, hzj⟩ : ∃ z, F2.w[j]? = some z := ⟨_, List.getElem?_eq_getElem (by omega)⟩
                    have hrs : RowL wr w.heap.size (.slice (some ⟨g, 0, none⟩) F2.w.length capx) F2.w := HS2.out.row (x := (_, F2.w)) (by simp)
                    have z0 := (hrs.at hzj).1
                    have q0 := (hrs.at Hyk.out).1
                    have hzy : (z.a == y.a) = false := by
                      have h : z.a ≠ y.a := fun e => by have := HO2.out.w j k z y hzj Hyk.out e; omega
                      simpa using h
                    clear hrs hzj
                    go_wp2
                    go_quiet (fail)
                    have HZ2 := Lib.hid (HS2.out.idle (below_drewN (Below.refl _ _) nq))
                    generalize wr.drewN nq = V2 at *
                    go_wp2
                    go_round
                    case rel => exact ⟨j + 1, by omega, by go_num, HZ2.out⟩
                    case measure => simp [intOf]; omega
                  · obtain rfl : j = k := by omega
                    go_wp2
                    go_round
                    case rel => exact ⟨j + 1, by omega, by go_num, HS2.out⟩
                    case measure => simp [intOf]; omega
              · go_wp2
                go_quiet (fail)
                have HZ := Lib.hid (HS.out.idle (below_drewN (Below.refl _ _) nq))
                generalize wr.drewN nq = V1 at *
                clear q0 q1 hnn
                go_wp2
                go_loopw [15] (fun i wr => ∃ j : Nat, j ≤ k ∧ i = .int .i64 j ∧ LSt w wr a F2 [(.slice (some ⟨g, 0, none⟩) F2.w.length capx, F2.w), (.slice ads F2.r.length caps, F2.r), (.slice adw F.w.length capw, F.w), (.slice adr F.r.length capr, F.r)]) (fun i _ => k - (intOf i).toNat)
                case atStart => exact ⟨0, by omega, rfl, HZ.out⟩
                case round =>
                  obtain ⟨j, hj, rfl, hs⟩ := hrel
                  have HS2 := Lib.hid hs; clear hs HS HZ
                  by_cases hjk : j < k
                  · obtain ⟨z, hzj⟩ : ∃ z, F2.w[j]? = some z := ⟨_, List.getElem?_eq_getElem (by omega)⟩
                    have hrs : RowL wr w.heap.size (.slice (some ⟨g, 0, none⟩) F2.w.length capx) F2.w := HS2.out.row (x := (_, F2.w)) (by simp)
                    have z0 := (hrs.at hzj).1
                    have q0 := (hrs.at Hyk.out).1
                    have hzy : (z.a == y.a) = false := by
                      have h : z.a ≠ y.a := fun e => by have := HO2.out.w j k z y hzj Hyk.out e; omega
                      simpa using h
                    clear hrs hzj
                    go_wp2
                    go_quiet (fail)
                    have HZ2 := Lib.hid (HS2.out.idle (below_drewN (Below.refl _ _) nq))
                    generalize wr.drewN nq = V2 at *
                    go_wp2
                    go_round
                    case rel => exact ⟨j + 1, by omega, by go_num, HZ2.out⟩
                    case measure => simp [intOf]; omega
                  · obtain rfl : j = k := by omega
                    go_wp2
                    go_round
                    case rel => exact ⟨j + 1, by omega, by go_num, HS2.out⟩
                    case measure => simp [intOf]; omega
            · obtain rfl : k = F2.w.length := by omega
              go_wp2
              go_ret
              exact ⟨rfl, HS.out.below⟩

theorem lorder_any (a0 a1 : Option Addr) (c0 c1 : Nat) (xs ys : List OpV) (w : World) (hx : OpsIn w a0 xs) (hy : OpsIn w a1 ys) :
    Calls Try.prog 9 #[.slice a0 xs.length c0, .slice a1 ys.length c1] w fun e w' => e = .returned (.bool true) ∧ Below w.heap.size w w' := by
  by_cases hl : 1000 < xs.length ∨ 1000 < ys.length
  · exact lorder_long a0 a1 _ _ c0 c1 w hl
  · exact lorder_ok a0 a1 xs ys c0 c1 w hx hy (by omega) (by omega)

end Go.Proofs.Ytfngfphoefpndaa
