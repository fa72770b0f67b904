/- SoftRefused: the walk. Conditions: those stated in each theorem. -/
import Derived.Test.YthepmejfgbfilaaSoftM
namespace Go.Proofs.Ythepmejfgbfilaa
open Go.RowKit Go.BigFrame Go.Maps Go.ChangeMaps

theorem ops_row {w V : World} {ad : Option Addr} {xs : List OpQ} (h : RowsIn w ad 4 OpQ.cells xs) (hb : Below w.heap.size w V) {k : Nat} {x : OpQ} (hx : xs[k]? = some x) : ∃ q c, ad = some ⟨q, c, none⟩ ∧ q < w.heap.size ∧ V.rangeAt q (c + k * 4) x.cells := by
  obtain ⟨q, c, rfl, hq, hr⟩ := h.row hx
  exact ⟨q, c, rfl, hq, fun i v hi => by
    rw [World.cell?_of_block (a := ⟨q, c + k * 4 + i, none⟩) (hb.block q hq)]
    exact hr i v hi⟩
theorem range_below {w V V2 : World} {q o : Nat} {cs : List Value} (h : V.rangeAt q o cs) (h1 : Below w.heap.size w V) (h2 : Below w.heap.size w V2) (hq : q < w.heap.size) : V2.rangeAt q o cs := fun i v hi => by
  rw [World.cell?_of_block (a := ⟨q, o + i, none⟩) ((h2.block q hq).trans (h1.block q hq).symm)]
  exact h i v hi
section
variable {w0 w w' : World} {l l' : List Part} {i j p b c : Nat} {x y : PV} {m : Int → Int} {P Q M : Part}
theorem set_self (hi : l[i]? = some P) : l.set i P = l := by
  apply List.ext_getElem?
  intro j
  rw [List.getElem?_set]
  split
  · rename_i e; subst e
    rw [hi]
    have : i < l.length := by
      rcases Nat.lt_or_ge i l.length with h | h
      · exact h
      · rw [List.getElem?_eq_none h] at hi; cases hi
    simp [this]
  · rfl
theorem begin_r (h : Aparts w0 w l) (hi : l[i]? = some (pathP p x)) (he : x.errB = 80) : Calls Try.prog 15 #[.pointer (some ⟨p, 0, none⟩)] w fun e w' => e = .returned (.int .i64 80) ∧ Aparts w0 w' l := by
  have := begin_a h hi (show l.set i (pathP p x.begin) = l by unfold PV.begin; rw [he, if_pos (by decide)]; exact set_self hi)
  rwa [he] at this
theorem load_r (h : Aparts w0 w l) (hi : l[i]? = some (pathP p x)) (a : Int) (ha : I64 a) {r : Int} (he : x.errA a = r) (hr : r ≠ 0) : Calls Try.prog 13 #[.pointer (some ⟨p, 0, none⟩), .int .i64 a] w fun e w' => e = .returned (.int .i64 r) ∧ Aparts w0 w' l := by
  have := load_a h hi a ha (show l.set i (pathP p (x.load a)) = l by unfold PV.load; rw [he, if_pos hr]; exact set_self hi)
  rwa [he] at this
theorem store_r (h : Aparts w0 w l) (hi : l[i]? = some (pathP p x)) (a v : Int) (ha : I64 a) (hv : W64 v) {r : Int} (he : x.errA a = r) (hr : r ≠ 0) : Calls Try.prog 17 #[.pointer (some ⟨p, 0, none⟩), .int .i64 a, .int .u64 v] w fun e w' => e = .returned (.int .i64 r) ∧ Aparts w0 w' l := by
  have := store_a h hi a v ha hv (show l.set i (pathP p (x.store a v)) = l by unfold PV.store; rw [he, if_pos hr]; exact set_self hi)
  rwa [he] at this
theorem commit_r (h : Aparts w0 w l) (hi : l[i]? = some (pathP p x)) (he : x.shut = 80) : Calls Try.prog 21 #[.pointer (some ⟨p, 0, none⟩)] w fun e w' => e = .returned (.int .i64 80) ∧ Aparts w0 w' l := by
  have := commit_a h hi (show l.set i (pathP p x.commit) = l by unfold PV.commit; rw [he, if_pos (by decide)]; exact set_self hi)
  rwa [he] at this
theorem quit_r (h : Aparts w0 w l) (hi : l[i]? = some (pathP p x)) (he : x.shut = 80) : Calls Try.prog 22 #[.pointer (some ⟨p, 0, none⟩)] w fun e w' => e = .returned (.int .i64 80) ∧ Aparts w0 w' l := by
  have := quit_a h hi (show l.set i (pathP p x.quit) = l by unfold PV.quit; rw [he, if_pos (by decide)]; exact set_self hi)
  rwa [he] at this
theorem give_r (h : Aparts w0 w l) (hi : l[i]? = some (pathP p x)) (h0 : 0 ≤ x.pts) (h9 : x.pts ≤ 1000000) (v : Int) (ok : Bool) (hv : W64 v) (he : x.at_ = .no) : Calls Try.prog 14 #[.pointer (some ⟨p, 0, none⟩), .int .u64 v, .bool ok] w fun e w' => e = .returned (.int .i64 80) ∧ Aparts w0 w' l := by
  have := give_a h hi h0 h9 v ok hv (show l.set i (pathP p (x.give v ok)) = l by unfold PV.give; rw [he]; exact set_self hi)
  rwa [show x.errG = 80 from by unfold PV.errG; rw [if_pos he]] at this
end
/-- Where the walk of one path over its memory stands. -/
def One (w wr : World) (p b k : Nat) : Prop := ∃ c y m, Aparts w wr [pathP p y, memP b c m] ∧ OkS (y, m) ∧ 0 ≤ y.pts ∧ y.pts ≤ k ∧ c ≤ k

set_option maxRecDepth 100000 in
set_option maxHeartbeats 4000000 in
theorem srefused_ok (ad : Option Addr) (xs : List OpQ) (cap : Nat) (a v : Int) (w : World) (hx : RowsIn w ad 4 OpQ.cells xs) (hg : ∀ x ∈ xs, x.good) (hl : xs.length ≤ 1000) (ha : I64 a) (hv : W64 v) :
    Calls Try.prog 9 #[.slice ad xs.length cap, .int .i64 a, .int .u64 v] w fun e w' => e = .returned (.bool true) ∧ Below w.heap.size w w' := by
  have hmm := @run_makeMap Try.prog
  have d0 : decide ((1000 : Int) < (xs.length : Int)) = false := by simp; omega
  have HX := Lib.hid hx
  have HG := Lib.hid hg
  have HA := Lib.hid ha
  have HV := Lib.hid hv
  clear hx hg ha hv
  have HL := Lib.hid (alive_ok w)
  go_enter Try.func9, Try.ntmps9
  go_wp2_with (first | (go_at_call 30; refine HL.out.mono ?_; rintro e w0 ⟨rfl, hb⟩; have HN := Lib.hid (new_a ((Aparts.nil w).idle hb)); clear hb) | (go_at_call 10; refine HN.out.mono ?_; rintro e w1 ⟨p, rfl, h⟩; have H : Aparts w (w1.alloc (.map #[] 0)) [pathP p PV.zero, memP w1.heap.size 0 (fun _ => 0)] := h.push ((Below.refl w1.heap.size w1).alloc (Nat.le_refl _) (.map #[] 0)) ⟨⟨Nat.le_refl _, by simp⟩, MmAt.made w1⟩; clear h) | fail)
  generalize w1.alloc (.map #[] 0) = W at *
  generalize w1.heap.size = b at *
  have H1 : One w W p b 0 := ⟨0, PV.zero, _, H, ⟨PV.ok_zero, fun _ _ => w64_0⟩, by decide, by decide, by omega⟩
  have H := Lib.hid H1; clear H1
  go_loopw [10] (fun i wr => ∃ k : Nat, k ≤ xs.length ∧ i = .int .i64 k ∧ One w wr p b k) (fun i _ => xs.length - (intOf i).toNat)
  case atStart => exact ⟨0, by omega, rfl, H.out⟩
  case round =>
    obtain ⟨k, hk, rfl, c, y, m, hs, hok, h0, h9, hc⟩ := hrel
    have HS := Lib.hid hs; clear hs H
    by_cases hlt : k < xs.length
    · obtain ⟨x, hxk⟩ : ∃ x, xs[k]? = some x := ⟨xs[k], List.getElem?_eq_getElem hlt⟩
      obtain ⟨q, c0, rfl, hq, hr0⟩ := ops_row HX.out HS.out.below hxk
      have hgx := HG.out x (List.mem_of_getElem? hxk)
      have hrq := PV.req_ok hok.1
      have hww := hok.2 _ hrq.1
      have HW := Lib.hid (want_a HS.out (i := 0) rfl)
      have HBx : Hid (∀ w2, Aparts w w2 [pathP p y, memP b c m] → Aparts w (w2.alloc (.cells #[.int .i64 y.req.op, .int .i64 y.req.addr, .int .u64 y.req.value, .int .u64 y.req.old] 48)) [pathP p y, memP b c m, boxP w2.heap.size 48 y.req.cells] ∧ (w2.alloc (.cells #[.int .i64 y.req.op, .int .i64 y.req.addr, .int .u64 y.req.value, .int .u64 y.req.old] 48)).rangeAt q (c0 + k * 4) x.cells) := Lib.hid (fun w2 h2 => ⟨h2.box 48 y.req.cells, range_below hr0 HS.out.below (h2.box 48 y.req.cells).below hq⟩)
      clear hr0
      simp only [Rq.cells] at HW
      by_cases h5 : x.kind = 5
      · have b5 : (x.kind == 5) = true := by simp [h5]
        go_wp2_with (first | (go_at_call 18; refine HW.out.mono ?_; rintro e w2 ⟨rfl, h2⟩; obtain ⟨h3, hr⟩ := HBx.out w2 h2; have r0 := hr 0 _ rfl; have r2 := hr 2 _ rfl; have r3 := hr 3 _ rfl; rw [Nat.add_zero] at r0; have H3 := Lib.hid h3; clear h2 h3 hr) | fail)
        generalize w2.alloc (.cells #[.int .i64 y.req.op, .int .i64 y.req.addr, .int .u64 y.req.value, .int .u64 y.req.old] 48) = W2 at *
        have HD := Lib.hid (Aparts.init (l := [pathP p y, memP b c m]) (H3.out.idle (below_drew1 (Below.refl _ W2))))
        go_still_tail 11, (by kernel_rfl)
        change wpList _ _ _ _ _ W2.drew
        go_wp2_with (go_at_call 14; refine (give_a HD.out (i := 0) rfl h0 (by omega) x.v x.ok hgx.2.2 rfl).mono ?_; rintro e w3 ⟨rfl, h3⟩; have H4 := Lib.hid h3; clear h3)
        go_roundw
        case rel => exact ⟨k + 1, by omega, by go_num, c, y.give x.v x.ok, m, H4.out, ⟨PV.give_ok hok.1 hgx.2.2 _, hok.2⟩, by have := PV.give_pts y x.v x.ok; omega, by have := PV.give_pts y x.v x.ok; omega, by omega⟩
        case measure => simp [intOf]; omega
      · have b5 : (x.kind == 5) = false := by simp [h5]
        cases hb : y.busy with
        | true =>
          rw [hb] at HW
          go_wp2_with (first | (go_at_call 18; refine HW.out.mono ?_; rintro e w2 ⟨rfl, h2⟩; obtain ⟨h3, hr⟩ := HBx.out w2 h2; have r0 := hr 0 _ rfl; have r1 := hr 1 _ rfl; have r2 := hr 2 _ rfl; have r3 := hr 3 _ rfl; rw [Nat.add_zero] at r0; have H3 := Lib.hid h3; clear h2 h3 hr) | (go_at_call 19; refine (answer_a (Aparts.init (l := [pathP p y, memP b c m]) H3.out) (i := 1) rfl (by omega) y.req hrq.1 hrq.2.1 rfl).mono ?_; rintro e w3 ⟨rfl, h3⟩; have H4 := Lib.hid h3; clear h3) | (go_at_call 14; refine (give_a H4.out (i := 0) rfl h0 (by omega) _ _ hww rfl).mono ?_; rintro e w4 ⟨rfl, h4⟩; have H5 := Lib.hid h4; clear h4))
          go_roundw
          case rel => exact ⟨k + 1, by omega, by go_num, c + 1, _, _, H5.out, stepV_ok hok, by have := PV.give_pts y (m y.req.addr) (okV m y.req); omega, by have := PV.give_pts y (m y.req.addr) (okV m y.req); omega, by omega⟩
          case measure => simp [intOf]; omega
        | false =>
          rw [hb] at HW
          go_wp2_with (first | (go_at_call 18; refine HW.out.mono ?_; rintro e w2 ⟨rfl, h2⟩; obtain ⟨h3, hr⟩ := HBx.out w2 h2; have r0 := hr 0 _ rfl; have r1 := hr 1 _ rfl; have r2 := hr 2 _ rfl; have r3 := hr 3 _ rfl; rw [Nat.add_zero] at r0; have H3 := Lib.hid h3; clear h2 h3 hr) | (go_at_call 34; refine (begins_a (Aparts.init (l := [pathP p y, memP b c m]) H3.out) (i := 0) rfl x hgx 5 (by omega) (by omega) rfl).mono ?_; rintro e w4 ⟨rfl, h4⟩; have H5 := Lib.hid h4; clear h4))
          go_roundw
          case rel => exact ⟨k + 1, by omega, by go_num, c, beginsV y x 5, m, H5.out, ⟨beginsV_ok hok.1 hgx (by omega) (by omega), hok.2⟩, by rw [beginsV_pts]; omega, by rw [beginsV_pts]; omega, by omega⟩
          case measure => simp [intOf]; omega
    · have : k = xs.length := by omega
      subst this
      have hgo : ∀ V : World, Aparts w V [pathP p y, memP b c m] → Hid (Calls Try.prog 18 #[.pointer (some ⟨p, 0, none⟩)] V fun e w' => e = .returned (.tuple #[.agg #[.int .i64 y.req.op, .int .i64 y.req.addr, .int .u64 y.req.value, .int .u64 y.req.old], .bool y.busy]) ∧ Aparts w w' [pathP p y, memP b c m]) := fun V hV => Lib.hid (want_a hV (i := 0) rfl)
      have HW := hgo _ HS.out
      have HW2 : Hid (∀ V B, Aparts w V [pathP p y, memP b c m, boxP B 48 y.req.cells] → Calls Try.prog 18 #[.pointer (some ⟨p, 0, none⟩)] V fun e w' => e = .returned (.tuple #[.agg #[.int .i64 y.req.op, .int .i64 y.req.addr, .int .u64 y.req.value, .int .u64 y.req.old], .bool y.busy]) ∧ Aparts w w' [pathP p y, memP b c m, boxP B 48 y.req.cells]) := Lib.hid (fun V B hV => want_a hV (i := 0) rfl)
      have HC2 : Hid (∀ w5 B, Aparts w w5 [pathP p y, memP b c m, boxP B 48 y.req.cells] → Aparts w (w5.alloc (.cells #[.int .i64 y.req.op, .int .i64 y.req.addr, .int .u64 y.req.value, .int .u64 y.req.old] 48)) [pathP p y, memP b c m, boxP B 48 y.req.cells] ∧ (w5.alloc (.cells #[.int .i64 y.req.op, .int .i64 y.req.addr, .int .u64 y.req.value, .int .u64 y.req.old] 48)).cell? ⟨B, 0, none⟩ = some (.int .i64 y.req.op) ∧ (w5.alloc (.cells #[.int .i64 y.req.op, .int .i64 y.req.addr, .int .u64 y.req.value, .int .u64 y.req.old] 48)).cell? ⟨B, 1, none⟩ = some (.int .i64 y.req.addr) ∧ (w5.alloc (.cells #[.int .i64 y.req.op, .int .i64 y.req.addr, .int .u64 y.req.value, .int .u64 y.req.old] 48)).cell? ⟨B, 2, none⟩ = some (.int .u64 y.req.value) ∧ (w5.alloc (.cells #[.int .i64 y.req.op, .int .i64 y.req.addr, .int .u64 y.req.value, .int .u64 y.req.old] 48)).cell? ⟨B, 3, none⟩ = some (.int .u64 y.req.old)) := Lib.hid (fun w5 B h5 => by
        have h6 := h5.idle ((Below.refl _ w5).alloc (Nat.le_refl _) (.cells #[.int .i64 y.req.op, .int .i64 y.req.addr, .int .u64 y.req.value, .int .u64 y.req.old] 48))
        have hc := box_a h6 (i := 2) rfl
        exact ⟨h6, hc.cell (i := 0) rfl, hc.cell (i := 1) rfl, hc.cell (i := 2) rfl, hc.cell (i := 3) rfl⟩)
      have hA2 := HA.out
      have hV2 := HV.out
      have h99 : y.pts ≤ 1000000 := by omega
      have hsh : y.shut = if y.busy = true ∨ y.live = false then 80 else 0 := by unfold PV.shut PV.busy; by_cases e : y.at_ = .no <;> simp [e]
      have hbe : y.errB = if y.busy = true ∨ y.live = true then 80 else 0 := by unfold PV.errB PV.busy; by_cases e : y.at_ = .no <;> simp [e]
      have hno : y.busy = false → y.at_ = .no := fun e => by unfold PV.busy at e; simpa using e
      have hEA : y.errA a = if y.shut ≠ 0 then y.shut else if a < 8 then 2 else 0 := rfl
      have HYL := Lib.hid hsh
      clear hgo
      cases hb : y.busy with
      | true =>
        have HSH : Hid (y.shut = 80) := Lib.hid (by rw [hsh, hb]; simp)
        have HEB : Hid (y.errB = 80) := Lib.hid (by rw [hbe, hb]; simp)
        have HEA : Hid (y.errA a = 80) := Lib.hid (by rw [hEA, HSH.out]; simp)
        have HNO : Hid (0 = 0) := Lib.hid rfl
        clear hsh hbe hno hEA HYL
        rw [hb] at HW HW2
        generalize hlv : y.live = lv at *
        go_wp2_with (first | (go_at_call 18; refine HW.out.mono ?_; rintro e w2 ⟨rfl, h2⟩; have h3 := h2.box 48 y.req.cells; replace h3 : Aparts w (w2.alloc (.cells #[.int .i64 y.req.op, .int .i64 y.req.addr, .int .u64 y.req.value, .int .u64 y.req.old] 48)) [pathP p y, memP b c m, boxP w2.heap.size 48 y.req.cells] := h3; have HS := Lib.hid h3; clear h2 h3 HW) | (go_at_call 18; refine (HW2.out _ _ HS.out).mono ?_; rintro e w5 ⟨rfl, h5⟩; obtain ⟨h6, q0, q1, q2, q3⟩ := HC2.out _ _ h5; have HS := Lib.hid h6; clear h5 h6) | (go_at_call 23; refine (busy_a HS.out (i := 0) rfl).mono ?_; rintro e w' ⟨rfl, rfl⟩) | (go_at_call 24; refine (live_a HS.out (i := 0) rfl).mono ?_; rintro e w' ⟨rfl, rfl⟩) | (go_at_call 25; refine (value_a HS.out (i := 0) rfl).mono ?_; rintro e w' ⟨rfl, rfl⟩) | (go_at_call 20; refine (ended_a HS.out (i := 0) rfl).mono ?_; rintro e w' ⟨rfl, rfl⟩) | (go_at_call 26; refine (points_a HS.out (i := 0) rfl).mono ?_; rintro e w' ⟨rfl, rfl⟩) | (go_at_call 15; refine (begin_r HS.out (i := 0) rfl HEB.out).mono ?_; rintro e w3 ⟨rfl, h⟩; have HS := Lib.hid h; clear h) | (go_at_call 14; refine (give_r HS.out (i := 0) rfl h0 h99 v true hV2 HNO.out).mono ?_; rintro e w3 ⟨rfl, h⟩; have HS := Lib.hid h; clear h) | (go_at_call 13; refine (load_r HS.out (i := 0) rfl a hA2 HEA.out (by decide)).mono ?_; rintro e w3 ⟨rfl, h⟩; have HS := Lib.hid h; clear h) | (go_at_call 17; refine (store_r HS.out (i := 0) rfl a v hA2 hV2 HEA.out (by decide)).mono ?_; rintro e w3 ⟨rfl, h⟩; have HS := Lib.hid h; clear h) | (go_at_call 21; refine (commit_r HS.out (i := 0) rfl HSH.out).mono ?_; rintro e w3 ⟨rfl, h⟩; have HS := Lib.hid h; clear h) | (go_at_call 22; refine (quit_r HS.out (i := 0) rfl HSH.out).mono ?_; rintro e w3 ⟨rfl, h⟩; have HS := Lib.hid h; clear h))
        go_ret
        exact ⟨by simp, HS.out.below⟩
      | false =>
        have HNO : Hid (y.at_ = .no) := Lib.hid (hno hb)
        rw [hb] at HW HW2
        cases hlv : y.live with
        | false =>
          have HSH : Hid (y.shut = 80) := Lib.hid (by rw [hsh, hlv]; simp)
          have HEB : Hid (0 = 0) := Lib.hid rfl
          have HEA : Hid (y.errA a = 80) := Lib.hid (by rw [hEA, HSH.out]; simp)
          clear hsh hbe hno hEA HYL
          go_wp2_with (first | (go_at_call 18; refine HW.out.mono ?_; rintro e w2 ⟨rfl, h2⟩; have h3 := h2.box 48 y.req.cells; replace h3 : Aparts w (w2.alloc (.cells #[.int .i64 y.req.op, .int .i64 y.req.addr, .int .u64 y.req.value, .int .u64 y.req.old] 48)) [pathP p y, memP b c m, boxP w2.heap.size 48 y.req.cells] := h3; have HS := Lib.hid h3; clear h2 h3 HW) | (go_at_call 18; refine (HW2.out _ _ HS.out).mono ?_; rintro e w5 ⟨rfl, h5⟩; obtain ⟨h6, q0, q1, q2, q3⟩ := HC2.out _ _ h5; have HS := Lib.hid h6; clear h5 h6) | (go_at_call 23; refine (busy_a HS.out (i := 0) rfl).mono ?_; rintro e w' ⟨rfl, rfl⟩) | (go_at_call 24; refine (live_a HS.out (i := 0) rfl).mono ?_; rintro e w' ⟨rfl, rfl⟩) | (go_at_call 25; refine (value_a HS.out (i := 0) rfl).mono ?_; rintro e w' ⟨rfl, rfl⟩) | (go_at_call 20; refine (ended_a HS.out (i := 0) rfl).mono ?_; rintro e w' ⟨rfl, rfl⟩) | (go_at_call 26; refine (points_a HS.out (i := 0) rfl).mono ?_; rintro e w' ⟨rfl, rfl⟩) | (go_at_call 15; refine (begin_r HS.out (i := 0) rfl HEB.out).mono ?_; rintro e w3 ⟨rfl, h⟩; have HS := Lib.hid h; clear h) | (go_at_call 14; refine (give_r HS.out (i := 0) rfl h0 h99 v true hV2 HNO.out).mono ?_; rintro e w3 ⟨rfl, h⟩; have HS := Lib.hid h; clear h) | (go_at_call 13; refine (load_r HS.out (i := 0) rfl a hA2 HEA.out (by decide)).mono ?_; rintro e w3 ⟨rfl, h⟩; have HS := Lib.hid h; clear h) | (go_at_call 17; refine (store_r HS.out (i := 0) rfl a v hA2 hV2 HEA.out (by decide)).mono ?_; rintro e w3 ⟨rfl, h⟩; have HS := Lib.hid h; clear h) | (go_at_call 21; refine (commit_r HS.out (i := 0) rfl HSH.out).mono ?_; rintro e w3 ⟨rfl, h⟩; have HS := Lib.hid h; clear h) | (go_at_call 22; refine (quit_r HS.out (i := 0) rfl HSH.out).mono ?_; rintro e w3 ⟨rfl, h⟩; have HS := Lib.hid h; clear h))
          go_ret
          exact ⟨by simp, HS.out.below⟩
        | true =>
          have HSH : Hid (y.shut = 0) := Lib.hid (by rw [hsh, hlv, hb]; simp)
          have HEB : Hid (y.errB = 80) := Lib.hid (by rw [hbe, hlv]; simp)
          by_cases h8 : a < 8
          · have d8 : decide (a < 8) = true := by simpa using h8
            have HEA : Hid (y.errA a = 2) := Lib.hid (by rw [hEA, HSH.out]; simp [h8])
            clear hsh hbe hno hEA HYL
            go_wp2_with (first | (go_at_call 18; refine HW.out.mono ?_; rintro e w2 ⟨rfl, h2⟩; have h3 := h2.box 48 y.req.cells; replace h3 : Aparts w (w2.alloc (.cells #[.int .i64 y.req.op, .int .i64 y.req.addr, .int .u64 y.req.value, .int .u64 y.req.old] 48)) [pathP p y, memP b c m, boxP w2.heap.size 48 y.req.cells] := h3; have HS := Lib.hid h3; clear h2 h3 HW) | (go_at_call 18; refine (HW2.out _ _ HS.out).mono ?_; rintro e w5 ⟨rfl, h5⟩; obtain ⟨h6, q0, q1, q2, q3⟩ := HC2.out _ _ h5; have HS := Lib.hid h6; clear h5 h6) | (go_at_call 23; refine (busy_a HS.out (i := 0) rfl).mono ?_; rintro e w' ⟨rfl, rfl⟩) | (go_at_call 24; refine (live_a HS.out (i := 0) rfl).mono ?_; rintro e w' ⟨rfl, rfl⟩) | (go_at_call 25; refine (value_a HS.out (i := 0) rfl).mono ?_; rintro e w' ⟨rfl, rfl⟩) | (go_at_call 20; refine (ended_a HS.out (i := 0) rfl).mono ?_; rintro e w' ⟨rfl, rfl⟩) | (go_at_call 26; refine (points_a HS.out (i := 0) rfl).mono ?_; rintro e w' ⟨rfl, rfl⟩) | (go_at_call 15; refine (begin_r HS.out (i := 0) rfl HEB.out).mono ?_; rintro e w3 ⟨rfl, h⟩; have HS := Lib.hid h; clear h) | (go_at_call 14; refine (give_r HS.out (i := 0) rfl h0 h99 v true hV2 HNO.out).mono ?_; rintro e w3 ⟨rfl, h⟩; have HS := Lib.hid h; clear h) | (go_at_call 13; refine (load_r HS.out (i := 0) rfl a hA2 HEA.out (by decide)).mono ?_; rintro e w3 ⟨rfl, h⟩; have HS := Lib.hid h; clear h) | (go_at_call 17; refine (store_r HS.out (i := 0) rfl a v hA2 hV2 HEA.out (by decide)).mono ?_; rintro e w3 ⟨rfl, h⟩; have HS := Lib.hid h; clear h) | (go_at_call 21; refine (commit_r HS.out (i := 0) rfl HSH.out).mono ?_; rintro e w3 ⟨rfl, h⟩; have HS := Lib.hid h; clear h) | (go_at_call 22; refine (quit_r HS.out (i := 0) rfl HSH.out).mono ?_; rintro e w3 ⟨rfl, h⟩; have HS := Lib.hid h; clear h))
            go_ret
            exact ⟨by simp, HS.out.below⟩
          · have d8 : decide (a < 8) = false := by simpa using h8
            have HEA : Hid (0 = 0) := Lib.hid rfl
            clear hsh hbe hno hEA HYL
            go_wp2_with (first | (go_at_call 18; refine HW.out.mono ?_; rintro e w2 ⟨rfl, h2⟩; have h3 := h2.box 48 y.req.cells; replace h3 : Aparts w (w2.alloc (.cells #[.int .i64 y.req.op, .int .i64 y.req.addr, .int .u64 y.req.value, .int .u64 y.req.old] 48)) [pathP p y, memP b c m, boxP w2.heap.size 48 y.req.cells] := h3; have HS := Lib.hid h3; clear h2 h3 HW) | (go_at_call 18; refine (HW2.out _ _ HS.out).mono ?_; rintro e w5 ⟨rfl, h5⟩; obtain ⟨h6, q0, q1, q2, q3⟩ := HC2.out _ _ h5; have HS := Lib.hid h6; clear h5 h6) | (go_at_call 23; refine (busy_a HS.out (i := 0) rfl).mono ?_; rintro e w' ⟨rfl, rfl⟩) | (go_at_call 24; refine (live_a HS.out (i := 0) rfl).mono ?_; rintro e w' ⟨rfl, rfl⟩) | (go_at_call 25; refine (value_a HS.out (i := 0) rfl).mono ?_; rintro e w' ⟨rfl, rfl⟩) | (go_at_call 20; refine (ended_a HS.out (i := 0) rfl).mono ?_; rintro e w' ⟨rfl, rfl⟩) | (go_at_call 26; refine (points_a HS.out (i := 0) rfl).mono ?_; rintro e w' ⟨rfl, rfl⟩) | (go_at_call 15; refine (begin_r HS.out (i := 0) rfl HEB.out).mono ?_; rintro e w3 ⟨rfl, h⟩; have HS := Lib.hid h; clear h) | (go_at_call 14; refine (give_r HS.out (i := 0) rfl h0 h99 v true hV2 HNO.out).mono ?_; rintro e w3 ⟨rfl, h⟩; have HS := Lib.hid h; clear h) | (go_at_call 13; refine (load_r HS.out (i := 0) rfl a hA2 HEA.out (by decide)).mono ?_; rintro e w3 ⟨rfl, h⟩; have HS := Lib.hid h; clear h) | (go_at_call 17; refine (store_r HS.out (i := 0) rfl a v hA2 hV2 HEA.out (by decide)).mono ?_; rintro e w3 ⟨rfl, h⟩; have HS := Lib.hid h; clear h) | (go_at_call 21; refine (commit_r HS.out (i := 0) rfl HSH.out).mono ?_; rintro e w3 ⟨rfl, h⟩; have HS := Lib.hid h; clear h) | (go_at_call 22; refine (quit_r HS.out (i := 0) rfl HSH.out).mono ?_; rintro e w3 ⟨rfl, h⟩; have HS := Lib.hid h; clear h))
            go_ret
            exact ⟨by simp, HS.out.below⟩

set_option maxRecDepth 100000 in
set_option maxHeartbeats 1000000 in
theorem srefused_long (ad : Option Addr) (n cap : Nat) (a v : Int) (w : World) (hl : 1000 < n) :
    Calls Try.prog 9 #[.slice ad n cap, .int .i64 a, .int .u64 v] w fun e w' => e = .returned (.bool true) ∧ Below w.heap.size w w' := by
  have d0 : decide ((1000 : Int) < (n : Int)) = true := by simp; omega
  have HL := Lib.hid (alive_ok w)
  go_enter Try.func9, Try.ntmps9
  go_wp2_with (go_at_call 30; refine HL.out.mono ?_; rintro e w0 ⟨rfl, hb⟩; have HB := Lib.hid hb; clear hb)
  go_ret
  exact ⟨rfl, HB.out⟩
theorem srefused_any (ad : Option Addr) (n cap : Nat) (a v : Int) (w : World) (hx : Came w ad n opKinds) (ha : I64 a) (hv : W64 v) :
    Calls Try.prog 9 #[.slice ad n cap, .int .i64 a, .int .u64 v] w fun e w' => e = .returned (.bool true) ∧ Below w.heap.size w w' := by
  by_cases hl : 1000 < n
  · exact srefused_long ad n cap a v w hl
  · obtain ⟨xs, rfl, h1, h2⟩ := ops_in hx
    exact srefused_ok ad xs cap a v w h1 h2 (by omega) ha hv

end Go.Proofs.Ythepmejfgbfilaa
