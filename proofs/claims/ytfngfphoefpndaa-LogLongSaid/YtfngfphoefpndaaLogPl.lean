/- LogPlays: the walk. Conditions: those stated in each theorem. -/
import Derived.Test.YtfngfphoefpndaaLogZ
namespace Go.Proofs.Ytfngfphoefpndaa
open Go.RowKit Go.BigFrame Go.Maps

/-- At the beginning. -/
theorem start_p {w0 w : World} {a : Nat} (h : LgAt w (fun k => w0.heap.size ≤ k ∧ k < w.heap.size) a Lg.zero) (hb : Below w0.heap.size w0 w) :
    PSt w0 ((w.alloc (.cells #[.slice none 0 0, .slice none 0 0] 28)).alloc (.cells #[.slice none 0 0, .slice none 0 0] 32)) none [] a w.heap.size (w.heap.size + 1) Lg.zero Lg.zero 0 := by
  have hz := hb.size
  have hB : Below w.heap.size w ((w.alloc (.cells #[.slice none 0 0, .slice none 0 0] 28)).alloc (.cells #[.slice none 0 0, .slice none 0 0] 32)) := ((Below.refl _ w).alloc (Nat.le_refl _) _).alloc (by simp) _
  have h1 : Holds ((w.alloc (.cells #[.slice none 0 0, .slice none 0 0] 28)).alloc (.cells #[.slice none 0 0, .slice none 0 0] 32)) w.heap.size 28 [.slice none 0 0, .slice none 0 0] := (Holds.new w 28 [.slice none 0 0, .slice none 0 0]).alloc _
  have h2 : Holds ((w.alloc (.cells #[.slice none 0 0, .slice none 0 0] 28)).alloc (.cells #[.slice none 0 0, .slice none 0 0] 32)) (w.heap.size + 1) 32 [.slice none 0 0, .slice none 0 0] := by
    have := Holds.new (w.alloc (.cells #[.slice none 0 0, .slice none 0 0] 28)) 32 [.slice none 0 0, .slice none 0 0]
    rwa [World.size_alloc] at this
  have hs : ((w.alloc (.cells #[.slice none 0 0, .slice none 0 0] 28)).alloc (.cells #[.slice none 0 0, .slice none 0 0] 32)).heap.size = w.heap.size + 2 := by simp
  refine ⟨fun k => w0.heap.size ≤ k ∧ k < w.heap.size, (· = w.heap.size + 1), (· = w.heap.size), .slice none 0 0, .slice none 0 0, ⟨h.below hB, ⟨_, _, [], [], ⟨h2, rfl, World.ownsRow_nil _ _ _ _, World.ownsRow_nil _ _ _ _, fun g e => (by cases e), fun g e => (by cases e), fun g e => (by cases e), fun i x y hx => (by simp at hx)⟩⟩, ⟨h1, World.ownsRow_nil _ _ _ _, World.ownsRow_nil _ _ _ _⟩, rfl, fun g e => (by cases e), fun g e => (by cases e), fun k hk e => ?_, fun k hk e => ?_, fun k hk e => ?_, fun k hk => ?_, fun k hk => ?_, fun k hk => ?_, fun b e => (by cases e), hb.trans (hB.mono hz)⟩⟩
  · omega
  · omega
  · omega
  · rw [hs]; omega
  · rw [hs]; omega
  · rw [hs]; omega

theorem ops_row {w0 w : World} {ad : Option Addr} {xs : List OpV} (h : OpsIn w0 ad xs) (hb : Below w0.heap.size w0 w) {k : Nat} {x : OpV} (hx : xs[k]? = some x) : ∃ q c, ad = some ⟨q, c, none⟩ ∧ w.rangeAt q (c + k * 4) x.cells ∧ x.ok w0 := by
  obtain ⟨q, c, e, hq, hr⟩ := h.1.row hx
  exact ⟨q, c, e, fun i v hi => (World.cell?_of_block (a := ⟨q, c + k * 4 + i, none⟩) (hb.block q hq)).trans (hr i v hi), h.2 x (List.mem_of_getElem? hx)⟩

set_option maxRecDepth 100000 in
set_option maxHeartbeats 1000000 in
theorem lplays_long (a0 : Option Addr) (l0 c0 : Nat) (w : World) (hl : 1000 < l0) :
    Calls Try.prog 3 #[.slice a0 l0 c0] w fun e w' => e = .returned (.bool true) ∧ Below w.heap.size w w' := by
  have d0 : decide ((1000 : Int) < (l0 : Int)) = true := by simp; omega
  go_enter Try.func3, Try.ntmps3
  go_wp2
  go_ret
  exact ⟨rfl, Below.refl _ _⟩

set_option maxRecDepth 100000 in
set_option maxHeartbeats 4000000 in
theorem lplays_ok (a0 : Option Addr) (xs : List OpV) (c0 : Nat) (w : World) (hx : OpsIn w a0 xs) (hl0 : xs.length ≤ 1000) :
    Calls Try.prog 3 #[.slice a0 xs.length c0] w fun e w' => e = .returned (.bool true) ∧ Below w.heap.size w w' := by
  have HX := Lib.hid hx; clear hx
  have d0 : decide ((1000 : Int) < (xs.length : Int)) = false := by simp; omega
  go_enter Try.func3, Try.ntmps3
  go_wp2_with fail
  refine (new_any w).mono ?_
  rintro e w1 ⟨a, rfl, h, hb⟩
  have HP := Lib.hid (start_p h hb)
  clear h hb d0
  go_wp2
  generalize (w1.alloc (.cells #[.slice none 0 0, .slice none 0 0] 28)).alloc (.cells #[.slice none 0 0, .slice none 0 0] 32) = w2 at *
  generalize w1.heap.size + 1 = t at *
  generalize w1.heap.size = q at *
  go_loopw [6] (fun i wr => ∃ (k n : Nat) (f : Lg), k ≤ xs.length ∧ n ≤ k ∧ i = .int .i64 k ∧ PSt w wr none [] a q t f f n) (fun i _ => xs.length - (intOf i).toNat)
  case atStart => exact ⟨0, 0, Lg.zero, by omega, by omega, rfl, HP.out⟩
  case round =>
    clear HP
    obtain ⟨k, n, f, hk, hnk, rfl, hs⟩ := hrel
    have HS := Lib.hid hs; clear hs
    by_cases hlt : k < xs.length
    · obtain ⟨x, hxk⟩ : ∃ x, xs[k]? = some x := ⟨xs[k], List.getElem?_eq_getElem hlt⟩
      obtain ⟨q0, c, rfl, hr, hok⟩ := ops_row HX.out HS.out.below hxk
      have c3 := hr 3 _ rfl
      have Hr := Lib.hid hr; clear hr
      by_cases h3 : 300 < x.nlen
      · have d3 : decide ((300 : Int) < (x.nlen : Int)) = true := by simp; omega
        have HB := Lib.hid HS.out.below
        go_wp2
        go_ret
        exact ⟨rfl, HB.out⟩
      · have d3 : decide ((300 : Int) < (x.nlen : Int)) = false := by simp; omega
        have HD := Lib.hid (do_any HS.out (by omega) x hok (by omega))
        clear hok hxk
        go_wp2_with (first | (refine wpList_load_mid rfl 35 (.tmp 32) rfl q0 (c + k * 4) rfl x.cells _ ?_ Try.underlying35 rfl Try.sizeOp ?_; exact Hr.out) | (go_at_call 11; refine HD.out.mono ?_; rintro e V ⟨rfl, m, hm, h1⟩; have HV := Lib.hid h1; clear h1))
        go_roundw
        case rel => exact ⟨k + 1, m, _, by omega, by omega, by go_num, HV.out⟩
        case measure => simp [intOf]; omega
    · have : k = xs.length := by omega
      subst this
      go_wp2
      have hD := HS.out.idle (below_drew1 (Below.refl _ wr))
      have HF := Lib.hid HS.out.fit.2.2
      have HB0 := Lib.hid (below_drew1 HS.out.below)
      obtain ⟨ad, cap, ad2, cap2, hh, hr, hr2, -⟩ := hD.lists
      have HK : Hid (∀ V, Below wr.drew.heap.size wr.drew V → V.cell? ⟨q, 0, none⟩ = some (.slice ad f.r.length cap) ∧ V.cell? ⟨q, 1, none⟩ = some (.slice ad2 f.w.length cap2)) := Lib.hid (fun V hV => ⟨(hh.below hV).cell (i := 0) rfl, (hh.below hV).cell (i := 1) rfl⟩)
      have HRd : Hid (∀ V, Below wr.drew.heap.size wr.drew V → Calls Try.prog 13 #[.pointer (some ⟨a, 0, none⟩)] V fun e V' => ∃ ad3 cap3, e = .returned (.slice ad3 f.r.length cap3) ∧ Below wr.drew.heap.size wr.drew V' ∧ RowsIn V' ad3 2 Pr.cells f.r) := Lib.hid (fun V hV => (reads_p (hD.idle hV)).mono (fun e V' ⟨v, h1, h2, h3⟩ => by
        obtain ⟨ad3, cap3, rfl, h4, -⟩ := h2.rows
        exact ⟨ad3, cap3, h1, hV.trans (h3.mono hV.size), h4⟩))
      have HWr : Hid (∀ V, Below wr.drew.heap.size wr.drew V → Calls Try.prog 14 #[.pointer (some ⟨a, 0, none⟩)] V fun e V' => ∃ ad3 cap3, e = .returned (.slice ad3 f.w.length cap3) ∧ Below wr.drew.heap.size wr.drew V' ∧ RowsIn V' ad3 2 Pr.cells f.w) := Lib.hid (fun V hV => (writes_p (hD.idle hV)).mono (fun e V' ⟨v, h1, h2, h3⟩ => by
        obtain ⟨ad3, cap3, rfl, h4, -⟩ := h2.rows
        exact ⟨ad3, cap3, h1, hV.trans (h3.mono hV.size), h4⟩))
      have HSr : Hid (∀ V ad3 cap3, Below wr.drew.heap.size wr.drew V → RowsIn V ad3 2 Pr.cells f.r → Calls Try.prog 12 #[.slice ad3 f.r.length cap3, .slice ad f.r.length cap] V fun e V' => e = .returned (.bool true) ∧ Below wr.drew.heap.size wr.drew V') := Lib.hid (fun V ad3 cap3 hV h3 => (same_yes V ad3 ad cap3 cap f.r h3 (hr.below hV) (by have := HF.out; omega)).mono (fun e V' ⟨h1, n2, h2⟩ => ⟨h1, h2 ▸ below_drewN hV n2⟩))
      have HSw : Hid (∀ V ad3 cap3, Below wr.drew.heap.size wr.drew V → RowsIn V ad3 2 Pr.cells f.w → Calls Try.prog 12 #[.slice ad3 f.w.length cap3, .slice ad2 f.w.length cap2] V fun e V' => e = .returned (.bool true) ∧ Below wr.drew.heap.size wr.drew V') := Lib.hid (fun V ad3 cap3 hV h3 => (same_yes V ad3 ad2 cap3 cap2 f.w h3 (hr2.below hV) (by have := HF.out; omega)).mono (fun e V' ⟨h1, n2, h2⟩ => ⟨h1, h2 ▸ below_drewN hV n2⟩))
      have HSt : Hid (∀ V, Below wr.drew.heap.size wr.drew V → Calls Try.prog 15 #[.pointer (some ⟨t, 0, none⟩)] V fun e V' => e = .returned (.bool true) ∧ Below wr.drew.heap.size wr.drew V') := Lib.hid (fun V hV => (still_p (hD.idle hV) (by omega)).mono (fun e V' ⟨h1, h2⟩ => ⟨h1, hV.trans (h2.mono hV.size)⟩))
      have hB : Below wr.drew.heap.size wr.drew wr.drew := Below.refl _ _
      clear hD hh hr hr2 HS
      go_region_held3 (fun V => V.cell? ⟨q, 0, none⟩ = some (.slice ad f.r.length cap) ∧ V.cell? ⟨q, 1, none⟩ = some (.slice ad2 f.w.length cap2)) (first | with_reducible exact HK.out _ hB) (first | (go_at_call 13; (with_reducible refine (HRd.out _ hB).mono ?_); rintro e V1 ⟨ad3, cap3, rfl, hB, hr3⟩) | (go_at_call 14; (with_reducible refine (HWr.out _ hB).mono ?_); rintro e V3 ⟨ad4, cap4, rfl, hB, hr4⟩) | (go_at_call 12; (with_reducible refine (HSw.out _ _ _ hB hr4).mono ?_); rintro e V4 ⟨rfl, hB⟩) | (go_at_call 12; (with_reducible refine (HSr.out _ _ _ hB hr3).mono ?_); rintro e V2 ⟨rfl, hB⟩) | (go_at_call 15; (with_reducible refine (HSt.out _ hB).mono ?_); rintro e V5 ⟨rfl, hB⟩))
      all_goals
        have HE := Lib.hid (HB0.out.trans (hB.mono HB0.out.size))
        clear hB
        go_wp2
        go_ret
        exact ⟨by simp, HE.out⟩

theorem lplays_any (a0 : Option Addr) (c0 : Nat) (xs : List OpV) (w : World) (hx : OpsIn w a0 xs) :
    Calls Try.prog 3 #[.slice a0 xs.length c0] w fun e w' => e = .returned (.bool true) ∧ Below w.heap.size w w' := by
  by_cases hl : 1000 < xs.length
  · exact lplays_long a0 xs.length c0 w hl
  · exact lplays_ok a0 xs c0 w hx (by omega)

end Go.Proofs.Ytfngfphoefpndaa
