/- LogCleared: two logs. Conditions: those stated in each theorem. -/
import Derived.Test.YtfngfphoefpndaaLogMP
import Derived.Test.YtfngfphoefpndaaPairEq
namespace Go.Proofs.Ytfngfphoefpndaa
open Go.RowKit Go.BigFrame Go.Maps

section
variable {w w1 w' : World} {a : Nat} {f f' : Lg} {S : Nat → Prop}
/-- One call behind the other. -/
theorem LOut.next (h : LOut w S a f w1) (k : LOut w1 (Gr S w w1) a f' w') : LOut w S a f' w' := by
  obtain ⟨h1, h2⟩ := h
  obtain ⟨k1, k2⟩ := k
  refine ⟨k1.more (fun k hk e => ?_), ⟨k2.os.trans h2.os, k2.tape.trans h2.tape, k2.output.trans h2.output, Nat.le_trans h2.size k2.size, fun k hk hs => (k2.block k (Nat.lt_of_lt_of_le hk h2.size) (fun e => ?_)).trans (h2.block k hk hs)⟩⟩
  · have := h2.size
    have := k2.size
    rcases e with (e | e) | e
    · exact .inl e
    · exact .inr ⟨e.1, by omega⟩
    · exact .inr ⟨by omega, e.2⟩
  · rcases e with e | e
    · exact hs e
    · omega
theorem LOut.idle (h : LOut w S a f w1) (hb : Below w1.heap.size w1 w') : LOut w S a f w' := h.next (LOut.of_idle h.1 hb)
theorem read_lw (h : LOut w S a f w1) (i v : Int) (hi : (Lit.int .i64 i).wf = true) (hv : (Lit.int .u64 v).wf = true) : Calls Try.prog 16 #[.pointer (some ⟨a, 0, none⟩), .int .i64 i, .int .u64 v] w1 fun e w' => e = .returned (.int .i64 (errRead f.r i)) ∧ LOut w S a (f.read i v) w' :=
  (read_any h.1 i v hi hv).mono fun _ _ ⟨e, k⟩ => ⟨e, h.next k⟩
theorem write_lw (h : LOut w S a f w1) (i v : Int) (hi : (Lit.int .i64 i).wf = true) (hv : (Lit.int .u64 v).wf = true) : Calls Try.prog 18 #[.pointer (some ⟨a, 0, none⟩), .int .i64 i, .int .u64 v] w1 fun e w' => e = .returned (.int .i64 (errRead f.w i)) ∧ LOut w S a (f.write i v) w' :=
  (write_any h.1 i v hi hv).mono fun _ _ ⟨e, k⟩ => ⟨e, h.next k⟩
theorem clear_lw (h : LOut w S a f w1) : Calls Try.prog 21 #[.pointer (some ⟨a, 0, none⟩)] w1 fun e w' => e = .returned (.int .i64 0) ∧ LOut w S a Lg.zero w' :=
  (clear_any h.1).mono fun _ _ ⟨e, k⟩ => ⟨e, h.next k⟩

set_option maxRecDepth 100000 in
set_option maxHeartbeats 1000000 in
theorem play_lw {w00 : World} (hbb : Below w00.heap.size w00 w) (h : LgAt w S a f) (ad : Option Addr) (cap : Nat) (xs : List OpV) (hx : OpsIn w00 ad xs) (hl : xs.length ≤ 1000) (hq : ∀ q, q < w00.heap.size → ¬ S q) :
    Calls Try.prog 25 #[.pointer (some ⟨a, 0, none⟩), .slice ad xs.length cap] w fun e w' => e = .returned (.tuple #[]) ∧ LOut w S a (playL f xs) w' := by
  have H := Lib.hid (LOut.refl h); clear h
  have HQ := Lib.hid hq; clear hq
  have HBB := Lib.hid hbb; clear hbb
  have HX := Lib.hid hx; clear hx
  go_enter Try.func25, Try.ntmps25
  go_wp2
  go_loopw [4] (fun i wr => ∃ k : Nat, k ≤ xs.length ∧ i = .int .i64 k ∧ LOut w S a (playL f (xs.take k)) wr) (fun i _ => xs.length - (intOf i).toNat)
  case atStart => exact ⟨0, by omega, rfl, H.out⟩
  case round =>
    obtain ⟨k, hk, rfl, hs⟩ := hrel
    have HS := Lib.hid hs; clear hs H
    by_cases hlt : k < xs.length
    · obtain ⟨x, hxk⟩ : ∃ x, xs[k]? = some x := ⟨xs[k], List.getElem?_eq_getElem hlt⟩
      obtain ⟨q, c, rfl, hq, hr⟩ := HX.out.1.row hxk
      have hok := (HX.out.2 x (List.mem_of_getElem? hxk)).1
      have hr : wr.rangeAt q (c + k * 4) x.cells := fun i v hi => by
        rw [World.cell?_of_block (a := ⟨q, c + k * 4 + i, none⟩) ((HS.out.2.block q (Nat.lt_of_lt_of_le hq HBB.out.size) (HQ.out q hq)).trans (HBB.out.block q hq))]
        exact hr i v hi
      have c0 := hr 0 _ rfl
      have c1 := hr 1 _ rfl
      have c2 := hr 2 _ rfl
      rw [Nat.add_zero] at c0
      clear hr
      have Hok := Lib.hid hok; clear hok
      have Hxk := Lib.hid (playL_take xs f hxk); clear hxk
      have HD := Lib.hid (HS.out.idle (below_drew1 (Below.refl _ wr)))
      by_cases h0 : x.kind = 0
      · have b0 : (x.kind == 0) = true := by simp [h0]
        go_wp2
        go_still_tail 11, (by kernel_rfl)
        change wpList _ _ _ _ _ wr.drew
        go_wp2_with fail
        refine (read_lw HD.out x.a x.v Hok.out.1 Hok.out.2).mono ?_
        rintro e wv ⟨rfl, hs⟩
        have Hs := Lib.hid hs; clear hs
        go_wp2
        go_roundw
        case rel => exact ⟨k + 1, by omega, by go_num, by rw [Hxk.out]; simpa [stepL, b0] using Hs.out⟩
        case measure => simp [intOf]; omega
      have b0 : (x.kind == 0) = false := by simp [h0]
      by_cases h1 : x.kind = 1
      · have b1 : (x.kind == 1) = true := by simp [h1]
        go_wp2
        go_still_tail 11, (by kernel_rfl)
        change wpList _ _ _ _ _ wr.drew
        go_wp2_with fail
        refine (write_lw HD.out x.a x.v Hok.out.1 Hok.out.2).mono ?_
        rintro e wv ⟨rfl, hs⟩
        have Hs := Lib.hid hs; clear hs
        go_wp2
        go_roundw
        case rel => exact ⟨k + 1, by omega, by go_num, by rw [Hxk.out]; simpa [stepL, b0, b1] using Hs.out⟩
        case measure => simp [intOf]; omega
      have b1 : (x.kind == 1) = false := by simp [h1]
      by_cases h2 : x.kind = 2
      · have b2 : (x.kind == 2) = true := by simp [h2]
        go_wp2_with fail
        refine (clear_lw HS.out).mono ?_
        rintro e wv ⟨rfl, hs⟩
        have Hs := Lib.hid hs; clear hs
        go_wp2
        go_roundw
        case rel => exact ⟨k + 1, by omega, by go_num, by rw [Hxk.out]; simpa [stepL, b0, b1, b2] using Hs.out⟩
        case measure => simp [intOf]; omega
      have b2 : (x.kind == 2) = false := by simp [h2]
      go_wp2
      go_roundw
      case rel => exact ⟨k + 1, by omega, by go_num, by rw [Hxk.out]; simpa [stepL, b0, b1, b2] using HS.out⟩
      case measure => simp [intOf]; omega
    · have : k = xs.length := by omega
      subst this
      have hs := HS.out
      rw [List.take_length] at hs
      have HF := Lib.hid hs; clear hs
      go_wp2
      exact ⟨rfl, .tuple #[], (by simp [results, Try.results25, go_sem]), rfl, HF.out⟩
end

/-- Two logs that have nothing in common. -/
structure LSt2 (w0 w : World) (a b : Nat) (f g : Lg) : Prop where
  own : ∃ S T : Nat → Prop, (LgAt w S a f ∧ LgAt w T b g) ∧ (∀ k, S k → ¬ T k) ∧ (∀ k, S k → w0.heap.size ≤ k ∧ k < w.heap.size) ∧ ∀ k, T k → w0.heap.size ≤ k ∧ k < w.heap.size
  below : Below w0.heap.size w0 w
section
variable {w0 w w' : World} {a b : Nat} {f f' g g' : Lg} {G : List (Value × List Pr)}
theorem LSt2.swap (h : LSt2 w0 w a b f g) : LSt2 w0 w b a g f := by
  obtain ⟨⟨S, T, ⟨h1, h2⟩, h3, h4, h5⟩, h6⟩ := h
  exact ⟨⟨T, S, ⟨h2, h1⟩, fun k hk hs => h3 k hs hk, h5, h4⟩, h6⟩
theorem LSt2.idle (h : LSt2 w0 w a b f g) (hb : Below w.heap.size w w') : LSt2 w0 w' a b f g := by
  obtain ⟨⟨S, T, ⟨h1, h2⟩, h3, h4, h5⟩, h6⟩ := h
  exact ⟨⟨S, T, ⟨h1.below hb, h2.below hb⟩, h3, fun k hk => ⟨(h4 k hk).1, Nat.lt_of_lt_of_le (h4 k hk).2 hb.size⟩, fun k hk => ⟨(h5 k hk).1, Nat.lt_of_lt_of_le (h5 k hk).2 hb.size⟩⟩, h6.trans (hb.mono h6.size)⟩
theorem LSt2.turn {S T : Nat → Prop} (h2 : LgAt w T b g) (h3 : ∀ k, S k → ¬ T k) (h4 : ∀ k, S k → w0.heap.size ≤ k ∧ k < w.heap.size) (h5 : ∀ k, T k → w0.heap.size ≤ k ∧ k < w.heap.size) (h6 : Below w0.heap.size w0 w) (k : LOut w S a f' w') : LSt2 w0 w' a b f' g := by
  obtain ⟨k1, k2⟩ := k
  refine ⟨⟨_, T, ⟨k1, h2.frame k2 (fun k hk hs => h3 k hs hk)⟩, fun k hk ht => ?_, fun k hk => ?_, fun k hk => ⟨(h5 k hk).1, Nat.lt_of_lt_of_le (h5 k hk).2 k2.size⟩⟩, h6.trans (k2.below h6.size (fun k hk => (h4 k hk).1))⟩
  · rcases hk with hk | hk
    · exact h3 k hk ht
    · have := (h5 k ht).2; omega
  · rcases hk with hk | hk
    · exact ⟨(h4 k hk).1, Nat.lt_of_lt_of_le (h4 k hk).2 k2.size⟩
    · exact ⟨Nat.le_trans h6.size hk.1, hk.2⟩
theorem LSt2.st (h : LSt2 w0 w a b f g) : LSt w0 w a f [] ∧ LSt w0 w b g [] := by
  obtain ⟨⟨S, T, ⟨h1, h2⟩, h3, h4, h5⟩, h6⟩ := h
  exact ⟨⟨⟨S, h1, h4, by simp [Aside]⟩, h6⟩, ⟨⟨T, h2, h5, by simp [Aside]⟩, h6⟩⟩
theorem play_2 (h : LSt2 w0 w a b f g) (ad : Option Addr) (cap : Nat) (xs : List OpV) (hx : OpsIn w0 ad xs) (hl : xs.length ≤ 1000) :
    Calls Try.prog 25 #[.pointer (some ⟨a, 0, none⟩), .slice ad xs.length cap] w fun e w' => e = .returned (.tuple #[]) ∧ LSt2 w0 w' a b (playL f xs) g := by
  obtain ⟨⟨S, T, ⟨h1, h2⟩, h3, h4, h5⟩, h6⟩ := h
  exact (play_lw h6 h1 ad cap xs hx hl (fun q hq hs => by have := (h4 q hs).1; omega)).mono fun _ _ ⟨e, k⟩ => ⟨e, LSt2.turn h2 h3 h4 h5 h6 k⟩
theorem clear_2 (h : LSt2 w0 w a b f g) : Calls Try.prog 21 #[.pointer (some ⟨a, 0, none⟩)] w fun e w' => e = .returned (.int .i64 0) ∧ LSt2 w0 w' a b Lg.zero g := by
  obtain ⟨⟨S, T, ⟨h1, h2⟩, h3, h4, h5⟩, h6⟩ := h
  exact (clear_any h1).mono fun _ _ ⟨e, k⟩ => ⟨e, LSt2.turn h2 h3 h4 h5 h6 k⟩
theorem reads_2 (h : LSt2 w0 w a b f g) : Calls Try.prog 13 #[.pointer (some ⟨a, 0, none⟩)] w fun e w' => ∃ ad cap, e = .returned (.slice ad f.r.length cap) ∧ LSt2 w0 w' a b f g := by
  have h0 := h
  obtain ⟨⟨S, T, ⟨h1, h2⟩, h3, h4, h5⟩, h6⟩ := h
  refine (reads_any h1).mono fun _ _ ⟨v, e, k1, k2⟩ => ?_
  obtain ⟨ad, cap, rfl, -⟩ := k1.rows
  exact ⟨ad, cap, e, h0.idle k2⟩
theorem writes_2 (h : LSt2 w0 w a b f g) : Calls Try.prog 14 #[.pointer (some ⟨a, 0, none⟩)] w fun e w' => ∃ ad cap, e = .returned (.slice ad f.w.length cap) ∧ LSt2 w0 w' a b f g := by
  have h0 := h
  obtain ⟨⟨S, T, ⟨h1, h2⟩, h3, h4, h5⟩, h6⟩ := h
  refine (writes_any h1).mono fun _ _ ⟨v, e, k1, k2⟩ => ?_
  obtain ⟨ad, cap, rfl, -⟩ := k1.rows
  exact ⟨ad, cap, e, h0.idle k2⟩
theorem new_2 (hb : Below w0.heap.size w0 w) : Calls Try.prog 10 #[] w fun e w' => ∃ a, e = .returned (.pointer (some ⟨a, 0, none⟩)) ∧ LSt w0 w' a Lg.zero [] := new_st hb
theorem new_3 (h : LSt w0 w a f []) : Calls Try.prog 10 #[] w fun e w' => ∃ b, e = .returned (.pointer (some ⟨b, 0, none⟩)) ∧ LSt2 w0 w' a b f Lg.zero := by
  obtain ⟨⟨S, h1, h2, -⟩, h4⟩ := h
  exact (new_any w).mono fun _ w' ⟨b, e, k1, k2⟩ => ⟨b, e, ⟨S, _, ⟨h1.below k2, k1⟩, fun k hs ht => by have := (h2 k hs).2; omega, fun k hk => ⟨(h2 k hk).1, Nat.lt_of_lt_of_le (h2 k hk).2 k2.size⟩, fun k hk => ⟨Nat.le_trans h4.size hk.1, hk.2⟩⟩, h4.trans (k2.mono h4.size)⟩

/-- Two logs that are only asked now; rows lie aside. -/
def LP (w0 w : World) (a b : Nat) (f g : Lg) (G : List (Value × List Pr)) : Prop := LSt w0 w a f G ∧ LSt w0 w b g G
theorem LP.idle (h : LP w0 w a b f g G) (hb : Below w.heap.size w w') : LP w0 w' a b f g G := ⟨h.1.idle hb, h.2.idle hb⟩
theorem reads_p (h : LP w0 w a b f g G) : Calls Try.prog 13 #[.pointer (some ⟨a, 0, none⟩)] w fun e w' => ∃ v, e = .returned v ∧ LP w0 w' a b f g ((v, f.r) :: G) := by
  obtain ⟨h1, h2⟩ := h
  have h0 := h1
  obtain ⟨⟨S, h1, -, -⟩, -⟩ := h1
  exact (reads_any h1).mono fun _ _ ⟨v, e, k1, k2⟩ => ⟨v, e, h0.more k2 k1, h2.more k2 k1⟩
theorem writes_p (h : LP w0 w a b f g G) : Calls Try.prog 14 #[.pointer (some ⟨a, 0, none⟩)] w fun e w' => ∃ v, e = .returned v ∧ LP w0 w' a b f g ((v, f.w) :: G) := by
  obtain ⟨h1, h2⟩ := h
  have h0 := h1
  obtain ⟨⟨S, h1, -, -⟩, -⟩ := h1
  exact (writes_any h1).mono fun _ _ ⟨v, e, k1, k2⟩ => ⟨v, e, h0.more k2 k1, h2.more k2 k1⟩
theorem LP.swap (h : LP w0 w a b f g G) : LP w0 w b a g f G := ⟨h.2, h.1⟩
end

set_option maxRecDepth 100000 in
set_option maxHeartbeats 1000000 in
theorem lcleared_long (a0 a1 : Option Addr) (l0 l1 c0 c1 : Nat) (w : World) (hl : 1000 < l0 ∨ 1000 < l1) :
    Calls Try.prog 8 #[.slice a0 l0 c0, .slice a1 l1 c1] w fun e w' => e = .returned (.bool true) ∧ Below w.heap.size w w' := by
  have HL : Hid (1000 < l0 ∨ 1000 < l1) := Lib.hid hl
  clear hl
  go_enter Try.func8, Try.ntmps8
  go_wp2_with fail
  refine (alive_ok _).mono ?_
  rintro e w1 ⟨rfl, hb⟩
  have Hb := Lib.hid hb; clear hb
  by_cases h0 : 1000 < l0
  · have d0 : decide ((1000 : Int) < (l0 : Int)) = true := by simp; omega
    go_wp2
    go_ret
    exact ⟨rfl, Hb.out⟩
  · have h1 : 1000 < l1 := HL.out.resolve_left h0
    have d0 : decide ((1000 : Int) < (l0 : Int)) = false := by simp; omega
    have d1 : decide ((1000 : Int) < (l1 : Int)) = true := by simp; omega
    go_wp2
    go_ret
    exact ⟨rfl, Hb.out⟩

set_option maxRecDepth 100000 in
set_option maxHeartbeats 4000000 in
theorem lcleared_ok (a0 a1 : Option Addr) (xs ys : List OpV) (c0 c1 : Nat) (w : World) (hx : OpsIn w a0 xs) (hy : OpsIn w a1 ys) (hl0 : xs.length ≤ 1000) (hl1 : ys.length ≤ 1000) :
    Calls Try.prog 8 #[.slice a0 xs.length c0, .slice a1 ys.length c1] w fun e w' => e = .returned (.bool true) ∧ Below w.heap.size w w' := by
  have HX := Lib.hid hx; clear hx
  have HY := Lib.hid hy; clear hy
  have HL0 := Lib.hid hl0
  have HL1 := Lib.hid hl1
  have d0 : decide ((1000 : Int) < (xs.length : Int)) = false := by simp; omega
  have d1 : decide ((1000 : Int) < (ys.length : Int)) = false := by simp; omega
  clear hl0 hl1
  go_enter Try.func8, Try.ntmps8
  go_wp2_with fail
  refine (alive_ok _).mono ?_
  rintro e w1 ⟨rfl, hb⟩
  have Hb := Lib.hid hb; clear hb
  go_wp2_with fail
  clear d0 d1
  refine (new_2 Hb.out).mono ?_
  rintro e w2 ⟨a, rfl, h⟩
  have H := Lib.hid h; clear h Hb
  go_wp2_with fail
  refine (new_3 H.out).mono ?_
  rintro e w3 ⟨b, rfl, h⟩
  clear H; have H := Lib.hid h; clear h
  go_wp2_with fail
  refine (play_2 H.out a0 c0 xs HX.out HL0.out).mono ?_
  rintro e w4 ⟨rfl, h⟩
  clear H HX HL0; have H := Lib.hid h; clear h
  go_wp2_with fail
  refine (clear_2 H.out).mono ?_
  rintro e w5 ⟨rfl, h⟩
  clear H; have H := Lib.hid h; clear h
  go_wp2_with fail
  refine (reads_2 H.out).mono ?_
  rintro e w6 ⟨ad1, cap1, rfl, h⟩
  rw [show Lg.zero.r.length = 0 from rfl]
  clear H; have H := Lib.hid h; clear h
  go_wp2_with fail
  refine (writes_2 H.out).mono ?_
  rintro e w7 ⟨ad2, cap2, rfl, h⟩
  rw [show Lg.zero.w.length = 0 from rfl]
  clear H; have H := Lib.hid h; clear h
  go_wp2_with fail
  refine (play_2 H.out a1 c1 ys HY.out HL1.out).mono ?_
  rintro e w8 ⟨rfl, h⟩
  clear H; have H := Lib.hid h.swap; clear h
  go_wp2_with fail
  refine (play_2 H.out a1 c1 ys HY.out HL1.out).mono ?_
  rintro e w9 ⟨rfl, h⟩
  have hO := LO.zero.play ys
  generalize playL Lg.zero ys = F at *
  clear H HY HL1; have H : Hid (LP w w9 a b F F []) := Lib.hid h.swap.st; clear h
  have HO := Lib.hid hO; clear hO
  go_wp2_with fail
  refine (reads_p H.out).mono ?_
  rintro e wa ⟨vr, rfl, h⟩
  obtain ⟨adr, capr, rfl, hrr, -⟩ := h.1.row1.rows
  clear H hrr; have H := Lib.hid h.swap; clear h
  go_wp2_with fail
  refine (reads_p H.out).mono ?_
  rintro e wb ⟨vs, rfl, h⟩
  obtain ⟨ads, caps, rfl, hrr, -⟩ := h.1.row1.rows
  clear H hrr; have H := Lib.hid h.swap; clear h
  go_wp2_with fail
  refine (writes_p H.out).mono ?_
  rintro e wc ⟨vw, rfl, h⟩
  obtain ⟨adw, capw, rfl, hrr, -⟩ := h.1.row1.rows
  clear H hrr; have H := Lib.hid h.swap; clear h
  go_wp2_with fail
  refine (writes_p H.out).mono ?_
  rintro e wd ⟨vx, rfl, h⟩
  obtain ⟨adx, capx, rfl, hrr, -⟩ := h.1.row1.rows
  clear H hrr; have H := Lib.hid h.swap; clear h
  have hlr := H.out.1.fit.2.2.1
  have hlw := H.out.1.fit.2.2.2
  go_wp2
  go_loopw [12] (fun i wr => ∃ k : Nat, k ≤ F.r.length ∧ i = .int .i64 k ∧ LP w wr a b F F [(.slice adx F.w.length capx, F.w), (.slice adw F.w.length capw, F.w), (.slice ads F.r.length caps, F.r), (.slice adr F.r.length capr, F.r)]) (fun i _ => F.r.length - (intOf i).toNat)
  case atStart => exact ⟨0, by omega, rfl, H.out⟩
  case round =>
    obtain ⟨k, hk, rfl, hs⟩ := hrel
    have HS := Lib.hid hs; clear hs H
    by_cases hlt : k < F.r.length
    · obtain ⟨y, hyk⟩ : ∃ y, F.r[k]? = some y := ⟨_, List.getElem?_eq_getElem hlt⟩
      have hrs : RowL wr w.heap.size (.slice adr F.r.length capr) F.r := HS.out.1.row (x := (_, F.r)) (by simp)
      obtain ⟨g, cap', e⟩ := hrs.form (by omega)
      simp only [Value.slice.injEq] at e
      obtain ⟨rfl, -, rfl⟩ := e
      obtain ⟨q0, q1⟩ := hrs.at hyk
      have hrr : RowL wr w.heap.size (.slice ads F.r.length caps) F.r := HS.out.1.row (x := (_, F.r)) (by simp)
      obtain ⟨g2, cap', e⟩ := hrr.form (by omega)
      simp only [Value.slice.injEq] at e
      obtain ⟨rfl, -, rfl⟩ := e
      obtain ⟨p0, p1⟩ := hrr.at hyk
      have hy := HS.out.1.fit.1 y (List.mem_of_getElem? hyk)
      have hh : hasL F.r y.a = true := by unfold hasL; rw [HO.out.r.pos hyk]; rfl
      have hv : valL F.r y.a = y.v := valL_at (HO.out.r.pos hyk) hyk
      have HC := was_st HS.out.1 y.a hy.1
      rw [hh, hv] at HC
      have HC := Lib.hid HC
      clear hrs hrr hyk hy hh hv
      go_wp2_with fail
      refine HC.out.mono ?_
      rintro e w' ⟨rfl, rfl⟩
      go_wp2
      go_quiet (fail)
      have HZ := Lib.hid (HS.out.idle (below_drewN (Below.refl _ _) nq))
      generalize wr.drewN nq = V1 at *
      go_wp2
      go_round
      case rel => exact ⟨k + 1, by omega, by go_num, HZ.out⟩
      case measure => simp [intOf]; omega
    · obtain rfl : k = F.r.length := by omega
      go_wp2
      go_loopw [15] (fun i wr => ∃ k : Nat, k ≤ F.w.length ∧ i = .int .i64 k ∧ LP w wr a b F F [(.slice adx F.w.length capx, F.w), (.slice adw F.w.length capw, F.w), (.slice ads F.r.length caps, F.r), (.slice adr F.r.length capr, F.r)]) (fun i _ => F.w.length - (intOf i).toNat)
      case atStart => exact ⟨0, by omega, rfl, HS.out⟩
      case round =>
        obtain ⟨k, hk, rfl, hs⟩ := hrel
        have HS := Lib.hid hs; clear hs
        by_cases hlt : k < F.w.length
        · obtain ⟨y, hyk⟩ : ∃ y, F.w[k]? = some y := ⟨_, List.getElem?_eq_getElem hlt⟩
          have hrs : RowL wr w.heap.size (.slice adw F.w.length capw) F.w := HS.out.1.row (x := (_, F.w)) (by simp)
          obtain ⟨g, cap', e⟩ := hrs.form (by omega)
          simp only [Value.slice.injEq] at e
          obtain ⟨rfl, -, rfl⟩ := e
          obtain ⟨q0, q1⟩ := hrs.at hyk
          have hrr : RowL wr w.heap.size (.slice adx F.w.length capx) F.w := HS.out.1.row (x := (_, F.w)) (by simp)
          obtain ⟨g2, cap', e⟩ := hrr.form (by omega)
          simp only [Value.slice.injEq] at e
          obtain ⟨rfl, -, rfl⟩ := e
          obtain ⟨p0, p1⟩ := hrr.at hyk
          have hy := HS.out.1.fit.2.1 y (List.mem_of_getElem? hyk)
          have hh : hasL F.w y.a = true := by unfold hasL; rw [HO.out.w.pos hyk]; rfl
          have hv : valL F.w y.a = y.v := valL_at (HO.out.w.pos hyk) hyk
          have HC := look_st HS.out.2 y.a hy.1
          rw [hh, hv] at HC
          have HC := Lib.hid HC
          clear hrs hrr hyk hy hh hv
          go_wp2_with fail
          refine HC.out.mono ?_
          rintro e w' ⟨rfl, rfl⟩
          go_wp2
          go_quiet (fail)
          have HZ := Lib.hid (HS.out.idle (below_drewN (Below.refl _ _) nq))
          generalize wr.drewN nq = V1 at *
          go_wp2
          go_round
          case rel => exact ⟨k + 1, by omega, by go_num, HZ.out⟩
          case measure => simp [intOf]; omega
        · obtain rfl : k = F.w.length := by omega
          go_wp2
          go_ret
          exact ⟨rfl, HS.out.1.below⟩

theorem lcleared_any (a0 a1 : Option Addr) (c0 c1 : Nat) (xs ys : List OpV) (w : World) (hx : OpsIn w a0 xs) (hy : OpsIn w a1 ys) :
    Calls Try.prog 8 #[.slice a0 xs.length c0, .slice a1 ys.length c1] w fun e w' => e = .returned (.bool true) ∧ Below w.heap.size w w' := by
  by_cases hl : 1000 < xs.length ∨ 1000 < ys.length
  · exact lcleared_long a0 a1 _ _ c0 c1 w hl
  · exact lcleared_ok a0 a1 xs ys c0 c1 w hx hy (by omega) (by omega)

end Go.Proofs.Ytfngfphoefpndaa
