/- LanesPlays: the walk. It answers true, and turns nothing that was there. -/
import Derived.Test.YtncepiaacadcpaaLanP1
namespace Go.Proofs.Ytncepiaacadcpaa
open Go.RowKit Go.BigFrame

section
variable {w0 w : World} {bx a q : Nat} {x0 x1 x2 : Int} {c : Ct}
theorem same_any (h : DO w0 w bx a q x0 x1 x2 c) : Calls Try.prog 12 #[.pointer (some ⟨a, 0, none⟩), .pointer (some ⟨q, 0, none⟩)] w fun e w' => e = .returned (.bool true) ∧ Below w0.heap.size w0 w' := by
  rcases Ct.ln_cases (Aparts.ct h (i := 1) rfl).2.ln with hl | hl | hl | hl | hl
  · exact same_0 h hl
  · exact same_1 h hl
  · exact same_2 h hl
  · exact same_3 h hl
  · exact same_4 h hl
end

set_option maxRecDepth 100000 in
set_option maxHeartbeats 1000000 in
theorem rmay_ok {f s o : Int} (h : MayB f s o) (w : World) : Calls Try.prog 10 #[.agg #[.int .i64 f, .int .i64 s, .int .i64 o]] w fun e w' => e = .returned (.bool true) ∧ Below w.heap.size w w' := by
  have HB := Lib.hid ((Below.refl _ w).alloc (Nat.le_refl _) (.cells #[.int .i64 f, .int .i64 s, .int .i64 o] 23))
  obtain ⟨⟨h1, h2⟩, ⟨h3, h4⟩, h5, h6⟩ := h
  have e1 : decide (f < 0) = false := by simp; omega
  have e2 : decide (16 < f) = false := by simp; omega
  have e3 : decide (s < 0) = false := by simp; omega
  have e4 : decide (16 < s) = false := by simp; omega
  have e5 : decide (o < 0) = false := by simp; omega
  have e6 : decide (16 < o) = false := by simp; omega
  have g1 : decide (0 ≤ f) = true := by simpa using h1
  have g2 : decide (f ≤ 16) = true := by simpa using h2
  have g3 : decide (0 ≤ s) = true := by simpa using h3
  have g4 : decide (s ≤ 16) = true := by simpa using h4
  have g5 : decide (0 ≤ o) = true := by simpa using h5
  have g6 : decide (o ≤ 16) = true := by simpa using h6
  clear h1 h2 h3 h4 h5 h6
  go_enter Try.func10, Try.ntmps10
  go_wp2
  go_ret
  exact ⟨by simp_all, HB.out⟩
set_option maxRecDepth 100000 in
set_option maxHeartbeats 2000000 in
theorem rmay_no {f s o : Int} (h : ¬ MayB f s o) (w : World) : Calls Try.prog 10 #[.agg #[.int .i64 f, .int .i64 s, .int .i64 o]] w fun e w' => e = .returned (.bool false) ∧ Below w.heap.size w w' := by
  have HB := Lib.hid ((Below.refl _ w).alloc (Nat.le_refl _) (.cells #[.int .i64 f, .int .i64 s, .int .i64 o] 23))
  have HM := Lib.hid h; clear h
  by_cases n0 : f < 0
  · have q : decide (f < 0) = true := by simp; omega
    have q2 : decide (0 ≤ f) = false := by simp; omega
    go_enter Try.func10, Try.ntmps10
    go_wp2
    go_ret
    exact ⟨by simp_all, HB.out⟩
  by_cases m0 : 16 < f
  · have q : decide (16 < f) = true := by simp; omega
    have q2 : decide (f ≤ 16) = false := by simp; omega
    have q3 : decide (f < 0) = false := by simp; omega
    have q4 : decide (0 ≤ f) = true := by simp; omega
    go_enter Try.func10, Try.ntmps10
    go_wp2
    go_ret
    exact ⟨by simp_all, HB.out⟩
  by_cases n1 : s < 0
  · have q : decide (s < 0) = true := by simp; omega
    have q2 : decide (0 ≤ s) = false := by simp; omega
    have u0a : decide (f < 0) = false := by simp; omega
    have u0b : decide (16 < f) = false := by simp; omega
    have v0a : decide (0 ≤ f) = true := by simp; omega
    have v0b : decide (f ≤ 16) = true := by simp; omega
    go_enter Try.func10, Try.ntmps10
    go_wp2
    go_ret
    exact ⟨by simp_all, HB.out⟩
  by_cases m1 : 16 < s
  · have q : decide (16 < s) = true := by simp; omega
    have q2 : decide (s ≤ 16) = false := by simp; omega
    have q3 : decide (s < 0) = false := by simp; omega
    have q4 : decide (0 ≤ s) = true := by simp; omega
    have u0a : decide (f < 0) = false := by simp; omega
    have u0b : decide (16 < f) = false := by simp; omega
    have v0a : decide (0 ≤ f) = true := by simp; omega
    have v0b : decide (f ≤ 16) = true := by simp; omega
    go_enter Try.func10, Try.ntmps10
    go_wp2
    go_ret
    exact ⟨by simp_all, HB.out⟩
  by_cases n2 : o < 0
  · have q : decide (o < 0) = true := by simp; omega
    have q2 : decide (0 ≤ o) = false := by simp; omega
    have u0a : decide (f < 0) = false := by simp; omega
    have u0b : decide (16 < f) = false := by simp; omega
    have v0a : decide (0 ≤ f) = true := by simp; omega
    have v0b : decide (f ≤ 16) = true := by simp; omega
    have u1a : decide (s < 0) = false := by simp; omega
    have u1b : decide (16 < s) = false := by simp; omega
    have v1a : decide (0 ≤ s) = true := by simp; omega
    have v1b : decide (s ≤ 16) = true := by simp; omega
    go_enter Try.func10, Try.ntmps10
    go_wp2
    go_ret
    exact ⟨by simp_all, HB.out⟩
  by_cases m2 : 16 < o
  · have q : decide (16 < o) = true := by simp; omega
    have q2 : decide (o ≤ 16) = false := by simp; omega
    have q3 : decide (o < 0) = false := by simp; omega
    have q4 : decide (0 ≤ o) = true := by simp; omega
    have u0a : decide (f < 0) = false := by simp; omega
    have u0b : decide (16 < f) = false := by simp; omega
    have v0a : decide (0 ≤ f) = true := by simp; omega
    have v0b : decide (f ≤ 16) = true := by simp; omega
    have u1a : decide (s < 0) = false := by simp; omega
    have u1b : decide (16 < s) = false := by simp; omega
    have v1a : decide (0 ≤ s) = true := by simp; omega
    have v1b : decide (s ≤ 16) = true := by simp; omega
    go_enter Try.func10, Try.ntmps10
    go_wp2
    go_ret
    exact ⟨by simp_all, HB.out⟩
  exact absurd (show MayB f s o from ⟨⟨by omega, by omega⟩, ⟨by omega, by omega⟩, by omega, by omega⟩) HM.out

set_option maxRecDepth 100000 in
set_option maxHeartbeats 1000000 in
theorem lplays_long (f s o : Int) (a0 : Option Addr) (l0 c0 : Nat) (w : World) (hl : 1000 < l0) :
    Calls Try.prog 3 #[bud f s o, .slice a0 l0 c0] w fun e w' => e = .returned (.bool true) ∧ Below w.heap.size w w' := by
  have d0 : decide ((1000 : Int) < (l0 : Int)) = true := by simp; omega
  have HB := Lib.hid ((Below.refl _ w).alloc (Nat.le_refl _) (.cells #[.int .i64 f, .int .i64 s, .int .i64 o] 23))
  unfold bud
  go_enter Try.func3, Try.ntmps3
  go_wp2
  go_ret
  exact ⟨rfl, HB.out⟩

set_option maxRecDepth 100000 in
set_option maxHeartbeats 4000000 in
theorem lplays_no (f s o : Int) (a0 : Option Addr) (xs : List OpV) (c0 : Nat) (w : World) (hl : xs.length ≤ 1000) (hm : ¬ MayB f s o) :
    Calls Try.prog 3 #[bud f s o, .slice a0 xs.length c0] w fun e w' => e = .returned (.bool true) ∧ Below w.heap.size w w' := by
  have d0 : decide ((1000 : Int) < (xs.length : Int)) = false := by simp; omega
  have H := Lib.hid ((Aparts.nil w).box 23 [.int .i64 f, .int .i64 s, .int .i64 o])
  have HM := Lib.hid hm; clear hm
  unfold bud
  go_enter Try.func3, Try.ntmps3
  go_wp2_with fail
  refine (newno_a H.out HM.out).mono ?_
  rintro e V ⟨rfl, h⟩
  clear H d0; have H := Lib.hid h; clear h
  have x0 := (H.out.hold (i := 0) rfl).cell (i := 0) rfl
  have x1 := (H.out.hold (i := 0) rfl).cell (i := 1) rfl
  have x2 := (H.out.hold (i := 0) rfl).cell (i := 2) rfl
  go_wp2_with fail
  refine (rmay_no HM.out _).mono ?_
  rintro e V ⟨rfl, hb⟩
  have HB := Lib.hid (H.out.idle hb).below; clear hb H x0 x1 x2
  go_wp2
  go_ret
  exact ⟨rfl, HB.out⟩

set_option maxRecDepth 100000 in
set_option maxHeartbeats 4000000 in
theorem lplays_ok (f s o : Int) (a0 : Option Addr) (xs : List OpV) (c0 : Nat) (w : World) (hx : RowsIn w a0 2 OpV.cells xs) (hl : xs.length ≤ 1000) (hm : MayB f s o) :
    Calls Try.prog 3 #[bud f s o, .slice a0 xs.length c0] w fun e w' => e = .returned (.bool true) ∧ Below w.heap.size w w' := by
  have HX := Lib.hid hx; clear hx
  have d0 : decide ((1000 : Int) < (xs.length : Int)) = false := by simp; omega
  have H := Lib.hid ((Aparts.nil w).box 23 [.int .i64 f, .int .i64 s, .int .i64 o])
  have HM := Lib.hid hm; clear hm
  unfold bud
  go_enter Try.func3, Try.ntmps3
  go_wp2_with fail
  refine (new_a H.out HM.out).mono ?_
  rintro e V ⟨a, rfl, h⟩
  clear H d0; have H := Lib.hid h; clear h
  have x0 := (H.out.hold (i := 0) rfl).cell (i := 0) rfl
  have x1 := (H.out.hold (i := 0) rfl).cell (i := 1) rfl
  have x2 := (H.out.hold (i := 0) rfl).cell (i := 2) rfl
  go_wp2_with fail
  refine (rmay_ok HM.out _).mono ?_
  rintro e V2 ⟨rfl, hb⟩
  have H1 := Lib.hid (H.out.idle hb); clear hb H x0 x1 x2
  have x0 := (H1.out.hold (i := 0) rfl).cell (i := 0) rfl
  have x1 := (H1.out.hold (i := 0) rfl).cell (i := 1) rfl
  have x2 := (H1.out.hold (i := 0) rfl).cell (i := 2) rfl
  have hq : (rfP V2.heap.size (Ct.new f s o)).at_ (V2.alloc (.cells #[.int .i64 f, .int .i64 s, .int .i64 o, .int .i64 0, .slice none 0 0] 33)) (fun k => V2.heap.size ≤ k ∧ k < (V2.alloc (.cells #[.int .i64 f, .int .i64 s, .int .i64 o, .int .i64 0, .slice none 0 0] 33)).heap.size) :=
    ⟨.slice none 0 0, [], Holds.new V2 33 [.int .i64 f, .int .i64 s, .int .i64 o, .int .i64 0, .slice none 0 0], World.ownsRow_nil _ _ _ _, fun g e => (by cases e), ⟨Nat.le_refl _, by simp⟩, RL.nil rfl rfl rfl⟩
  have hs : DO w (V2.alloc (.cells #[.int .i64 f, .int .i64 s, .int .i64 o, .int .i64 0, .slice none 0 0] 33)) w.heap.size a V2.heap.size f s o (Ct.new f s o) := H1.out.push ((Below.refl _ V2).alloc (Nat.le_refl _) _) hq
  have H := Lib.hid hs; clear hs hq H1 HM
  go_wp2
  generalize V2.alloc (.cells #[.int .i64 f, .int .i64 s, .int .i64 o, .int .i64 0, .slice none 0 0] 33) = W0 at *
  generalize V2.heap.size = q at *
  generalize w.heap.size = bx at *
  clear x0 x1 x2
  go_loopw [8] (fun i wr => ∃ (k : Nat) (c : Ct), k ≤ xs.length ∧ i = .int .i64 k ∧ DO w wr bx a q f s o c) (fun i _ => xs.length - (intOf i).toNat)
  case atStart => exact ⟨0, _, by omega, rfl, H.out⟩
  case round =>
    clear H
    obtain ⟨k, c, hk, rfl, hs⟩ := hrel
    have HS := Lib.hid hs; clear hs
    by_cases hlt : k < xs.length
    · obtain ⟨x, hxk⟩ : ∃ x, xs[k]? = some x := ⟨xs[k], List.getElem?_eq_getElem hlt⟩
      obtain ⟨p, z, rfl, hp, hr⟩ := HX.out.row hxk
      have Hr := Lib.hid (row_later hr hp (Aparts.below HS.out)); clear hr
      go_wp2_with (first | (refine wpList_load_mid rfl 36 (.tmp 45) rfl p (z + k * 2) rfl x.cells _ ?_ Try.underlying36 rfl Try.sizeOp ?_; exact Hr.out) | (go_at_call 11; refine (do_any HS.out x).mono ?_; rintro e V ⟨rfl, c', h⟩))
      have HV := Lib.hid h; clear h HS Hr
      go_wp2
      go_roundw
      case rel => exact ⟨k + 1, _, by omega, by go_num, HV.out⟩
      case measure => simp [intOf]; omega
    · obtain rfl : k = xs.length := by omega
      go_wp2_with fail
      refine (same_any HS.out).mono ?_
      rintro e V ⟨rfl, hb⟩
      have HB := Lib.hid hb; clear hb
      go_wp2
      go_ret
      exact ⟨rfl, HB.out⟩

theorem lplays_any (f s o : Int) (a0 : Option Addr) (l0 c0 : Nat) (w : World) (hx : Came w a0 l0 opKinds) :
    Calls Try.prog 3 #[bud f s o, .slice a0 l0 c0] w fun e w' => e = .returned (.bool true) ∧ Below w.heap.size w w' := by
  by_cases hl : 1000 < l0
  · exact lplays_long f s o a0 l0 c0 w hl
  · obtain ⟨xs, rfl, h1⟩ := ops_in hx
    by_cases hm : MayB f s o
    · exact lplays_ok f s o a0 xs c0 w h1 (by omega) hm
    · exact lplays_no f s o a0 xs c0 w (by omega) hm

end Go.Proofs.Ytncepiaacadcpaa
