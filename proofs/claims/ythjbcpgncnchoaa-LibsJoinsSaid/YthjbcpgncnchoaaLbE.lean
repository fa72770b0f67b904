/- A writer: one instruction each. Conditions: those stated in each theorem. -/
import Derived.Test.YthjbcpgncnchoaaLbC
import Derived.Test.YthjbcpgncnchoaaLbD
namespace Go.Proofs.Ythjbcpgncnchoaa
open Go.RowKit Go.BigFrame

abbrev nEnd : Nm := [101, 110, 100]
abbrev nLook : Nm := [108, 111, 111, 107]
abbrev nFound : Nm := [102, 111, 117, 110, 100]
abbrev nMissing : Nm := [109, 105, 115, 115, 105, 110, 103]
abbrev nFree : Nm := [102, 114, 101, 101]
abbrev nTaken : Nm := [116, 97, 107, 101, 110]
abbrev nRound : Nm := [114, 111, 117, 110, 100]
abbrev nOne : Nm := [111, 110, 101]
abbrev nLesser : Nm := [108, 101, 115, 115, 101, 114]
abbrev nDown : Nm := [100, 111, 119, 110]
abbrev nBottom : Nm := [98, 111, 116, 116, 111, 109]
abbrev WV.set (x : WV) (a n : Int) : WV := x.add ⟨2, a, 0, 0, n⟩
abbrev WV.mov (x : WV) (a b : Int) : WV := x.add ⟨3, a, b, 0, 0⟩
abbrev WV.sum (x : WV) (a b c : Int) : WV := x.add ⟨4, a, b, c, 0⟩
abbrev WV.sub (x : WV) (a b c : Int) : WV := x.add ⟨5, a, b, c, 0⟩
abbrev WV.load (x : WV) (a b n : Int) : WV := x.add ⟨11, a, b, 0, n⟩
abbrev WV.store (x : WV) (a b n : Int) : WV := x.add ⟨12, a, b, 0, n⟩
abbrev WV.jump (x : WV) (s : Nm) : WV := x.bra 13 0 0 s
abbrev WV.eq (x : WV) (a b : Int) (s : Nm) : WV := x.bra 14 a b s
abbrev WV.ne (x : WV) (a b : Int) (s : Nm) : WV := x.bra 15 a b s
abbrev WV.lt (x : WV) (a b : Int) (s : Nm) : WV := x.bra 16 a b s

section
variable {w w0 : World} {B N b : Nat} {P : Pl} {x : WV}
set_option maxRecDepth 100000 in
theorem set_any (h : WO B P N w0 w b x) (a n : Int) (hN : N ≤ 90000) : Calls Try.prog 72 #[.pointer (some ⟨b, 0, none⟩), .int .i64 a, .int .i64 n] w fun e w' => e = .returned (.tuple #[]) ∧ WO B P (N + 1) w0 w' b (x.set a n) := by
  have HA := Lib.hid (add_lit h 2 a 0 0 n (by omega)); clear h
  go_enter Try.func72, Try.ntmps72
  go_wp2_with (go_at_call 102; (with_reducible refine HA.out.mono ?_); rintro e w1 ⟨rfl, h⟩; have HF := Lib.hid h; clear h)
  exact ⟨rfl, .tuple #[], (by simp [results, Try.results72, go_sem]), rfl, HF.out⟩
set_option maxRecDepth 100000 in
theorem mov_any (h : WO B P N w0 w b x) (a b2 : Int) (hN : N ≤ 90000) : Calls Try.prog 90 #[.pointer (some ⟨b, 0, none⟩), .int .i64 a, .int .i64 b2] w fun e w' => e = .returned (.tuple #[]) ∧ WO B P (N + 1) w0 w' b (x.mov a b2) := by
  have HA := Lib.hid (add_lit h 3 a b2 0 0 (by omega)); clear h
  go_enter Try.func90, Try.ntmps90
  go_wp2_with (go_at_call 102; (with_reducible refine HA.out.mono ?_); rintro e w1 ⟨rfl, h⟩; have HF := Lib.hid h; clear h)
  exact ⟨rfl, .tuple #[], (by simp [results, Try.results90, go_sem]), rfl, HF.out⟩
set_option maxRecDepth 100000 in
theorem sum_any (h : WO B P N w0 w b x) (a b2 c : Int) (hN : N ≤ 90000) : Calls Try.prog 75 #[.pointer (some ⟨b, 0, none⟩), .int .i64 a, .int .i64 b2, .int .i64 c] w fun e w' => e = .returned (.tuple #[]) ∧ WO B P (N + 1) w0 w' b (x.sum a b2 c) := by
  have HA := Lib.hid (add_lit h 4 a b2 c 0 (by omega)); clear h
  go_enter Try.func75, Try.ntmps75
  go_wp2_with (go_at_call 102; (with_reducible refine HA.out.mono ?_); rintro e w1 ⟨rfl, h⟩; have HF := Lib.hid h; clear h)
  exact ⟨rfl, .tuple #[], (by simp [results, Try.results75, go_sem]), rfl, HF.out⟩
set_option maxRecDepth 100000 in
theorem sub_any (h : WO B P N w0 w b x) (a b2 c : Int) (hN : N ≤ 90000) : Calls Try.prog 80 #[.pointer (some ⟨b, 0, none⟩), .int .i64 a, .int .i64 b2, .int .i64 c] w fun e w' => e = .returned (.tuple #[]) ∧ WO B P (N + 1) w0 w' b (x.sub a b2 c) := by
  have HA := Lib.hid (add_lit h 5 a b2 c 0 (by omega)); clear h
  go_enter Try.func80, Try.ntmps80
  go_wp2_with (go_at_call 102; (with_reducible refine HA.out.mono ?_); rintro e w1 ⟨rfl, h⟩; have HF := Lib.hid h; clear h)
  exact ⟨rfl, .tuple #[], (by simp [results, Try.results80, go_sem]), rfl, HF.out⟩
set_option maxRecDepth 100000 in
theorem load_any (h : WO B P N w0 w b x) (a b2 n : Int) (hN : N ≤ 90000) : Calls Try.prog 70 #[.pointer (some ⟨b, 0, none⟩), .int .i64 a, .int .i64 b2, .int .i64 n] w fun e w' => e = .returned (.tuple #[]) ∧ WO B P (N + 1) w0 w' b (x.load a b2 n) := by
  have HA := Lib.hid (add_lit h 11 a b2 0 n (by omega)); clear h
  go_enter Try.func70, Try.ntmps70
  go_wp2_with (go_at_call 102; (with_reducible refine HA.out.mono ?_); rintro e w1 ⟨rfl, h⟩; have HF := Lib.hid h; clear h)
  exact ⟨rfl, .tuple #[], (by simp [results, Try.results70, go_sem]), rfl, HF.out⟩
set_option maxRecDepth 100000 in
theorem store_any (h : WO B P N w0 w b x) (a b2 n : Int) (hN : N ≤ 90000) : Calls Try.prog 77 #[.pointer (some ⟨b, 0, none⟩), .int .i64 a, .int .i64 b2, .int .i64 n] w fun e w' => e = .returned (.tuple #[]) ∧ WO B P (N + 1) w0 w' b (x.store a b2 n) := by
  have HA := Lib.hid (add_lit h 12 a b2 0 n (by omega)); clear h
  go_enter Try.func77, Try.ntmps77
  go_wp2_with (go_at_call 102; (with_reducible refine HA.out.mono ?_); rintro e w1 ⟨rfl, h⟩; have HF := Lib.hid h; clear h)
  exact ⟨rfl, .tuple #[], (by simp [results, Try.results77, go_sem]), rfl, HF.out⟩
set_option maxRecDepth 100000 in
theorem jump_any (h : WO B P N w0 w b x) (s : Nm) (hN : N ≤ 90000) : Calls Try.prog 85 #[.pointer (some ⟨b, 0, none⟩), s.val] w fun e w' => e = .returned (.tuple #[]) ∧ WO B P (N + 2) w0 w' b (x.jump  s) := by
  have HA := Lib.hid (branch_any h 13 0 0 s (by omega)); clear h
  generalize s.val = sv at *
  go_enter Try.func85, Try.ntmps85
  go_wp2_with (go_at_call 103; (with_reducible refine HA.out.mono ?_); rintro e w1 ⟨rfl, h⟩; have HF := Lib.hid h; clear h)
  exact ⟨rfl, .tuple #[], (by simp [results, Try.results85, go_sem]), rfl, HF.out⟩
set_option maxRecDepth 100000 in
theorem eq_any (h : WO B P N w0 w b x) (a b2 : Int) (s : Nm) (hN : N ≤ 90000) : Calls Try.prog 73 #[.pointer (some ⟨b, 0, none⟩), .int .i64 a, .int .i64 b2, s.val] w fun e w' => e = .returned (.tuple #[]) ∧ WO B P (N + 2) w0 w' b (x.eq a b2 s) := by
  have HA := Lib.hid (branch_any h 14 a b2 s (by omega)); clear h
  generalize s.val = sv at *
  go_enter Try.func73, Try.ntmps73
  go_wp2_with (go_at_call 103; (with_reducible refine HA.out.mono ?_); rintro e w1 ⟨rfl, h⟩; have HF := Lib.hid h; clear h)
  exact ⟨rfl, .tuple #[], (by simp [results, Try.results73, go_sem]), rfl, HF.out⟩
set_option maxRecDepth 100000 in
theorem ne_any (h : WO B P N w0 w b x) (a b2 : Int) (s : Nm) (hN : N ≤ 90000) : Calls Try.prog 105 #[.pointer (some ⟨b, 0, none⟩), .int .i64 a, .int .i64 b2, s.val] w fun e w' => e = .returned (.tuple #[]) ∧ WO B P (N + 2) w0 w' b (x.ne a b2 s) := by
  have HA := Lib.hid (branch_any h 15 a b2 s (by omega)); clear h
  generalize s.val = sv at *
  go_enter Try.func105, Try.ntmps105
  go_wp2_with (go_at_call 103; (with_reducible refine HA.out.mono ?_); rintro e w1 ⟨rfl, h⟩; have HF := Lib.hid h; clear h)
  exact ⟨rfl, .tuple #[], (by simp [results, Try.results105, go_sem]), rfl, HF.out⟩
set_option maxRecDepth 100000 in
theorem lt_any (h : WO B P N w0 w b x) (a b2 : Int) (s : Nm) (hN : N ≤ 90000) : Calls Try.prog 94 #[.pointer (some ⟨b, 0, none⟩), .int .i64 a, .int .i64 b2, s.val] w fun e w' => e = .returned (.tuple #[]) ∧ WO B P (N + 2) w0 w' b (x.lt a b2 s) := by
  have HA := Lib.hid (branch_any h 16 a b2 s (by omega)); clear h
  generalize s.val = sv at *
  go_enter Try.func94, Try.ntmps94
  go_wp2_with (go_at_call 103; (with_reducible refine HA.out.mono ?_); rintro e w1 ⟨rfl, h⟩; have HF := Lib.hid h; clear h)
  exact ⟨rfl, .tuple #[], (by simp [results, Try.results94, go_sem]), rfl, HF.out⟩
end

end Go.Proofs.Ythjbcpgncnchoaa
