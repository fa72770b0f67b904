/- A writer: what several codes have in common. Conditions: those stated in each theorem. -/
import Derived.Test.YthjbcpgncnchoaaLbE
import Derived.Deep.RegionHeld3
namespace Go.Proofs.Ythjbcpgncnchoaa
open Go.RowKit Go.BigFrame

theorem below_box {w w' : World} (h : Below w.heap.size w w') : Below w.heap.size w w' := h
section
variable {w w0 : World} {B N b : Nat} {P : Pl} {x : WV}

def WV.along (x : WV) (P : Pl) : WV := (x).mov 4 5
set_option maxRecDepth 100000 in
set_option maxHeartbeats 2000000 in
theorem along_any (h : WO B P N w0 w b x) (hP : P.Ok) (hN : N ≤ 80000) : Calls Try.prog 48 #[.pointer (some ⟨b, 0, none⟩)] w fun e w' => e = .returned (.tuple #[]) ∧ WO B P (N + 1) w0 w' b (x.along P) := by
  obtain ⟨q0, q1, q2, q3⟩ := h.pool
  have H := Lib.hid h; clear h
  have HN := Lib.hid hN; clear hN
  go_enter Try.func48, Try.ntmps48
  go_wp2_with (first | (go_at_call 90; (with_reducible refine (mov_any H.out 4 5 (by have := HN.out; omega)).mono ?_); rintro e w1 ⟨rfl, h⟩; (try clear q0 q1 q2 q3); obtain ⟨q0, q1, q2, q3⟩ := h.pool; have H := Lib.hid h; clear h))
  exact ⟨rfl, .tuple #[], (by simp [results, Try.results48, go_sem]), rfl, H.out.more (by omega)⟩

def WV.shorten (x : WV) (P : Pl) : WV := ((x).load 6 5 0).store 6 4 0
set_option maxRecDepth 100000 in
set_option maxHeartbeats 2000000 in
theorem shorten_any (h : WO B P N w0 w b x) (hP : P.Ok) (hN : N ≤ 80000) : Calls Try.prog 51 #[.pointer (some ⟨b, 0, none⟩)] w fun e w' => e = .returned (.tuple #[]) ∧ WO B P (N + 2) w0 w' b (x.shorten P) := by
  obtain ⟨q0, q1, q2, q3⟩ := h.pool
  have H := Lib.hid h; clear h
  have HN := Lib.hid hN; clear hN
  go_enter Try.func51, Try.ntmps51
  go_wp2_with (first | (go_at_call 70; (with_reducible refine (load_any H.out 6 5 0 (by have := HN.out; omega)).mono ?_); rintro e w1 ⟨rfl, h⟩; (try clear q0 q1 q2 q3); obtain ⟨q0, q1, q2, q3⟩ := h.pool; have H := Lib.hid h; clear h) | (go_at_call 77; (with_reducible refine (store_any H.out 6 4 0 (by have := HN.out; omega)).mono ?_); rintro e w1 ⟨rfl, h⟩; (try clear q0 q1 q2 q3); obtain ⟨q0, q1, q2, q3⟩ := h.pool; have H := Lib.hid h; clear h))
  exact ⟨rfl, .tuple #[], (by simp [results, Try.results51, go_sem]), rfl, H.out.more (by omega)⟩

def WV.beside (x : WV) (P : Pl) : WV := ((x).set 6 1).sum 4 5 6
set_option maxRecDepth 100000 in
set_option maxHeartbeats 2000000 in
theorem beside_any (h : WO B P N w0 w b x) (hP : P.Ok) (hN : N ≤ 80000) : Calls Try.prog 95 #[.pointer (some ⟨b, 0, none⟩)] w fun e w' => e = .returned (.tuple #[]) ∧ WO B P (N + 2) w0 w' b (x.beside P) := by
  obtain ⟨q0, q1, q2, q3⟩ := h.pool
  have H := Lib.hid h; clear h
  have HN := Lib.hid hN; clear hN
  go_enter Try.func95, Try.ntmps95
  go_wp2_with (first | (go_at_call 72; (with_reducible refine (set_any H.out 6 1 (by have := HN.out; omega)).mono ?_); rintro e w1 ⟨rfl, h⟩; (try clear q0 q1 q2 q3); obtain ⟨q0, q1, q2, q3⟩ := h.pool; have H := Lib.hid h; clear h) | (go_at_call 75; (with_reducible refine (sum_any H.out 4 5 6 (by have := HN.out; omega)).mono ?_); rintro e w1 ⟨rfl, h⟩; (try clear q0 q1 q2 q3); obtain ⟨q0, q1, q2, q3⟩ := h.pool; have H := Lib.hid h; clear h))
  exact ⟨rfl, .tuple #[], (by simp [results, Try.results95, go_sem]), rfl, H.out.more (by omega)⟩

def WV.round (x : WV) (P : Pl) : WV := ((((x).set 6 P.many).lt 4 6 nRound).sub 4 4 6).name nRound
set_option maxRecDepth 100000 in
set_option maxHeartbeats 2000000 in
theorem round_any (h : WO B P N w0 w b x) (hP : P.Ok) (hN : N ≤ 80000) : Calls Try.prog 76 #[.pointer (some ⟨b, 0, none⟩)] w fun e w' => e = .returned (.tuple #[]) ∧ WO B P (N + 5) w0 w' b (x.round P) := by
  obtain ⟨q0, q1, q2, q3⟩ := h.pool
  have H := Lib.hid h; clear h
  have HN := Lib.hid hN; clear hN
  go_enter Try.func76, Try.ntmps76
  go_wp2_with (first | (go_at_call 72; (with_reducible refine (set_any H.out 6 P.many (by have := HN.out; omega)).mono ?_); rintro e w1 ⟨rfl, h⟩; (try clear q0 q1 q2 q3); obtain ⟨q0, q1, q2, q3⟩ := h.pool; have H := Lib.hid h; clear h) | (go_at_call 94; (with_reducible refine (lt_any H.out 4 6 nRound (by have := HN.out; omega)).mono ?_); rintro e w1 ⟨rfl, h⟩; (try clear q0 q1 q2 q3); obtain ⟨q0, q1, q2, q3⟩ := h.pool; have H := Lib.hid h; clear h) | (go_at_call 80; (with_reducible refine (sub_any H.out 4 4 6 (by have := HN.out; omega)).mono ?_); rintro e w1 ⟨rfl, h⟩; (try clear q0 q1 q2 q3); obtain ⟨q0, q1, q2, q3⟩ := h.pool; have H := Lib.hid h; clear h) | (go_at_call 86; (with_reducible refine (name_any H.out nRound (by decide) (by have := HN.out; omega)).mono ?_); rintro e w1 ⟨rfl, h⟩; (try clear q0 q1 q2 q3); obtain ⟨q0, q1, q2, q3⟩ := h.pool; have H := Lib.hid h; clear h))
  exact ⟨rfl, .tuple #[], (by simp [results, Try.results76, go_sem]), rfl, H.out.more (by omega)⟩

def WV.give (x : WV) (P : Pl) : WV := (((x).load 6 0 P.base).store 6 5 0).store 5 0 P.base
set_option maxRecDepth 100000 in
set_option maxHeartbeats 2000000 in
theorem give_any (h : WO B P N w0 w b x) (hP : P.Ok) (hN : N ≤ 80000) : Calls Try.prog 92 #[.pointer (some ⟨b, 0, none⟩)] w fun e w' => e = .returned (.tuple #[]) ∧ WO B P (N + 3) w0 w' b (x.give P) := by
  obtain ⟨q0, q1, q2, q3⟩ := h.pool
  have H := Lib.hid h; clear h
  have HN := Lib.hid hN; clear hN
  go_enter Try.func92, Try.ntmps92
  go_wp2_with (first | (go_at_call 104; (with_reducible refine (freeAt_any P hP _).mono ?_); rintro e w1 ⟨rfl, hb⟩; have h := H.out.idle (below_box hb); (try clear q0 q1 q2 q3); obtain ⟨q0, q1, q2, q3⟩ := h.pool; have H := Lib.hid h; clear h hb) | (go_at_call 70; (with_reducible refine (load_any H.out 6 0 P.base (by have := HN.out; omega)).mono ?_); rintro e w1 ⟨rfl, h⟩; (try clear q0 q1 q2 q3); obtain ⟨q0, q1, q2, q3⟩ := h.pool; have H := Lib.hid h; clear h) | (go_at_call 77; (with_reducible refine (store_any H.out 6 5 0 (by have := HN.out; omega)).mono ?_); rintro e w1 ⟨rfl, h⟩; (try clear q0 q1 q2 q3); obtain ⟨q0, q1, q2, q3⟩ := h.pool; have H := Lib.hid h; clear h) | (go_at_call 77; (with_reducible refine (store_any H.out 5 0 P.base (by have := HN.out; omega)).mono ?_); rintro e w1 ⟨rfl, h⟩; (try clear q0 q1 q2 q3); obtain ⟨q0, q1, q2, q3⟩ := h.pool; have H := Lib.hid h; clear h))
  exact ⟨rfl, .tuple #[], (by simp [results, Try.results92, go_sem]), rfl, H.out.more (by omega)⟩

def WV.down (x : WV) (P : Pl) : WV := (((((((x).name nDown).load 5 4 0).load 6 5 0).eq 6 0 nBottom).mov 4 5).jump nDown).name nBottom
set_option maxRecDepth 100000 in
set_option maxHeartbeats 2000000 in
theorem down_any (h : WO B P N w0 w b x) (hP : P.Ok) (hN : N ≤ 80000) : Calls Try.prog 98 #[.pointer (some ⟨b, 0, none⟩)] w fun e w' => e = .returned (.tuple #[]) ∧ WO B P (N + 9) w0 w' b (x.down P) := by
  obtain ⟨q0, q1, q2, q3⟩ := h.pool
  have H := Lib.hid h; clear h
  have HN := Lib.hid hN; clear hN
  go_enter Try.func98, Try.ntmps98
  go_wp2_with (first | (go_at_call 86; (with_reducible refine (name_any H.out nDown (by decide) (by have := HN.out; omega)).mono ?_); rintro e w1 ⟨rfl, h⟩; (try clear q0 q1 q2 q3); obtain ⟨q0, q1, q2, q3⟩ := h.pool; have H := Lib.hid h; clear h) | (go_at_call 70; (with_reducible refine (load_any H.out 5 4 0 (by have := HN.out; omega)).mono ?_); rintro e w1 ⟨rfl, h⟩; (try clear q0 q1 q2 q3); obtain ⟨q0, q1, q2, q3⟩ := h.pool; have H := Lib.hid h; clear h) | (go_at_call 70; (with_reducible refine (load_any H.out 6 5 0 (by have := HN.out; omega)).mono ?_); rintro e w1 ⟨rfl, h⟩; (try clear q0 q1 q2 q3); obtain ⟨q0, q1, q2, q3⟩ := h.pool; have H := Lib.hid h; clear h) | (go_at_call 73; (with_reducible refine (eq_any H.out 6 0 nBottom (by have := HN.out; omega)).mono ?_); rintro e w1 ⟨rfl, h⟩; (try clear q0 q1 q2 q3); obtain ⟨q0, q1, q2, q3⟩ := h.pool; have H := Lib.hid h; clear h) | (go_at_call 90; (with_reducible refine (mov_any H.out 4 5 (by have := HN.out; omega)).mono ?_); rintro e w1 ⟨rfl, h⟩; (try clear q0 q1 q2 q3); obtain ⟨q0, q1, q2, q3⟩ := h.pool; have H := Lib.hid h; clear h) | (go_at_call 85; (with_reducible refine (jump_any H.out nDown (by have := HN.out; omega)).mono ?_); rintro e w1 ⟨rfl, h⟩; (try clear q0 q1 q2 q3); obtain ⟨q0, q1, q2, q3⟩ := h.pool; have H := Lib.hid h; clear h) | (go_at_call 86; (with_reducible refine (name_any H.out nBottom (by decide) (by have := HN.out; omega)).mono ?_); rintro e w1 ⟨rfl, h⟩; (try clear q0 q1 q2 q3); obtain ⟨q0, q1, q2, q3⟩ := h.pool; have H := Lib.hid h; clear h))
  exact ⟨rfl, .tuple #[], (by simp [results, Try.results98, go_sem]), rfl, H.out.more (by omega)⟩

def WV.aside (x : WV) (P : Pl) : WV := (((x).mov 4 5).lt 3 6 nLook).beside P 
set_option maxRecDepth 100000 in
set_option maxHeartbeats 2000000 in
theorem aside_any (h : WO B P N w0 w b x) (hP : P.Ok) (hN : N ≤ 70000) : Calls Try.prog 55 #[.pointer (some ⟨b, 0, none⟩)] w fun e w' => e = .returned (.tuple #[]) ∧ WO B P (N + 5) w0 w' b (x.aside P) := by
  obtain ⟨q0, q1, q2, q3⟩ := h.pool
  have H := Lib.hid h; clear h
  have HN := Lib.hid hN; clear hN
  go_enter Try.func55, Try.ntmps55
  go_wp2_with (first | (go_at_call 90; (with_reducible refine (mov_any H.out 4 5 (by have := HN.out; omega)).mono ?_); rintro e w1 ⟨rfl, h⟩; (try clear q0 q1 q2 q3); obtain ⟨q0, q1, q2, q3⟩ := h.pool; have H := Lib.hid h; clear h) | (go_at_call 94; (with_reducible refine (lt_any H.out 3 6 nLook (by have := HN.out; omega)).mono ?_); rintro e w1 ⟨rfl, h⟩; (try clear q0 q1 q2 q3); obtain ⟨q0, q1, q2, q3⟩ := h.pool; have H := Lib.hid h; clear h) | (go_at_call 95; (with_reducible refine (beside_any H.out hP  (by have := HN.out; omega)).mono ?_); rintro e w1 ⟨rfl, h⟩; (try clear q0 q1 q2 q3); obtain ⟨q0, q1, q2, q3⟩ := h.pool; have H := Lib.hid h; clear h))
  exact ⟨rfl, .tuple #[], (by simp [results, Try.results55, go_sem]), rfl, H.out.more (by omega)⟩

def WV.unhang (x : WV) (P : Pl) : WV := (((((((((((((((((x).load 7 5 1).load 6 5 0).eq 6 0 nOne).eq 7 0 nLesser).mov 7 5).beside P ).down P ).load 6 5 P.keyAt).store 6 7 P.keyAt).load 6 5 P.valueAt).store 6 7 P.valueAt).load 7 5 1).jump nOne).name nLesser).mov 7 6).name nOne).store 7 4 0
set_option maxRecDepth 100000 in
set_option maxHeartbeats 2000000 in
theorem unhang_any (h : WO B P N w0 w b x) (hP : P.Ok) (hN : N ≤ 70000) : Calls Try.prog 59 #[.pointer (some ⟨b, 0, none⟩)] w fun e w' => e = .returned (.tuple #[]) ∧ WO B P (N + 29) w0 w' b (x.unhang P) := by
  obtain ⟨q0, q1, q2, q3⟩ := h.pool
  have H := Lib.hid h; clear h
  have HN := Lib.hid hN; clear hN
  go_enter Try.func59, Try.ntmps59
  go_wp2_with (first | (go_at_call 89; (with_reducible refine (keyAt_any P hP _).mono ?_); rintro e w1 ⟨rfl, hb⟩; have h := H.out.idle (below_box hb); (try clear q0 q1 q2 q3); obtain ⟨q0, q1, q2, q3⟩ := h.pool; have H := Lib.hid h; clear h hb) | (go_at_call 84; (with_reducible refine (valueAt_any P hP _).mono ?_); rintro e w1 ⟨rfl, hb⟩; have h := H.out.idle (below_box hb); (try clear q0 q1 q2 q3); obtain ⟨q0, q1, q2, q3⟩ := h.pool; have H := Lib.hid h; clear h hb) | (go_at_call 70; (with_reducible refine (load_any H.out 7 5 1 (by have := HN.out; omega)).mono ?_); rintro e w1 ⟨rfl, h⟩; (try clear q0 q1 q2 q3); obtain ⟨q0, q1, q2, q3⟩ := h.pool; have H := Lib.hid h; clear h) | (go_at_call 70; (with_reducible refine (load_any H.out 6 5 0 (by have := HN.out; omega)).mono ?_); rintro e w1 ⟨rfl, h⟩; (try clear q0 q1 q2 q3); obtain ⟨q0, q1, q2, q3⟩ := h.pool; have H := Lib.hid h; clear h) | (go_at_call 73; (with_reducible refine (eq_any H.out 6 0 nOne (by have := HN.out; omega)).mono ?_); rintro e w1 ⟨rfl, h⟩; (try clear q0 q1 q2 q3); obtain ⟨q0, q1, q2, q3⟩ := h.pool; have H := Lib.hid h; clear h) | (go_at_call 73; (with_reducible refine (eq_any H.out 7 0 nLesser (by have := HN.out; omega)).mono ?_); rintro e w1 ⟨rfl, h⟩; (try clear q0 q1 q2 q3); obtain ⟨q0, q1, q2, q3⟩ := h.pool; have H := Lib.hid h; clear h) | (go_at_call 90; (with_reducible refine (mov_any H.out 7 5 (by have := HN.out; omega)).mono ?_); rintro e w1 ⟨rfl, h⟩; (try clear q0 q1 q2 q3); obtain ⟨q0, q1, q2, q3⟩ := h.pool; have H := Lib.hid h; clear h) | (go_at_call 95; (with_reducible refine (beside_any H.out hP  (by have := HN.out; omega)).mono ?_); rintro e w1 ⟨rfl, h⟩; (try clear q0 q1 q2 q3); obtain ⟨q0, q1, q2, q3⟩ := h.pool; have H := Lib.hid h; clear h) | (go_at_call 98; (with_reducible refine (down_any H.out hP  (by have := HN.out; omega)).mono ?_); rintro e w1 ⟨rfl, h⟩; (try clear q0 q1 q2 q3); obtain ⟨q0, q1, q2, q3⟩ := h.pool; have H := Lib.hid h; clear h) | (go_at_call 70; (with_reducible refine (load_any H.out 6 5 P.keyAt (by have := HN.out; omega)).mono ?_); rintro e w1 ⟨rfl, h⟩; (try clear q0 q1 q2 q3); obtain ⟨q0, q1, q2, q3⟩ := h.pool; have H := Lib.hid h; clear h) | (go_at_call 77; (with_reducible refine (store_any H.out 6 7 P.keyAt (by have := HN.out; omega)).mono ?_); rintro e w1 ⟨rfl, h⟩; (try clear q0 q1 q2 q3); obtain ⟨q0, q1, q2, q3⟩ := h.pool; have H := Lib.hid h; clear h) | (go_at_call 70; (with_reducible refine (load_any H.out 6 5 P.valueAt (by have := HN.out; omega)).mono ?_); rintro e w1 ⟨rfl, h⟩; (try clear q0 q1 q2 q3); obtain ⟨q0, q1, q2, q3⟩ := h.pool; have H := Lib.hid h; clear h) | (go_at_call 77; (with_reducible refine (store_any H.out 6 7 P.valueAt (by have := HN.out; omega)).mono ?_); rintro e w1 ⟨rfl, h⟩; (try clear q0 q1 q2 q3); obtain ⟨q0, q1, q2, q3⟩ := h.pool; have H := Lib.hid h; clear h) | (go_at_call 85; (with_reducible refine (jump_any H.out nOne (by have := HN.out; omega)).mono ?_); rintro e w1 ⟨rfl, h⟩; (try clear q0 q1 q2 q3); obtain ⟨q0, q1, q2, q3⟩ := h.pool; have H := Lib.hid h; clear h) | (go_at_call 86; (with_reducible refine (name_any H.out nLesser (by decide) (by have := HN.out; omega)).mono ?_); rintro e w1 ⟨rfl, h⟩; (try clear q0 q1 q2 q3); obtain ⟨q0, q1, q2, q3⟩ := h.pool; have H := Lib.hid h; clear h) | (go_at_call 90; (with_reducible refine (mov_any H.out 7 6 (by have := HN.out; omega)).mono ?_); rintro e w1 ⟨rfl, h⟩; (try clear q0 q1 q2 q3); obtain ⟨q0, q1, q2, q3⟩ := h.pool; have H := Lib.hid h; clear h) | (go_at_call 86; (with_reducible refine (name_any H.out nOne (by decide) (by have := HN.out; omega)).mono ?_); rintro e w1 ⟨rfl, h⟩; (try clear q0 q1 q2 q3); obtain ⟨q0, q1, q2, q3⟩ := h.pool; have H := Lib.hid h; clear h) | (go_at_call 77; (with_reducible refine (store_any H.out 7 4 0 (by have := HN.out; omega)).mono ?_); rintro e w1 ⟨rfl, h⟩; (try clear q0 q1 q2 q3); obtain ⟨q0, q1, q2, q3⟩ := h.pool; have H := Lib.hid h; clear h))
  exact ⟨rfl, .tuple #[], (by simp [results, Try.results59, go_sem]), rfl, H.out.more (by omega)⟩
end

end Go.Proofs.Ythjbcpgncnchoaa
