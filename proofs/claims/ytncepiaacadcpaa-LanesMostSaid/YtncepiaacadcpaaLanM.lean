/- LanesMost: the walk. It answers true, and turns nothing that was there. -/
import Derived.Test.YtncepiaacadcpaaLanF
namespace Go.Proofs.Ytncepiaacadcpaa
open Go.RowKit Go.BigFrame

def wantB : Bool → Bool → Bool → Int
  | true, _, _ => 1
  | false, true, _ => 2
  | false, false, true => 3
  | false, false, false => 4
theorem want_ans {c : Ct} (h0 : c.ln = 0) (h1 : 0 ≤ c.f) (h3 : 0 ≤ c.s) (h5 : 0 ≤ c.o) {b1 b2 b3 : Bool} (e1 : decide (0 < c.f) = b1) (e2 : decide (0 < c.s) = b2) (e3 : decide (0 < c.o) = b3) : c.ansE = wantB b1 b2 b3 := by
  unfold Ct.ansE Ct.from
  rw [if_pos h0]
  by_cases hf : 0 < c.f
  · obtain rfl : b1 = true := by rw [← e1]; simpa using hf
    rw [if_pos ⟨by omega, by omega⟩]; rfl
  obtain rfl : b1 = false := by rw [← e1]; simpa using hf
  rw [if_neg (by omega)]
  by_cases hs : 0 < c.s
  · obtain rfl : b2 = true := by rw [← e2]; simpa using hs
    rw [if_pos ⟨by omega, by omega⟩]; rfl
  obtain rfl : b2 = false := by rw [← e2]; simpa using hs
  rw [if_neg (by omega)]
  by_cases ho : 0 < c.o
  · obtain rfl : b3 = true := by rw [← e3]; simpa using ho
    rw [if_pos ⟨by omega, by omega⟩]; rfl
  obtain rfl : b3 = false := by rw [← e3]; simpa using ho
  rw [if_neg (by omega)]; rfl

set_option maxRecDepth 100000 in
set_option maxHeartbeats 2000000 in
theorem lmost_good {f s o : Int} (h : MayB f s o) (b1 b2 b3 : Bool) (e1 : decide (0 < f) = b1) (e2 : decide (0 < s) = b2) (e3 : decide (0 < o) = b3) (w : World) : Calls Try.prog 8 #[bud f s o] w fun e w' => e = .returned (.bool true) ∧ Below w.heap.size w w' := by
  have hk := want_ans (c := Ct.new f s o) rfl h.1.1 h.2.1.1 h.2.2.1 e1 e2 e3
  have hM := h
  obtain ⟨⟨h1, h2⟩, ⟨h3, h4⟩, h5, h6⟩ := h
  have q1 : decide (f < 0) = false := by simp; omega
  have q2 : decide (16 < f) = false := by simp; omega
  have q3 : decide (s < 0) = false := by simp; omega
  have q4 : decide (16 < s) = false := by simp; omega
  have q5 : decide (o < 0) = false := by simp; omega
  have q6 : decide (16 < o) = false := by simp; omega
  have HK := Lib.hid hk; clear hk
  have HM := Lib.hid hM; clear hM
  have H := Lib.hid ((Aparts.nil w).box 23 [.int .i64 f, .int .i64 s, .int .i64 o])
  unfold bud
  go_enter Try.func8, Try.ntmps8
  go_wp2_with fail
  refine (alive_ok _).mono ?_
  rintro e V ⟨rfl, hb⟩
  have H0 := H
  clear H; have H := Lib.hid (H0.out.idle hb); clear H0 hb
  have x0 := (H.out.hold (i := 0) rfl).cell (i := 0) rfl
  have x1 := (H.out.hold (i := 0) rfl).cell (i := 1) rfl
  have x2 := (H.out.hold (i := 0) rfl).cell (i := 2) rfl
  go_wp2_with fail
  refine (most_a H.out HM.out).mono ?_
  rintro e V ⟨rfl, h⟩
  clear x0 x1 x2
  clear H; have H := Lib.hid h; clear h
  have x0 := (H.out.hold (i := 0) rfl).cell (i := 0) rfl
  have x1 := (H.out.hold (i := 0) rfl).cell (i := 1) rfl
  have x2 := (H.out.hold (i := 0) rfl).cell (i := 2) rfl
  go_wp2_with fail
  refine (new_a H.out HM.out).mono ?_
  rintro e V ⟨a, rfl, h⟩
  clear x0 x1 x2
  clear H; have H := Lib.hid h; clear h
  have x0 := (H.out.hold (i := 0) rfl).cell (i := 0) rfl
  have x1 := (H.out.hold (i := 0) rfl).cell (i := 1) rfl
  have x2 := (H.out.hold (i := 0) rfl).cell (i := 2) rfl
  have H0 := H
  clear H; have H := Lib.hid (H0.out.box 3 [.int .i64 f, .int .i64 s, .int .i64 o])
  have n0 := (H.out.hold (i := 2) rfl).cell (i := 0) rfl
  go_wp2
  refine wp_loop_rounds 4 ?_
  rw [rounds_succ]
  go_wp2
  rw [rounds_succ]
  go_wp2
  rw [rounds_succ]
  go_wp2
  rw [rounds_succ]
  go_wp2_with fail
  refine (enter_a H.out 1 rfl rfl HK.out rfl rfl).mono ?_
  rintro e V ⟨rfl, h⟩
  rw [show (Ct.new f s o).errE = 0 from rfl]
  clear n0
  clear H; have H := Lib.hid h; clear h
  have x0 := (H.out.hold (i := 0) rfl).cell (i := 0) rfl
  have x1 := (H.out.hold (i := 0) rfl).cell (i := 1) rfl
  have x2 := (H.out.hold (i := 0) rfl).cell (i := 2) rfl
  have HB := Lib.hid H.out.below
  clear HK HM
  cases b1 <;> cases b2 <;> cases b3
  all_goals
    simp only [wantB]
    go_wp2
    go_ret
    exact ⟨rfl, HB.out⟩

set_option maxRecDepth 100000 in
set_option maxHeartbeats 2000000 in
theorem lmost_bad {f s o : Int} (h : ¬ MayB f s o) (w : World) : Calls Try.prog 8 #[bud f s o] w fun e w' => e = .returned (.bool true) ∧ Below w.heap.size w w' := by
  have HM := Lib.hid h; clear h
  have H := Lib.hid ((Aparts.nil w).box 23 [.int .i64 f, .int .i64 s, .int .i64 o])
  unfold bud
  go_enter Try.func8, Try.ntmps8
  go_wp2_with fail
  refine (alive_ok _).mono ?_
  rintro e V ⟨rfl, hb⟩
  have H0 := H
  clear H; have H := Lib.hid (H0.out.idle hb); clear H0 hb
  have x0 := (H.out.hold (i := 0) rfl).cell (i := 0) rfl
  have x1 := (H.out.hold (i := 0) rfl).cell (i := 1) rfl
  have x2 := (H.out.hold (i := 0) rfl).cell (i := 2) rfl
  go_wp2_with fail
  refine (mostno_a H.out HM.out).mono ?_
  rintro e V ⟨rfl, h⟩
  clear x0 x1 x2
  clear H; have H := Lib.hid h; clear h
  have x0 := (H.out.hold (i := 0) rfl).cell (i := 0) rfl
  have x1 := (H.out.hold (i := 0) rfl).cell (i := 1) rfl
  have x2 := (H.out.hold (i := 0) rfl).cell (i := 2) rfl
  go_wp2_with fail
  refine (newno_a H.out HM.out).mono ?_
  rintro e V ⟨rfl, h⟩
  clear x0 x1 x2
  clear H; have H := Lib.hid h; clear h
  have x0 := (H.out.hold (i := 0) rfl).cell (i := 0) rfl
  have x1 := (H.out.hold (i := 0) rfl).cell (i := 1) rfl
  have x2 := (H.out.hold (i := 0) rfl).cell (i := 2) rfl
  have HB := Lib.hid (H.out.box 3 [.int .i64 f, .int .i64 s, .int .i64 o]).below
  by_cases n0 : f < 0
  · have q : decide (f < 0) = true := by simp; omega
    go_wp2
    refine wp_loop_rounds 1 ?_
    rw [rounds_succ]
    go_wp2
    go_ret
    exact ⟨rfl, HB.out⟩
  by_cases m0 : 16 < f
  · have q0 : decide (f < 0) = false := by simp; omega
    have q : decide (16 < f) = true := by simp; omega
    go_wp2
    refine wp_loop_rounds 1 ?_
    rw [rounds_succ]
    go_wp2
    go_ret
    exact ⟨rfl, HB.out⟩
  by_cases n1 : s < 0
  · have e0a : decide (f < 0) = false := by simp; omega
    have e0b : decide (16 < f) = false := by simp; omega
    have q : decide (s < 0) = true := by simp; omega
    go_wp2
    refine wp_loop_rounds 2 ?_
    rw [rounds_succ]
    go_wp2
    rw [rounds_succ]
    go_wp2
    go_ret
    exact ⟨rfl, HB.out⟩
  by_cases m1 : 16 < s
  · have e0a : decide (f < 0) = false := by simp; omega
    have e0b : decide (16 < f) = false := by simp; omega
    have q0 : decide (s < 0) = false := by simp; omega
    have q : decide (16 < s) = true := by simp; omega
    go_wp2
    refine wp_loop_rounds 2 ?_
    rw [rounds_succ]
    go_wp2
    rw [rounds_succ]
    go_wp2
    go_ret
    exact ⟨rfl, HB.out⟩
  by_cases n2 : o < 0
  · have e0a : decide (f < 0) = false := by simp; omega
    have e0b : decide (16 < f) = false := by simp; omega
    have e1a : decide (s < 0) = false := by simp; omega
    have e1b : decide (16 < s) = false := by simp; omega
    have q : decide (o < 0) = true := by simp; omega
    go_wp2
    refine wp_loop_rounds 3 ?_
    rw [rounds_succ]
    go_wp2
    rw [rounds_succ]
    go_wp2
    rw [rounds_succ]
    go_wp2
    go_ret
    exact ⟨rfl, HB.out⟩
  by_cases m2 : 16 < o
  · have e0a : decide (f < 0) = false := by simp; omega
    have e0b : decide (16 < f) = false := by simp; omega
    have e1a : decide (s < 0) = false := by simp; omega
    have e1b : decide (16 < s) = false := by simp; omega
    have q0 : decide (o < 0) = false := by simp; omega
    have q : decide (16 < o) = true := by simp; omega
    go_wp2
    refine wp_loop_rounds 3 ?_
    rw [rounds_succ]
    go_wp2
    rw [rounds_succ]
    go_wp2
    rw [rounds_succ]
    go_wp2
    go_ret
    exact ⟨rfl, HB.out⟩
  exact absurd (show MayB f s o from ⟨⟨by omega, by omega⟩, ⟨by omega, by omega⟩, by omega, by omega⟩) HM.out

theorem lmost_any (f s o : Int) (w : World) : Calls Try.prog 8 #[bud f s o] w fun e w' => e = .returned (.bool true) ∧ Below w.heap.size w w' := by
  by_cases h : MayB f s o
  · exact lmost_good h _ _ _ rfl rfl rfl w
  · exact lmost_bad h w

end Go.Proofs.Ytncepiaacadcpaa
