/- same; LanesPlays: the walk. Conditions: those stated in each theorem. -/
import Derived.Test.YtncepiaacadcpaaLanV
namespace Go.Proofs.Ytncepiaacadcpaa
open Go.RowKit Go.BigFrame

section
variable {w0 w : World} {bx a q : Nat} {x0 x1 x2 : Int} {c : Ct}
def SR (w0 w : World) (bx a q : Nat) (x0 x1 x2 : Int) (c : Ct) (v : Value) : Prop := DO w0 w bx a q x0 x1 x2 c ∧ w.cell? ⟨q, 4, none⟩ = some v
theorem SR.idle {w' : World} {v : Value} (h : SR w0 w bx a q x0 x1 x2 c v) (hb : Below w.heap.size w w') : SR w0 w' bx a q x0 x1 x2 c v :=
  ⟨Aparts.idle h.1 hb, (hb.cell (p := ⟨q, 4, none⟩) (World.block_lt_of_cell? _ _ h.2)).trans h.2⟩
theorem s_try {v : Value} (h : SR w0 w bx a q x0 x1 x2 c v) : Calls Try.prog 19 #[.pointer (some ⟨a, 0, none⟩)] w fun e w' => e = .returned (.int .i64 c.try_) ∧ SR w0 w' bx a q x0 x1 x2 c v :=
  (try_any (Aparts.ct h.1 (i := 1) rfl).1 (Aparts.ct h.1 (i := 1) rfl).2).mono fun _ _ ⟨h1, h2⟩ => ⟨h1, h.idle h2⟩
theorem s_lane {v : Value} (h : SR w0 w bx a q x0 x1 x2 c v) : Calls Try.prog 18 #[.pointer (some ⟨a, 0, none⟩)] w fun e w' => e = .returned (.int .i64 (c.ln : Int)) ∧ w = w' := lane_any (Aparts.ct h.1 (i := 1) rfl).1
theorem s_hard {v : Value} (h : SR w0 w bx a q x0 x1 x2 c v) : Calls Try.prog 20 #[.pointer (some ⟨a, 0, none⟩)] w fun e w' => e = .returned (.bool c.hard) ∧ w = w' := hard_any (Aparts.ct h.1 (i := 1) rfl).1
theorem s_counts {v : Value} (h : SR w0 w bx a q x0 x1 x2 c v) : Calls Try.prog 15 #[.pointer (some ⟨a, 0, none⟩)] w fun e w' => e = .returned (.agg #[.int .i64 0, .int .i64 c.a1, .int .i64 c.a2, .int .i64 c.a3, .int .i64 0]) ∧ SR w0 w' bx a q x0 x1 x2 c v :=
  (counts_any (Aparts.ct h.1 (i := 1) rfl).1).mono fun _ _ ⟨h1, h2⟩ => ⟨h1, h.idle h2⟩
theorem s_rcounts {v : Value} (h : SR w0 w bx a q x0 x1 x2 c v) : Calls Try.prog 29 #[.pointer (some ⟨q, 0, none⟩)] w fun e w' => e = .returned (.agg #[.int .i64 0, .int .i64 c.a1, .int .i64 c.a2, .int .i64 c.a3, .int .i64 0]) ∧ SR w0 w' bx a q x0 x1 x2 c v := by
  obtain ⟨T, ⟨v', L, hT⟩, _⟩ := Aparts.get h.1 (i := 2) rfl
  exact (rcounts_any hT (hT.rl.good (Aparts.ct h.1 (i := 1) rfl).2)).mono fun _ _ ⟨h1, h2⟩ => ⟨h1, h.idle h2⟩
theorem s_cells {v : Value} (h : SR w0 w bx a q x0 x1 x2 c v) : w.cell? ⟨q, 3, none⟩ = some (.int .i64 (c.ln : Int)) ∧ w.cell? ⟨q, 4, none⟩ = some v := by
  obtain ⟨ad, cap, n, h1, _⟩ := rcells_a h.1 2 rfl
  exact ⟨h1, h.2⟩

set_option maxRecDepth 100000 in
set_option maxHeartbeats 8000000 in
theorem same_0 (h : DO w0 w bx a q x0 x1 x2 c) (hj : c.ln = 0) : Calls Try.prog 12 #[.pointer (some ⟨a, 0, none⟩), .pointer (some ⟨q, 0, none⟩)] w fun e w' => e = .returned (.bool true) ∧ Below w0.heap.size w0 w' := by
  obtain ⟨ad, cap, n, -, k4, hn⟩ := rcells_a h 2 rfl
  obtain ⟨f, s, o, ln, a1, a2, a3⟩ := c
  simp only at hj
  subst hj
  have HN := Lib.hid hn; clear hn
  have hD : SR w0 w.drew bx a q x0 x1 x2 ⟨f, s, o, 0, a1, a2, a3⟩ (.slice ad n cap) := SR.idle ⟨h, k4⟩ (below_drew1 (Below.refl _ w))
  clear h k4
  have HK : Hid (∀ V, SR w0 V bx a q x0 x1 x2 ⟨f, s, o, 0, a1, a2, a3⟩ (.slice ad n cap) → V.cell? ⟨q, 3, none⟩ = some (.int .i64 0) ∧ V.cell? ⟨q, 4, none⟩ = some (.slice ad n cap)) := Lib.hid (fun V h => s_cells h)
  have HH : Hid (∀ V, SR w0 V bx a q x0 x1 x2 ⟨f, s, o, 0, a1, a2, a3⟩ (.slice ad n cap) → Calls Try.prog 20 #[.pointer (some ⟨a, 0, none⟩)] V fun e w' => e = .returned (.bool false) ∧ V = w') := Lib.hid (fun V h => s_hard h)
  have HL : Hid (∀ V, SR w0 V bx a q x0 x1 x2 ⟨f, s, o, 0, a1, a2, a3⟩ (.slice ad n cap) → Calls Try.prog 18 #[.pointer (some ⟨a, 0, none⟩)] V fun e w' => e = .returned (.int .i64 0) ∧ V = w') := Lib.hid (fun V h => s_lane h)
  have HT : Hid (∀ V, SR w0 V bx a q x0 x1 x2 ⟨f, s, o, 0, a1, a2, a3⟩ (.slice ad n cap) → Calls Try.prog 19 #[.pointer (some ⟨a, 0, none⟩)] V fun e w' => e = .returned (.int .i64 (n : Int)) ∧ SR w0 w' bx a q x0 x1 x2 ⟨f, s, o, 0, a1, a2, a3⟩ (.slice ad n cap)) := Lib.hid (fun V h => by have := s_try h; rwa [← HN.out] at this)
  go_enter Try.func12, Try.ntmps12
  go_wp2
  first | go_region_held3 (fun V => V.cell? ⟨q, 3, none⟩ = some (.int .i64 0) ∧ V.cell? ⟨q, 4, none⟩ = some (.slice ad n cap)) (first | with_reducible exact HK.out _ hD) (first | (go_at_call 18; (with_reducible refine (HL.out _ hD).mono ?_); rintro e V ⟨rfl, rfl⟩) | (go_at_call 20; (with_reducible refine (HH.out _ hD).mono ?_); rintro e V ⟨rfl, rfl⟩) | (go_at_call 19; (with_reducible refine (HT.out _ hD).mono ?_); rintro e V ⟨rfl, hD⟩) | (go_at_call 15; (with_reducible refine (s_counts hD).mono ?_); rintro e V ⟨rfl, hD⟩) | (go_at_call 29; (with_reducible refine (s_rcounts hD).mono ?_); rintro e V ⟨rfl, hD⟩)) | fail
  all_goals
    have HB := Lib.hid (Aparts.below hD.1)
    clear hD HK HH HL HT HN
    go_wp2
    go_ret
    exact ⟨by simp, HB.out⟩

set_option maxRecDepth 100000 in
set_option maxHeartbeats 8000000 in
theorem same_2 (h : DO w0 w bx a q x0 x1 x2 c) (hj : c.ln = 2) : Calls Try.prog 12 #[.pointer (some ⟨a, 0, none⟩), .pointer (some ⟨q, 0, none⟩)] w fun e w' => e = .returned (.bool true) ∧ Below w0.heap.size w0 w' := by
  obtain ⟨ad, cap, n, -, k4, hn⟩ := rcells_a h 2 rfl
  obtain ⟨f, s, o, ln, a1, a2, a3⟩ := c
  simp only at hj
  subst hj
  have HN := Lib.hid hn; clear hn
  have hD : SR w0 w.drew bx a q x0 x1 x2 ⟨f, s, o, 2, a1, a2, a3⟩ (.slice ad n cap) := SR.idle ⟨h, k4⟩ (below_drew1 (Below.refl _ w))
  clear h k4
  have HK : Hid (∀ V, SR w0 V bx a q x0 x1 x2 ⟨f, s, o, 2, a1, a2, a3⟩ (.slice ad n cap) → V.cell? ⟨q, 3, none⟩ = some (.int .i64 2) ∧ V.cell? ⟨q, 4, none⟩ = some (.slice ad n cap)) := Lib.hid (fun V h => s_cells h)
  have HH : Hid (∀ V, SR w0 V bx a q x0 x1 x2 ⟨f, s, o, 2, a1, a2, a3⟩ (.slice ad n cap) → Calls Try.prog 20 #[.pointer (some ⟨a, 0, none⟩)] V fun e w' => e = .returned (.bool true) ∧ V = w') := Lib.hid (fun V h => s_hard h)
  have HL : Hid (∀ V, SR w0 V bx a q x0 x1 x2 ⟨f, s, o, 2, a1, a2, a3⟩ (.slice ad n cap) → Calls Try.prog 18 #[.pointer (some ⟨a, 0, none⟩)] V fun e w' => e = .returned (.int .i64 2) ∧ V = w') := Lib.hid (fun V h => s_lane h)
  have HT : Hid (∀ V, SR w0 V bx a q x0 x1 x2 ⟨f, s, o, 2, a1, a2, a3⟩ (.slice ad n cap) → Calls Try.prog 19 #[.pointer (some ⟨a, 0, none⟩)] V fun e w' => e = .returned (.int .i64 (n : Int)) ∧ SR w0 w' bx a q x0 x1 x2 ⟨f, s, o, 2, a1, a2, a3⟩ (.slice ad n cap)) := Lib.hid (fun V h => by have := s_try h; rwa [← HN.out] at this)
  go_enter Try.func12, Try.ntmps12
  go_wp2
  first | go_region_held3 (fun V => V.cell? ⟨q, 3, none⟩ = some (.int .i64 2) ∧ V.cell? ⟨q, 4, none⟩ = some (.slice ad n cap)) (first | with_reducible exact HK.out _ hD) (first | (go_at_call 18; (with_reducible refine (HL.out _ hD).mono ?_); rintro e V ⟨rfl, rfl⟩) | (go_at_call 20; (with_reducible refine (HH.out _ hD).mono ?_); rintro e V ⟨rfl, rfl⟩) | (go_at_call 19; (with_reducible refine (HT.out _ hD).mono ?_); rintro e V ⟨rfl, hD⟩) | (go_at_call 15; (with_reducible refine (s_counts hD).mono ?_); rintro e V ⟨rfl, hD⟩) | (go_at_call 29; (with_reducible refine (s_rcounts hD).mono ?_); rintro e V ⟨rfl, hD⟩)) | fail
  all_goals
    have HB := Lib.hid (Aparts.below hD.1)
    clear hD HK HH HL HT HN
    go_wp2
    go_ret
    exact ⟨by simp, HB.out⟩

set_option maxRecDepth 100000 in
set_option maxHeartbeats 8000000 in
theorem same_3 (h : DO w0 w bx a q x0 x1 x2 c) (hj : c.ln = 3) : Calls Try.prog 12 #[.pointer (some ⟨a, 0, none⟩), .pointer (some ⟨q, 0, none⟩)] w fun e w' => e = .returned (.bool true) ∧ Below w0.heap.size w0 w' := by
  obtain ⟨ad, cap, n, -, k4, hn⟩ := rcells_a h 2 rfl
  obtain ⟨f, s, o, ln, a1, a2, a3⟩ := c
  simp only at hj
  subst hj
  have HN := Lib.hid hn; clear hn
  have hD : SR w0 w.drew bx a q x0 x1 x2 ⟨f, s, o, 3, a1, a2, a3⟩ (.slice ad n cap) := SR.idle ⟨h, k4⟩ (below_drew1 (Below.refl _ w))
  clear h k4
  have HK : Hid (∀ V, SR w0 V bx a q x0 x1 x2 ⟨f, s, o, 3, a1, a2, a3⟩ (.slice ad n cap) → V.cell? ⟨q, 3, none⟩ = some (.int .i64 3) ∧ V.cell? ⟨q, 4, none⟩ = some (.slice ad n cap)) := Lib.hid (fun V h => s_cells h)
  have HH : Hid (∀ V, SR w0 V bx a q x0 x1 x2 ⟨f, s, o, 3, a1, a2, a3⟩ (.slice ad n cap) → Calls Try.prog 20 #[.pointer (some ⟨a, 0, none⟩)] V fun e w' => e = .returned (.bool false) ∧ V = w') := Lib.hid (fun V h => s_hard h)
  have HL : Hid (∀ V, SR w0 V bx a q x0 x1 x2 ⟨f, s, o, 3, a1, a2, a3⟩ (.slice ad n cap) → Calls Try.prog 18 #[.pointer (some ⟨a, 0, none⟩)] V fun e w' => e = .returned (.int .i64 3) ∧ V = w') := Lib.hid (fun V h => s_lane h)
  have HT : Hid (∀ V, SR w0 V bx a q x0 x1 x2 ⟨f, s, o, 3, a1, a2, a3⟩ (.slice ad n cap) → Calls Try.prog 19 #[.pointer (some ⟨a, 0, none⟩)] V fun e w' => e = .returned (.int .i64 (n : Int)) ∧ SR w0 w' bx a q x0 x1 x2 ⟨f, s, o, 3, a1, a2, a3⟩ (.slice ad n cap)) := Lib.hid (fun V h => by have := s_try h; rwa [← HN.out] at this)
  go_enter Try.func12, Try.ntmps12
  go_wp2
  first | go_region_held3 (fun V => V.cell? ⟨q, 3, none⟩ = some (.int .i64 3) ∧ V.cell? ⟨q, 4, none⟩ = some (.slice ad n cap)) (first | with_reducible exact HK.out _ hD) (first | (go_at_call 18; (with_reducible refine (HL.out _ hD).mono ?_); rintro e V ⟨rfl, rfl⟩) | (go_at_call 20; (with_reducible refine (HH.out _ hD).mono ?_); rintro e V ⟨rfl, rfl⟩) | (go_at_call 19; (with_reducible refine (HT.out _ hD).mono ?_); rintro e V ⟨rfl, hD⟩) | (go_at_call 15; (with_reducible refine (s_counts hD).mono ?_); rintro e V ⟨rfl, hD⟩) | (go_at_call 29; (with_reducible refine (s_rcounts hD).mono ?_); rintro e V ⟨rfl, hD⟩)) | fail
  all_goals
    have HB := Lib.hid (Aparts.below hD.1)
    clear hD HK HH HL HT HN
    go_wp2
    go_ret
    exact ⟨by simp, HB.out⟩

set_option maxRecDepth 100000 in
set_option maxHeartbeats 8000000 in
theorem same_4 (h : DO w0 w bx a q x0 x1 x2 c) (hj : c.ln = 4) : Calls Try.prog 12 #[.pointer (some ⟨a, 0, none⟩), .pointer (some ⟨q, 0, none⟩)] w fun e w' => e = .returned (.bool true) ∧ Below w0.heap.size w0 w' := by
  obtain ⟨ad, cap, n, -, k4, hn⟩ := rcells_a h 2 rfl
  obtain ⟨f, s, o, ln, a1, a2, a3⟩ := c
  simp only at hj
  subst hj
  have HN := Lib.hid hn; clear hn
  have hD : SR w0 w.drew bx a q x0 x1 x2 ⟨f, s, o, 4, a1, a2, a3⟩ (.slice ad n cap) := SR.idle ⟨h, k4⟩ (below_drew1 (Below.refl _ w))
  clear h k4
  have HK : Hid (∀ V, SR w0 V bx a q x0 x1 x2 ⟨f, s, o, 4, a1, a2, a3⟩ (.slice ad n cap) → V.cell? ⟨q, 3, none⟩ = some (.int .i64 4) ∧ V.cell? ⟨q, 4, none⟩ = some (.slice ad n cap)) := Lib.hid (fun V h => s_cells h)
  have HH : Hid (∀ V, SR w0 V bx a q x0 x1 x2 ⟨f, s, o, 4, a1, a2, a3⟩ (.slice ad n cap) → Calls Try.prog 20 #[.pointer (some ⟨a, 0, none⟩)] V fun e w' => e = .returned (.bool false) ∧ V = w') := Lib.hid (fun V h => s_hard h)
  have HL : Hid (∀ V, SR w0 V bx a q x0 x1 x2 ⟨f, s, o, 4, a1, a2, a3⟩ (.slice ad n cap) → Calls Try.prog 18 #[.pointer (some ⟨a, 0, none⟩)] V fun e w' => e = .returned (.int .i64 4) ∧ V = w') := Lib.hid (fun V h => s_lane h)
  have HT : Hid (∀ V, SR w0 V bx a q x0 x1 x2 ⟨f, s, o, 4, a1, a2, a3⟩ (.slice ad n cap) → Calls Try.prog 19 #[.pointer (some ⟨a, 0, none⟩)] V fun e w' => e = .returned (.int .i64 (n : Int)) ∧ SR w0 w' bx a q x0 x1 x2 ⟨f, s, o, 4, a1, a2, a3⟩ (.slice ad n cap)) := Lib.hid (fun V h => by have := s_try h; rwa [← HN.out] at this)
  go_enter Try.func12, Try.ntmps12
  go_wp2
  first | go_region_held3 (fun V => V.cell? ⟨q, 3, none⟩ = some (.int .i64 4) ∧ V.cell? ⟨q, 4, none⟩ = some (.slice ad n cap)) (first | with_reducible exact HK.out _ hD) (first | (go_at_call 18; (with_reducible refine (HL.out _ hD).mono ?_); rintro e V ⟨rfl, rfl⟩) | (go_at_call 20; (with_reducible refine (HH.out _ hD).mono ?_); rintro e V ⟨rfl, rfl⟩) | (go_at_call 19; (with_reducible refine (HT.out _ hD).mono ?_); rintro e V ⟨rfl, hD⟩) | (go_at_call 15; (with_reducible refine (s_counts hD).mono ?_); rintro e V ⟨rfl, hD⟩) | (go_at_call 29; (with_reducible refine (s_rcounts hD).mono ?_); rintro e V ⟨rfl, hD⟩)) | fail
  all_goals
    have HB := Lib.hid (Aparts.below hD.1)
    clear hD HK HH HL HT HN
    go_wp2
    go_ret
    exact ⟨by simp, HB.out⟩
end

end Go.Proofs.Ytncepiaacadcpaa
