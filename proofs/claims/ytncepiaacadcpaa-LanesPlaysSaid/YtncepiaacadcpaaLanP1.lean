/- same, in lane 1 (a guard is shut there). Conditions: those stated in each theorem. -/
import Derived.Test.YtncepiaacadcpaaLanP0
namespace Go.Proofs.Ytncepiaacadcpaa
open Go.RowKit Go.BigFrame

section
variable {w0 w : World} {bx a q : Nat} {x0 x1 x2 : Int} {c : Ct}

set_option maxRecDepth 100000 in
set_option maxHeartbeats 8000000 in
theorem same_1 (h : DO w0 w bx a q x0 x1 x2 c) (hj : c.ln = 1) : Calls Try.prog 12 #[.pointer (some ⟨a, 0, none⟩), .pointer (some ⟨q, 0, none⟩)] w fun e w' => e = .returned (.bool true) ∧ Below w0.heap.size w0 w' := by
  obtain ⟨ad, cap, n, -, k4, hn⟩ := rcells_a h 2 rfl
  obtain ⟨f, s, o, ln, a1, a2, a3⟩ := c
  simp only at hj
  subst hj
  have HN := Lib.hid hn; clear hn
  have hD : SR w0 w.drew bx a q x0 x1 x2 ⟨f, s, o, 1, a1, a2, a3⟩ (.slice ad n cap) := SR.idle ⟨h, k4⟩ (below_drew1 (Below.refl _ w))
  clear h k4
  have HK : Hid (∀ V, SR w0 V bx a q x0 x1 x2 ⟨f, s, o, 1, a1, a2, a3⟩ (.slice ad n cap) → V.cell? ⟨q, 3, none⟩ = some (.int .i64 1) ∧ V.cell? ⟨q, 4, none⟩ = some (.slice ad n cap)) := Lib.hid (fun V h => s_cells h)
  have HH : Hid (∀ V, SR w0 V bx a q x0 x1 x2 ⟨f, s, o, 1, a1, a2, a3⟩ (.slice ad n cap) → Calls Try.prog 20 #[.pointer (some ⟨a, 0, none⟩)] V fun e w' => e = .returned (.bool true) ∧ V = w') := Lib.hid (fun V h => s_hard h)
  have HL : Hid (∀ V, SR w0 V bx a q x0 x1 x2 ⟨f, s, o, 1, a1, a2, a3⟩ (.slice ad n cap) → Calls Try.prog 18 #[.pointer (some ⟨a, 0, none⟩)] V fun e w' => e = .returned (.int .i64 1) ∧ V = w') := Lib.hid (fun V h => s_lane h)
  have HT : Hid (∀ V, SR w0 V bx a q x0 x1 x2 ⟨f, s, o, 1, a1, a2, a3⟩ (.slice ad n cap) → Calls Try.prog 19 #[.pointer (some ⟨a, 0, none⟩)] V fun e w' => e = .returned (.int .i64 (n : Int)) ∧ SR w0 w' bx a q x0 x1 x2 ⟨f, s, o, 1, a1, a2, a3⟩ (.slice ad n cap)) := Lib.hid (fun V h => by have := s_try h; rwa [← HN.out] at this)
  go_enter Try.func12, Try.ntmps12
  go_wp2
  obtain ⟨k3, k4⟩ := HK.out _ hD
  first | go_region_law (first | (go_simp; go_at_call 18; (with_reducible refine (HL.out _ hD).mono ?_); rintro e V ⟨rfl, rfl⟩) | (go_simp; go_at_call 20; (with_reducible refine (HH.out _ hD).mono ?_); rintro e V ⟨rfl, rfl⟩) | (go_simp; go_at_call 19; (with_reducible refine (HT.out _ hD).mono ?_); rintro e V ⟨rfl, hD⟩; obtain ⟨k3, k4⟩ := HK.out _ hD) | (go_simp; go_at_call 15; (with_reducible refine (s_counts hD).mono ?_); rintro e V ⟨rfl, hD⟩; obtain ⟨k3, k4⟩ := HK.out _ hD) | (go_simp; go_at_call 29; (with_reducible refine (s_rcounts hD).mono ?_); rintro e V ⟨rfl, hD⟩; obtain ⟨k3, k4⟩ := HK.out _ hD)) | fail
  all_goals
    have HB := Lib.hid (Aparts.below hD.1)
    clear hD HK HH HL HT HN
    go_wp2
    go_ret
    exact ⟨by first | rfl | (simp [Act.put]; done) | simp, HB.out⟩
end

end Go.Proofs.Ytncepiaacadcpaa
