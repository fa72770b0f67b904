/- A library's code: whether it may be, and how it is written. Conditions: those stated in each theorem. -/
import Derived.Test.YthjbcpgncnchoaaLbK
import Derived.Test.YthjbcpgncnchoaaCame
namespace Go.Proofs.Ythjbcpgncnchoaa
open Go.RowKit Go.BigFrame Go.Maps

set_option maxRecDepth 100000 in
theorem end_any (P : Pl) (hP : P.Ok) (w : World) : Calls Try.prog 63 #[P.val] w fun e w' => e = .returned (.int .i64 P.end_) ∧ Below w.heap.size w w' := by
  have hmul : 0 ≤ P.width * P.many ∧ P.width * P.many ≤ 2016 := by
    have h1 := hP.w0; have h2 := hP.w1; have h3 := hP.m0; have h4 := hP.m1
    have g1 : 0 ≤ P.width * P.many := Int.mul_nonneg (by omega) (by omega)
    have g2 : P.width * P.many ≤ 4 * P.many := Int.mul_le_mul_of_nonneg_right h2 (by omega)
    omega
  have hb := (box4 w P)
  have HC := Lib.hid (fun W => nodes_any P hP W)
  have hwr : IntKind.i64.wrap (P.width * P.many) = P.width * P.many := IntWalk.i64_in _ (by omega)
  have hws : IntKind.i64.wrap (P.nodes + P.width * P.many) = P.nodes + P.width * P.many := IntWalk.i64_in _ (by
    have := hP.b0; have := hP.b1; have := hP.r0; have := hP.r1; unfold Pl.nodes; omega)
  have HB := Lib.hid ((Below.refl _ w).alloc (Nat.le_refl _) (.cells #[.int .i64 P.base, .int .i64 P.roots, .int .i64 P.width, .int .i64 P.many] 68))
  unfold Pl.end_
  change Calls _ _ _ _ (fun e w' => e = .returned (.int .i64 (P.nodes + P.width * P.many)) ∧ _)
  generalize P.nodes = y at *
  go_enter Try.func63, Try.ntmps63
  unfold Pl.val
  go_wp2_with fail
  generalize w.alloc (.cells #[.int .i64 P.base, .int .i64 P.roots, .int .i64 P.width, .int .i64 P.many] 68) = W at *
  have HK : Hid (∀ V, Below W.heap.size W V → V.cell? ⟨w.heap.size, 0, none⟩ = some (.int .i64 P.base) ∧ V.cell? ⟨w.heap.size, 1, none⟩ = some (.int .i64 P.roots) ∧ V.cell? ⟨w.heap.size, 2, none⟩ = some (.int .i64 P.width) ∧ V.cell? ⟨w.heap.size, 3, none⟩ = some (.int .i64 P.many)) := Lib.hid (fun V h => ⟨(hb.below h).cell (i := 0) rfl, (hb.below h).cell (i := 1) rfl, (hb.below h).cell (i := 2) rfl, (hb.below h).cell (i := 3) rfl⟩)
  have hD := below_drew1 (Below.refl W.heap.size W)
  go_region_held3 (fun V => V.cell? ⟨w.heap.size, 0, none⟩ = some (.int .i64 P.base) ∧ V.cell? ⟨w.heap.size, 1, none⟩ = some (.int .i64 P.roots) ∧ V.cell? ⟨w.heap.size, 2, none⟩ = some (.int .i64 P.width) ∧ V.cell? ⟨w.heap.size, 3, none⟩ = some (.int .i64 P.many)) (first | with_reducible exact HK.out _ hD) (first | (go_at_call 78; (with_reducible refine (HC.out _).mono ?_); rintro e V ⟨rfl, hb2⟩; have hD := hD.trans (hb2.mono hD.size)))
  go_wp2
  refine bodyPost_ret (results_tmp rfl _ _ _) rfl ⟨rfl, HB.out.trans (hD.mono HB.out.size)⟩

/-- A pool of any base and capacity. -/
structure Pl.Any (p : Pl) : Prop where
  b : I64 p.base
  m : I64 p.many
  r0 : 0 ≤ p.roots
  r1 : p.roots ≤ 64
  w0 : 0 ≤ p.width
  w1 : p.width ≤ 4
  w2 : 1 ≤ p.many → 1 ≤ p.width
theorem Pl.Any.ok {p : Pl} (h : p.Any) (hm : 0 ≤ p.base ∧ p.base ≤ 504 ∧ 1 ≤ p.many ∧ p.many ≤ 504) : p.Ok := ⟨hm.1, hm.2.1, h.r0, h.r1, h.w2 hm.2.2.1, h.w1, hm.2.2.1, hm.2.2.2⟩
theorem mayBe_in {p : Pl} (h : p.mayBe = true) : (0 ≤ p.base ∧ p.base ≤ 504 ∧ 1 ≤ p.many ∧ p.many ≤ 504) ∧ p.end_ ≤ 504 := by
  simp only [Pl.mayBe, Bool.and_eq_true, decide_eq_true_eq] at h; omega
set_option maxRecDepth 100000 in
set_option maxHeartbeats 1000000 in
theorem mayBe_any (P : Pl) (hP : P.Any) (w : World) : Calls Try.prog 62 #[P.val] w fun e w' => e = .returned (.bool P.mayBe) ∧ Below w.heap.size w w' := by
  have hb := (box4 w P)
  have c0 := hb.cell (i := 0) rfl
  have c1 := hb.cell (i := 1) rfl
  have c2 := hb.cell (i := 2) rfl
  have c3 := hb.cell (i := 3) rfl
  have HB := Lib.hid ((Below.refl _ w).alloc (Nat.le_refl _) (.cells #[.int .i64 P.base, .int .i64 P.roots, .int .i64 P.width, .int .i64 P.many] 68))
  clear hb
  by_cases hin : 0 ≤ P.base ∧ P.base ≤ 504 ∧ 1 ≤ P.many ∧ P.many ≤ 504
  · have HC := Lib.hid (fun W => end_any P (hP.ok hin) W)
    have hm : P.mayBe = decide (P.end_ ≤ 504) := by simp [Pl.mayBe, hin]
    rw [hm]
    clear hm
    generalize P.end_ = z at *
    have d1 : decide (P.base < 0) = false := by simp; omega
    have d2 : decide (504 < P.base) = false := by simp; omega
    have d3 : decide (P.many < 1) = false := by simp; omega
    have d4 : decide (504 < P.many) = false := by simp; omega
    go_enter Try.func62, Try.ntmps62
    unfold Pl.val
    go_wp2_with (go_at_call 63; (with_reducible refine (HC.out _).mono ?_); rintro e V ⟨rfl, hb2⟩; have H2 := Lib.hid hb2; clear hb2)
    refine bodyPost_ret (results_tmp rfl _ _ _) rfl ⟨rfl, HB.out.trans (H2.out.mono HB.out.size)⟩
  · have hm : P.mayBe = false := by
      cases h : P.mayBe with
      | false => rfl
      | true => exact absurd (mayBe_in h).1 hin
    rw [hm]
    clear hm
    by_cases e1 : P.base < 0
    · have d1 : decide (P.base < 0) = true := by simpa using e1
      go_enter Try.func62, Try.ntmps62
      unfold Pl.val
      go_wp2
      refine bodyPost_ret (results_tmp rfl _ _ _) rfl ⟨rfl, HB.out⟩
    · by_cases e2 : 504 < P.base
      · have d1 : decide (P.base < 0) = false := by simp; omega
        have d2 : decide (504 < P.base) = true := by simpa using e2
        go_enter Try.func62, Try.ntmps62
        unfold Pl.val
        go_wp2
        refine bodyPost_ret (results_tmp rfl _ _ _) rfl ⟨rfl, HB.out⟩
      · by_cases e3 : P.many < 1
        · have d1 : decide (P.base < 0) = false := by simp; omega
          have d2 : decide (504 < P.base) = false := by simp; omega
          have d3 : decide (P.many < 1) = true := by simpa using e3
          go_enter Try.func62, Try.ntmps62
          unfold Pl.val
          go_wp2
          refine bodyPost_ret (results_tmp rfl _ _ _) rfl ⟨rfl, HB.out⟩
        · have d1 : decide (P.base < 0) = false := by simp; omega
          have d2 : decide (504 < P.base) = false := by simp; omega
          have d3 : decide (P.many < 1) = false := by simp; omega
          have d4 : decide (504 < P.many) = true := by simp; omega
          go_enter Try.func62, Try.ntmps62
          unfold Pl.val
          go_wp2
          refine bodyPost_ret (results_tmp rfl _ _ _) rfl ⟨rfl, HB.out⟩
set_option maxRecDepth 100000 in
theorem size_any (P : Pl) (hP : P.Any) (w : World) : Calls Try.prog 36 #[P.val] w fun e w' => e = .returned (.int .i64 P.size) ∧ Below w.heap.size w w' := by
  have hb := (box4 w P)
  have HB := Lib.hid ((Below.refl _ w).alloc (Nat.le_refl _) (.cells #[.int .i64 P.base, .int .i64 P.roots, .int .i64 P.width, .int .i64 P.many] 68))
  have HM := Lib.hid (fun W => mayBe_any P hP W)
  cases hm : P.mayBe with
  | false =>
    rw [hm] at HM
    have hs : P.size = 0 := by unfold Pl.size; rw [hm]; simp
    rw [hs]; clear hs
    have c0 := hb.cell (i := 0) rfl
    have c1 := hb.cell (i := 1) rfl
    have c2 := hb.cell (i := 2) rfl
    have c3 := hb.cell (i := 3) rfl
    clear hb hm
    go_enter Try.func36, Try.ntmps36
    unfold Pl.val
    go_wp2_with (go_at_call 62; (with_reducible refine (HM.out _).mono ?_); rintro e V ⟨rfl, hb2⟩; have H2 := Lib.hid hb2; clear hb2)
    refine bodyPost_ret (results_tmp rfl _ _ _) rfl ⟨rfl, HB.out.trans (H2.out.mono HB.out.size)⟩
  | true =>
    rw [hm] at HM
    have hs : P.size = P.end_ - P.base := by unfold Pl.size; rw [hm]; simp
    rw [hs]; clear hs
    have hin := mayBe_in hm
    have hok := hP.ok hin.1
    have HC := Lib.hid (fun W => end_any P hok W)
    have hz : IntKind.i64.wrap (P.end_ - P.base) = P.end_ - P.base := IntWalk.i64_in _ (by
      have g1 : 0 ≤ P.width * P.many := Int.mul_nonneg (by have := hok.w0; omega) (by omega)
      have := hin.1; have := hin.2; have := hok.r0; unfold Pl.end_ at *; omega)
    clear hin hok
    generalize P.end_ = z at *
    have c0 := hb.cell (i := 0) rfl
    have c1 := hb.cell (i := 1) rfl
    have c2 := hb.cell (i := 2) rfl
    have c3 := hb.cell (i := 3) rfl
    clear hm
    go_enter Try.func36, Try.ntmps36
    unfold Pl.val
    go_wp2_with (go_at_call 62; (with_reducible refine (HM.out _).mono ?_); rintro e V ⟨rfl, hb2⟩; have H2 := Lib.hid hb2; clear hb2)
    generalize w.alloc (.cells #[.int .i64 P.base, .int .i64 P.roots, .int .i64 P.width, .int .i64 P.many] 68) = W at *
    have HK : Hid (∀ V', Below W.heap.size W V' → V'.cell? ⟨w.heap.size, 0, none⟩ = some (.int .i64 P.base) ∧ V'.cell? ⟨w.heap.size, 1, none⟩ = some (.int .i64 P.roots) ∧ V'.cell? ⟨w.heap.size, 2, none⟩ = some (.int .i64 P.width) ∧ V'.cell? ⟨w.heap.size, 3, none⟩ = some (.int .i64 P.many)) := Lib.hid (fun V h => ⟨(hb.below h).cell (i := 0) rfl, (hb.below h).cell (i := 1) rfl, (hb.below h).cell (i := 2) rfl, (hb.below h).cell (i := 3) rfl⟩)
    have hD := below_drew1 H2.out
    go_region_held3 (fun V' => V'.cell? ⟨w.heap.size, 0, none⟩ = some (.int .i64 P.base) ∧ V'.cell? ⟨w.heap.size, 1, none⟩ = some (.int .i64 P.roots) ∧ V'.cell? ⟨w.heap.size, 2, none⟩ = some (.int .i64 P.width) ∧ V'.cell? ⟨w.heap.size, 3, none⟩ = some (.int .i64 P.many)) (first | with_reducible exact HK.out _ hD) (first | (go_at_call 63; (with_reducible refine (HC.out _).mono ?_); rintro e V' ⟨rfl, hb2⟩; have hD := hD.trans (hb2.mono hD.size)))
    go_wp2
    refine bodyPost_ret (results_tmp rfl _ _ _) rfl ⟨rfl, HB.out.trans (hD.mono HB.out.size)⟩

end Go.Proofs.Ythjbcpgncnchoaa
