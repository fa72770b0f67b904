/- do, whatever the call; same. Conditions: those stated in each theorem. -/
import Derived.Test.YtncepiaacadcpaaLanU
namespace Go.Proofs.Ytncepiaacadcpaa
open Go.RowKit Go.BigFrame

section
variable {w0 w : World} {bx a q X : Nat} {x0 x1 x2 : Int} {c : Ct} {x : OpV}
/-- With what its row's cell holds. -/
def DBR (w0 w : World) (bx a q X : Nat) (x0 x1 x2 : Int) (c : Ct) (x : OpV) (v : Value) : Prop := DB w0 w bx a q X x0 x1 x2 c c x ∧ w.cell? ⟨q, 4, none⟩ = some v
theorem DBR.idle {w' : World} {v : Value} (h : DBR w0 w bx a q X x0 x1 x2 c x v) (hb : Below w.heap.size w w') : DBR w0 w' bx a q X x0 x1 x2 c x v :=
  ⟨Aparts.idle h.1 hb, (hb.cell (p := ⟨q, 4, none⟩) (World.block_lt_of_cell? _ _ h.2)).trans h.2⟩
theorem r_try {v : Value} (h : DBR w0 w bx a q X x0 x1 x2 c x v) : Calls Try.prog 19 #[.pointer (some ⟨a, 0, none⟩)] w fun e w' => e = .returned (.int .i64 c.try_) ∧ DBR w0 w' bx a q X x0 x1 x2 c x v :=
  (try_any (Aparts.ct h.1 (i := 1) rfl).1 (Aparts.ct h.1 (i := 1) rfl).2).mono fun _ _ ⟨h1, h2⟩ => ⟨h1, h.idle h2⟩

set_option maxRecDepth 100000 in
set_option maxHeartbeats 2000000 in
theorem do_4 (h : DO w0 w bx a q x0 x1 x2 c) (x : OpV) (hk : x.kind = 4) : Calls Try.prog 11 #[.pointer (some ⟨a, 0, none⟩), .pointer (some ⟨q, 0, none⟩), .agg x.cells.toArray] w (DPost w0 bx a q x0 x1 x2) := by
  have H := Lib.hid (h.box x)
  obtain ⟨c0, c1⟩ := H.out.cells
  obtain ⟨ad, cap, n, -, k4, hn⟩ := rcells_a H.out 2 rfl
  rw [hk] at c0
  have HN := Lib.hid hn; clear hn
  clear h
  obtain ⟨kd, cd⟩ := x
  simp only at hk
  subst hk
  simp only [OpV.cells] at *
  go_enter Try.func11, Try.ntmps11
  go_wp2
  change Code.wp _ _ _ _ (w.alloc (.cells #[.int .i64 4, .int .i64 cd] 36))
  change Hid (DB w0 (w.alloc (.cells #[.int .i64 4, .int .i64 cd] 36)) bx a q w.heap.size x0 x1 x2 c c ⟨4, cd⟩) at H
  generalize w.alloc (.cells #[.int .i64 4, .int .i64 cd] 36) = W at *
  generalize w.heap.size = X at *
  have hD : DBR w0 W.drew bx a q X x0 x1 x2 c ⟨4, cd⟩ (.slice ad n cap) := DBR.idle ⟨H.out, k4⟩ (below_drew1 (Below.refl _ W))
  clear k4
  have HK : Hid (∀ V, DBR w0 V bx a q X x0 x1 x2 c ⟨4, cd⟩ (.slice ad n cap) → V.cell? ⟨q, 4, none⟩ = some (.slice ad n cap)) := Lib.hid (fun V h => h.2)
  go_region_held3 (fun V => V.cell? ⟨q, 4, none⟩ = some (.slice ad n cap)) (first | with_reducible exact HK.out _ hD) (first | (go_at_call 19; (with_reducible refine (r_try hD).mono ?_); rintro e V ⟨rfl, hD⟩))
  all_goals
    have HD := Lib.hid hD
    clear H hD
    go_wp2
    go_ret
    exact HD.out.1.post _ (by rw [HN.out]; simp)
set_option maxRecDepth 100000 in
set_option maxHeartbeats 2000000 in
theorem do_5 (h : DO w0 w bx a q x0 x1 x2 c) (x : OpV) (hk : x.kind = 5) : Calls Try.prog 11 #[.pointer (some ⟨a, 0, none⟩), .pointer (some ⟨q, 0, none⟩), .agg x.cells.toArray] w (DPost w0 bx a q x0 x1 x2) := by
  have H := Lib.hid (h.box x)
  obtain ⟨c0, c1⟩ := H.out.cells
  have HG := Lib.hid H.out.good
  rw [hk] at c0
  clear h
  obtain ⟨kd, cd⟩ := x
  simp only at hk
  subst hk
  simp only [OpV.cells] at *
  go_enter Try.func11, Try.ntmps11
  go_wp2_with fail
  refine (b_counts H.out).mono ?_
  rintro e V ⟨rfl, h⟩
  clear H; have H := Lib.hid h; clear h
  go_wp2_with fail
  refine (b_rcounts H.out HG.out).mono ?_
  rintro e V ⟨rfl, h⟩
  clear H; have H := Lib.hid h; clear h
  go_wp2
  go_ret
  exact H.out.post _ (by simp)
set_option maxRecDepth 100000 in
set_option maxHeartbeats 2000000 in
theorem do_6 (h : DO w0 w bx a q x0 x1 x2 c) (x : OpV) (hk : x.kind = 6) : Calls Try.prog 11 #[.pointer (some ⟨a, 0, none⟩), .pointer (some ⟨q, 0, none⟩), .agg x.cells.toArray] w (DPost w0 bx a q x0 x1 x2) := by
  have H := Lib.hid (h.box x)
  obtain ⟨c0, c1⟩ := H.out.cells
  have k3 := b_cells H.out
  have hl := Ct.ln_cases H.out.good.ln
  rw [hk] at c0
  clear h
  obtain ⟨kd, cd⟩ := x
  simp only at hk
  subst hk
  simp only [OpV.cells] at *
  have HH : Hid (∀ n, Calls Try.prog 20 #[.pointer (some ⟨a, 0, none⟩)] ((w.alloc (.cells #[.int .i64 6, .int .i64 cd] 36)).drewN n) fun e w' => e = .returned (.bool c.hard) ∧ w' = (w.alloc (.cells #[.int .i64 6, .int .i64 cd] 36)).drewN n) :=
    Lib.hid (fun n => (hard_any ⟨(Aparts.ct H.out (i := 1) rfl).1.head.drewN n, (Aparts.ct H.out (i := 1) rfl).1.ln4⟩).mono fun _ _ ⟨h1, h2⟩ => ⟨h1, h2.symm⟩)
  unfold Ct.hard at HH
  rcases hl with hl | hl | hl | hl | hl
  all_goals
    rw [hl] at k3 HH
    clear hl
    go_enter Try.func11, Try.ntmps11
    go_wp2
    change Code.wp _ _ _ _ (w.alloc (.cells #[.int .i64 6, .int .i64 cd] 36))
    change Hid (DB w0 (w.alloc (.cells #[.int .i64 6, .int .i64 cd] 36)) bx a q w.heap.size x0 x1 x2 c c ⟨6, cd⟩) at H
    generalize w.alloc (.cells #[.int .i64 6, .int .i64 cd] 36) = W at *
    go_quiet ((go_at_call 20; exact Calls.quiet_of_same (HH.out _)))
    have HD : Hid (DB w0 (W.drewN nq) bx a q w.heap.size x0 x1 x2 c c ⟨6, cd⟩) := Lib.hid (Aparts.idle H.out (below_drewN (Below.refl _ W) nq))
    clear H HH
    go_wp2
    go_ret
    exact HD.out.post _ (by simp)

set_option maxRecDepth 100000 in
set_option maxHeartbeats 2000000 in
theorem do_else (h : DO w0 w bx a q x0 x1 x2 c) (x : OpV) (hk : x.kind ≠ 0 ∧ x.kind ≠ 1 ∧ x.kind ≠ 2 ∧ x.kind ≠ 3 ∧ x.kind ≠ 4 ∧ x.kind ≠ 5 ∧ x.kind ≠ 6) : Calls Try.prog 11 #[.pointer (some ⟨a, 0, none⟩), .pointer (some ⟨q, 0, none⟩), .agg x.cells.toArray] w (DPost w0 bx a q x0 x1 x2) := by
  obtain ⟨k0, k1, k2, k3, k4, k5, k6⟩ := hk
  have H := Lib.hid (h.box x)
  obtain ⟨c0, c1⟩ := H.out.cells
  clear h
  obtain ⟨kd, cd⟩ := x
  simp only at k0 k1 k2 k3 k4 k5 k6
  have i0 : (kd == 0) = false := by simpa using k0
  have i1 : (kd == 1) = false := by simpa using k1
  have i2 : (kd == 2) = false := by simpa using k2
  have i3 : (kd == 3) = false := by simpa using k3
  have i4 : (kd == 4) = false := by simpa using k4
  have i5 : (kd == 5) = false := by simpa using k5
  have i6 : (kd == 6) = false := by simpa using k6
  clear k0 k1 k2 k3 k4 k5 k6
  simp only [OpV.cells] at *
  go_enter Try.func11, Try.ntmps11
  go_wp2
  go_ret
  exact H.out.post _ rfl

theorem do_any (h : DO w0 w bx a q x0 x1 x2 c) (x : OpV) : Calls Try.prog 11 #[.pointer (some ⟨a, 0, none⟩), .pointer (some ⟨q, 0, none⟩), .agg x.cells.toArray] w (DPost w0 bx a q x0 x1 x2) := by
  by_cases k0 : x.kind = 0
  · exact do_0 h x k0
  by_cases k1 : x.kind = 1
  · exact do_1 h x k1
  by_cases k2 : x.kind = 2
  · exact do_2 h x k2
  by_cases k3 : x.kind = 3
  · exact do_3 h x k3
  by_cases k4 : x.kind = 4
  · exact do_4 h x k4
  by_cases k5 : x.kind = 5
  · exact do_5 h x k5
  by_cases k6 : x.kind = 6
  · exact do_6 h x k6
  exact do_else h x ⟨k0, k1, k2, k3, k4, k5, k6⟩
end

end Go.Proofs.Ytncepiaacadcpaa
