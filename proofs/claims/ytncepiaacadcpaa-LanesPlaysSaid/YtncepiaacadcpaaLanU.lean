/- The document's control beside the program's: parts; do, for each kind of call. Conditions: those stated in each theorem. -/
import Derived.Test.YtncepiaacadcpaaLanS2
import Derived.Test.YtncepiaacadcpaaLanS3
namespace Go.Proofs.Ytncepiaacadcpaa
open Go.RowKit Go.BigFrame

def rfP (q : Nat) (c : Ct) : Part where
  at_ w S := RfAt w S q c
  frame h ht hC := by
    obtain ⟨v, L, h⟩ := h
    exact ⟨v, L, h.frame ht hC⟩
  more h hST := by
    obtain ⟨v, L, h⟩ := h
    exact ⟨v, L, h.head, h.row, fun g e => hST _ (owns_lt h.row e).2 (h.own g e), hST _ h.head.lt h.me, h.rl⟩

theorem rabort_any {w : World} {S : Nat → Prop} {q : Nat} {c : Ct} {v : Value} {L : List Int} (h : RfPt w S q c v L) (hg : c.Good) (n : Int) : Calls Try.prog 27 #[.pointer (some ⟨q, 0, none⟩), .int .i64 n] w fun e w' => e = .returned (.tuple #[.int .i64 (c.ansA n), .int .i64 (c.errA n)]) ∧ RfOut w S q (c.abort n) w' := by
  by_cases hn : c.errA n = 0
  · have hx : ¬ (c.ln = 0 ∨ c.ln = 4) ∧ okCode n = true := by
      unfold Ct.errA at hn
      by_cases hx : c.ln = 0 ∨ c.ln = 4
      · rw [if_pos hx] at hn; exact absurd hn (by decide)
      · rw [if_neg hx] at hn
        refine ⟨hx, ?_⟩
        cases hq : okCode n with
        | true => rfl
        | false => rw [hq] at hn; exact absurd hn (by decide)
    obtain ⟨f, s, o, ln, a1, a2, a3⟩ := c
    have h4 := hg.ln
    simp only at hx h4
    have h3 : ln = 1 ∨ ln = 2 ∨ ln = 3 := by omega
    rcases h3 with rfl | rfl | rfl
    · exact rabort_1 h hg n hx.2
    · exact rabort_2 h hg n hx.2
    · exact rabort_3 h hg n hx.2
  · exact rabort_no h n hn

section
variable {w0 w : World} {l l' : List Part} {i q : Nat} {c : Ct}
theorem renter_a (h : Aparts w0 w l) (i : Nat) (hi : l[i]? = some (rfP q c)) (hg : c.Good) (hl : l.set i (rfP q c.enter) = l') : Calls Try.prog 26 #[.pointer (some ⟨q, 0, none⟩)] w fun e w' => e = .returned (.tuple #[.int .i64 c.ansE, .int .i64 c.errE]) ∧ Aparts w0 w' l' :=
  h.call hi hl fun T hT => by
    obtain ⟨v, L, hT⟩ := hT
    exact (renter_any hT hg).mono fun e w' ⟨h1, h2, h3⟩ => ⟨h1, h2, h3.mono (fun k _ e => e ▸ hT.me)⟩
theorem rabort_a (h : Aparts w0 w l) (i : Nat) (hi : l[i]? = some (rfP q c)) (hg : c.Good) (n : Int) (hl : l.set i (rfP q (c.abort n)) = l') : Calls Try.prog 27 #[.pointer (some ⟨q, 0, none⟩), .int .i64 n] w fun e w' => e = .returned (.tuple #[.int .i64 (c.ansA n), .int .i64 (c.errA n)]) ∧ Aparts w0 w' l' :=
  h.call hi hl fun T hT => by
    obtain ⟨v, L, hT⟩ := hT
    exact (rabort_any hT hg n).mono fun e w' ⟨h1, h2, h3⟩ => ⟨h1, h2, h3.mono (fun k _ e => e ▸ hT.me)⟩
theorem rleave_a (h : Aparts w0 w l) (i : Nat) (hi : l[i]? = some (rfP q c)) (hl : l.set i (rfP q c.leave) = l') : Calls Try.prog 28 #[.pointer (some ⟨q, 0, none⟩)] w fun e w' => e = .returned (.int .i64 c.errL) ∧ Aparts w0 w' l' :=
  h.call hi hl fun T hT => by
    obtain ⟨v, L, hT⟩ := hT
    exact (rleave_any hT).mono fun e w' ⟨h1, h2, h3⟩ => ⟨h1, h2, h3.mono (fun k _ e => e ▸ hT.me)⟩
theorem rcounts_a (h : Aparts w0 w l) (i : Nat) (hi : l[i]? = some (rfP q c)) (hg : c.Good) : Calls Try.prog 29 #[.pointer (some ⟨q, 0, none⟩)] w fun e w' => e = .returned (.agg #[.int .i64 0, .int .i64 c.a1, .int .i64 c.a2, .int .i64 c.a3, .int .i64 0]) ∧ Aparts w0 w' l := by
  obtain ⟨T, ⟨v, L, hT⟩, _⟩ := h.get hi
  exact (rcounts_any hT (hT.rl.good hg)).mono fun e w' ⟨h1, h2⟩ => ⟨h1, h.idle h2⟩
/-- What the law reads of it itself. -/
theorem rcells_a (h : Aparts w0 w l) (i : Nat) (hi : l[i]? = some (rfP q c)) : ∃ ad cap n, w.cell? ⟨q, 3, none⟩ = some (.int .i64 (c.ln : Int)) ∧ w.cell? ⟨q, 4, none⟩ = some (.slice ad n cap) ∧ (n : Int) = c.try_ := by
  obtain ⟨T, ⟨v, L, hT⟩, _⟩ := h.get hi
  rcases owns_form hT.row with ⟨rfl, h2, _⟩ | ⟨g, cap, rfl, _⟩
  · exact ⟨none, 0, 0, hT.cl 3 rfl, hT.cl 4 rfl, by rw [← h2]; exact hT.rl.len⟩
  · exact ⟨_, _, _, hT.cl 3 rfl, hT.cl 4 rfl, hT.rl.len⟩
end

theorem Aparts.front {w0 w : World} {l : List Part} {P : Part} (h : Aparts w0 w (l ++ [P])) : Aparts w0 w l := by
  obtain ⟨⟨o, h1, h2⟩, h3⟩ := h
  exact ⟨⟨o, h1, fun i Q e => h2 i Q (by rw [List.getElem?_append_left (List.getElem?_eq_some_iff.1 e).1]; exact e)⟩, h3⟩
/-- A control and the document's, alike. -/
def DO (w0 w : World) (bx a q : Nat) (x0 x1 x2 : Int) (c : Ct) : Prop :=
  Aparts w0 w [holdP bx 23 [.int .i64 x0, .int .i64 x1, .int .i64 x2], ctP a c, rfP q c]
/-- With a call that came in, in its box. -/
def DB (w0 w : World) (bx a q X : Nat) (x0 x1 x2 : Int) (c g : Ct) (x : OpV) : Prop :=
  Aparts w0 w [holdP bx 23 [.int .i64 x0, .int .i64 x1, .int .i64 x2], ctP a c, rfP q g, holdP X 36 x.cells]
def DPost (w0 : World) (bx a q : Nat) (x0 x1 x2 : Int) (e : Ending) (w' : World) : Prop := e = .returned (.bool true) ∧ ∃ c, DO w0 w' bx a q x0 x1 x2 c
section
variable {w0 w : World} {bx a q X : Nat} {x0 x1 x2 : Int} {c g : Ct} {x : OpV}
theorem DO.box (h : DO w0 w bx a q x0 x1 x2 c) (x : OpV) : DB w0 (w.alloc (.cells x.cells.toArray 36)) bx a q w.heap.size x0 x1 x2 c c x := Aparts.box h _ _
theorem DB.cells (h : DB w0 w bx a q X x0 x1 x2 c g x) : w.cell? ⟨X, 0, none⟩ = some (.int .i64 x.kind) ∧ w.cell? ⟨X, 1, none⟩ = some (.int .i64 x.code) := by
  have k := Aparts.hold h (i := 3) rfl
  exact ⟨k.cell (i := 0) rfl, k.cell (i := 1) rfl⟩
theorem DB.post (h : DB w0 w bx a q X x0 x1 x2 c c x) (b : Bool) (hb : b = true) : DPost w0 bx a q x0 x1 x2 (.returned (.bool b)) w := by
  subst hb
  exact ⟨rfl, c, Aparts.front (l := [holdP bx 23 [.int .i64 x0, .int .i64 x1, .int .i64 x2], ctP a c, rfP q c]) h⟩
theorem DB.good (h : DB w0 w bx a q X x0 x1 x2 c g x) : c.Good := (Aparts.ct h (i := 1) rfl).2
theorem b_enter (h : DB w0 w bx a q X x0 x1 x2 c g x) : Calls Try.prog 13 #[.pointer (some ⟨a, 0, none⟩)] w fun e w' => e = .returned (.tuple #[.int .i64 c.ansE, .int .i64 c.errE]) ∧ DB w0 w' bx a q X x0 x1 x2 c.enter g x := enter_a h 1 rfl rfl rfl rfl rfl
theorem b_renter (h : DB w0 w bx a q X x0 x1 x2 c g x) (hg : g.Good) : Calls Try.prog 26 #[.pointer (some ⟨q, 0, none⟩)] w fun e w' => e = .returned (.tuple #[.int .i64 g.ansE, .int .i64 g.errE]) ∧ DB w0 w' bx a q X x0 x1 x2 c g.enter x := renter_a h 2 rfl hg rfl
theorem b_abort (h : DB w0 w bx a q X x0 x1 x2 c g x) (n : Int) : Calls Try.prog 14 #[.pointer (some ⟨a, 0, none⟩), .int .i64 n] w fun e w' => e = .returned (.tuple #[.int .i64 (c.ansA n), .int .i64 (c.errA n)]) ∧ DB w0 w' bx a q X x0 x1 x2 (c.abort n) g x := abort_a h 1 rfl n rfl rfl rfl rfl
theorem b_rabort (h : DB w0 w bx a q X x0 x1 x2 c g x) (hg : g.Good) (n : Int) : Calls Try.prog 27 #[.pointer (some ⟨q, 0, none⟩), .int .i64 n] w fun e w' => e = .returned (.tuple #[.int .i64 (g.ansA n), .int .i64 (g.errA n)]) ∧ DB w0 w' bx a q X x0 x1 x2 c (g.abort n) x := rabort_a h 2 rfl hg n rfl
theorem b_leave (h : DB w0 w bx a q X x0 x1 x2 c g x) : Calls Try.prog 16 #[.pointer (some ⟨a, 0, none⟩)] w fun e w' => e = .returned (.int .i64 c.errL) ∧ DB w0 w' bx a q X x0 x1 x2 c.leave g x := leave_a h 1 rfl rfl rfl rfl
theorem b_rleave (h : DB w0 w bx a q X x0 x1 x2 c g x) : Calls Try.prog 28 #[.pointer (some ⟨q, 0, none⟩)] w fun e w' => e = .returned (.int .i64 g.errL) ∧ DB w0 w' bx a q X x0 x1 x2 c g.leave x := rleave_a h 2 rfl rfl
theorem b_lane (h : DB w0 w bx a q X x0 x1 x2 c g x) : Calls Try.prog 18 #[.pointer (some ⟨a, 0, none⟩)] w fun e w' => e = .returned (.int .i64 (c.ln : Int)) ∧ w = w' := lane_a h 1 rfl
theorem b_hard (h : DB w0 w bx a q X x0 x1 x2 c g x) : Calls Try.prog 20 #[.pointer (some ⟨a, 0, none⟩)] w fun e w' => e = .returned (.bool c.hard) ∧ w = w' := hard_a h 1 rfl
theorem b_try (h : DB w0 w bx a q X x0 x1 x2 c g x) : Calls Try.prog 19 #[.pointer (some ⟨a, 0, none⟩)] w fun e w' => e = .returned (.int .i64 c.try_) ∧ DB w0 w' bx a q X x0 x1 x2 c g x := try_a h 1 rfl
theorem b_counts (h : DB w0 w bx a q X x0 x1 x2 c g x) : Calls Try.prog 15 #[.pointer (some ⟨a, 0, none⟩)] w fun e w' => e = .returned (.agg #[.int .i64 0, .int .i64 c.a1, .int .i64 c.a2, .int .i64 c.a3, .int .i64 0]) ∧ DB w0 w' bx a q X x0 x1 x2 c g x := counts_a h 1 rfl
theorem b_rcounts (h : DB w0 w bx a q X x0 x1 x2 c g x) (hg : g.Good) : Calls Try.prog 29 #[.pointer (some ⟨q, 0, none⟩)] w fun e w' => e = .returned (.agg #[.int .i64 0, .int .i64 g.a1, .int .i64 g.a2, .int .i64 g.a3, .int .i64 0]) ∧ DB w0 w' bx a q X x0 x1 x2 c g x := rcounts_a h 2 rfl hg
theorem b_cells (h : DB w0 w bx a q X x0 x1 x2 c g x) : w.cell? ⟨q, 3, none⟩ = some (.int .i64 (g.ln : Int)) := by
  obtain ⟨ad, cap, n, h1, _⟩ := rcells_a h 2 rfl
  exact h1
end

/-! ### do -/
section
variable {w0 w : World} {bx a q : Nat} {x0 x1 x2 : Int} {c : Ct}
set_option maxRecDepth 100000 in
set_option maxHeartbeats 2000000 in
theorem do_0 (h : DO w0 w bx a q x0 x1 x2 c) (x : OpV) (hk : x.kind = 0) : Calls Try.prog 11 #[.pointer (some ⟨a, 0, none⟩), .pointer (some ⟨q, 0, none⟩), .agg x.cells.toArray] w (DPost w0 bx a q x0 x1 x2) := by
  have H := Lib.hid (h.box x)
  obtain ⟨c0, c1⟩ := H.out.cells
  rw [hk] at c0
  have HG := Lib.hid H.out.good
  clear h
  obtain ⟨kd, cd⟩ := x
  simp only at hk
  subst hk
  simp only [OpV.cells] at *
  go_enter Try.func11, Try.ntmps11
  go_wp2_with fail
  refine (b_enter H.out).mono ?_
  rintro e V ⟨rfl, h⟩
  clear H; have H := Lib.hid h; clear h
  go_wp2_with fail
  refine (b_renter H.out HG.out).mono ?_
  rintro e V ⟨rfl, h⟩
  clear H; have H := Lib.hid h; clear h
  go_wp2
  go_ret
  exact H.out.post _ (by simp)
set_option maxRecDepth 100000 in
set_option maxHeartbeats 2000000 in
theorem do_1 (h : DO w0 w bx a q x0 x1 x2 c) (x : OpV) (hk : x.kind = 1) : Calls Try.prog 11 #[.pointer (some ⟨a, 0, none⟩), .pointer (some ⟨q, 0, none⟩), .agg x.cells.toArray] w (DPost w0 bx a q x0 x1 x2) := by
  have H := Lib.hid (h.box x)
  obtain ⟨c0, c1⟩ := H.out.cells
  rw [hk] at c0
  have HG := Lib.hid H.out.good
  clear h
  obtain ⟨kd, cd⟩ := x
  simp only at hk
  subst hk
  simp only [OpV.cells] at *
  go_enter Try.func11, Try.ntmps11
  go_wp2_with fail
  refine (b_abort H.out cd).mono ?_
  rintro e V ⟨rfl, h⟩
  clear H; have H := Lib.hid h; clear h
  obtain ⟨-, c1⟩ := H.out.cells
  simp only at c1
  go_wp2_with fail
  refine (b_rabort H.out HG.out cd).mono ?_
  rintro e V ⟨rfl, h⟩
  clear H; have H := Lib.hid h; clear h
  clear c1
  go_wp2
  go_ret
  exact H.out.post _ (by simp)
set_option maxRecDepth 100000 in
set_option maxHeartbeats 2000000 in
theorem do_2 (h : DO w0 w bx a q x0 x1 x2 c) (x : OpV) (hk : x.kind = 2) : Calls Try.prog 11 #[.pointer (some ⟨a, 0, none⟩), .pointer (some ⟨q, 0, none⟩), .agg x.cells.toArray] w (DPost w0 bx a q x0 x1 x2) := by
  have H := Lib.hid (h.box x)
  obtain ⟨c0, c1⟩ := H.out.cells
  rw [hk] at c0
  clear h
  obtain ⟨kd, cd⟩ := x
  simp only at hk
  subst hk
  simp only [OpV.cells] at *
  go_enter Try.func11, Try.ntmps11
  go_wp2_with fail
  refine (b_leave H.out).mono ?_
  rintro e V ⟨rfl, h⟩
  clear H; have H := Lib.hid h; clear h
  go_wp2_with fail
  refine (b_rleave H.out).mono ?_
  rintro e V ⟨rfl, h⟩
  clear H; have H := Lib.hid h; clear h
  go_wp2
  go_ret
  exact H.out.post _ (by simp)
set_option maxRecDepth 100000 in
set_option maxHeartbeats 2000000 in
theorem do_3 (h : DO w0 w bx a q x0 x1 x2 c) (x : OpV) (hk : x.kind = 3) : Calls Try.prog 11 #[.pointer (some ⟨a, 0, none⟩), .pointer (some ⟨q, 0, none⟩), .agg x.cells.toArray] w (DPost w0 bx a q x0 x1 x2) := by
  have H := Lib.hid (h.box x)
  obtain ⟨c0, c1⟩ := H.out.cells
  have k3 := b_cells H.out
  rw [hk] at c0
  have HL := Lib.hid (fun V (hV : DB w0 V bx a q w.heap.size x0 x1 x2 c c x) => b_lane hV)
  clear h
  obtain ⟨kd, cd⟩ := x
  simp only at hk
  subst hk
  simp only [OpV.cells] at *
  go_enter Try.func11, Try.ntmps11
  go_wp2
  change Code.wp _ _ _ _ (w.alloc (.cells #[.int .i64 3, .int .i64 cd] 36))
  change Hid (DB w0 (w.alloc (.cells #[.int .i64 3, .int .i64 cd] 36)) bx a q w.heap.size x0 x1 x2 c c ⟨3, cd⟩) at H
  generalize w.alloc (.cells #[.int .i64 3, .int .i64 cd] 36) = W at *
  generalize w.heap.size = X at *
  have hD : DB w0 W.drew bx a q X x0 x1 x2 c c ⟨3, cd⟩ := Aparts.idle H.out (below_drew1 (Below.refl _ W))
  have HK : Hid (∀ V, DB w0 V bx a q X x0 x1 x2 c c ⟨3, cd⟩ → V.cell? ⟨q, 3, none⟩ = some (.int .i64 (c.ln : Int))) := Lib.hid (fun V h => b_cells h)
  go_region_held3 (fun V => V.cell? ⟨q, 3, none⟩ = some (.int .i64 (c.ln : Int))) (first | with_reducible exact HK.out _ hD) (first | (go_at_call 18; (with_reducible refine (HL.out _ hD).mono ?_); rintro e V ⟨rfl, rfl⟩))
  all_goals
    have HD := Lib.hid hD
    clear H hD
    go_wp2
    go_ret
    exact HD.out.post _ (by simp)
end

end Go.Proofs.Ytncepiaacadcpaa
