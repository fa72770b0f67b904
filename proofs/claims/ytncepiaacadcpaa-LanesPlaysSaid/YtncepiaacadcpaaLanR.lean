/- The document's own control: Enter, Abort, Leave, Counts. Conditions: those stated in each theorem. -/
import Derived.Test.YtncepiaacadcpaaLanQ
namespace Go.Proofs.Ytncepiaacadcpaa
open Go.RowKit Go.BigFrame

/-- In the midst of a call: another row, of the call's own. -/
structure Mid (w w2 : World) (q : Nat) (c : Ct) (v : Value) (L : List Int) : Prop where
  head : Holds w2 q 33 (c.rcells v)
  row : w2.ownsRow w.heap.size 3 1 v L.length (L.map lv)
  tch : Tch (· = q) w w2
section
variable {w w' w2 : World} {q : Nat} {c : Ct} {S : Nat → Prop} {v : Value} {L : List Int}
theorem row_apart {lo : Nat} (hh : Holds w q 33 (c.rcells v)) {v' : Value} {n : Nat} {xs : List Value} (hr : w.ownsRow lo 3 1 v' n xs) {g : Nat} (hg : v'.ownBlock = some g) : g ≠ q := by
  rintro rfl
  obtain ⟨x, hx⟩ := owns_kind hr hg
  unfold Holds at hh
  rw [hh] at hx
  have := congrArg Option.some (Option.some.inj hx)
  simp at this
theorem Mid.below (h : Mid w w2 q c v L) (hb : Below w2.heap.size w2 w') : Mid w w' q c v L :=
  ⟨h.head.below hb, owns_same h.row (fun g e => hb.block g (owns_lt h.row e).2), h.tch.trans (Tch.of_idle hb)⟩
theorem Mid.lane (h : Mid w w2 q c v L) (k : Nat) : Mid w (w2.setCell ⟨q, 3, none⟩ (.int .i64 (k : Int))) q { c with ln := k } v L :=
  ⟨h.head.set 3 (.int .i64 (k : Int)), owns_same h.row (fun g e => Below.heap_setCell w2 ⟨q, 3, none⟩ _ g (row_apart h.head h.row e)), h.tch.setCell (p := ⟨q, 3, none⟩) (.inl rfl) _⟩
theorem Mid.out (h : Mid w w2 q c v L) (hq : S q) (hr : RL c L) : RfOut w S q c w2 :=
  ⟨⟨v, L, h.head, owns_mono h.row (fun _ _ => Nat.zero_le _), fun g e => .inr (owns_lt h.row e), .inl hq, hr⟩, h.tch⟩
theorem Mid.low (h : Mid w w2 q c v L) : w2.ownsRow 0 3 1 v L.length (L.map lv) := owns_mono h.row (fun _ _ => Nat.zero_le _)
theorem Mid.of (h : RfPt w S q c v L) {w1 : World} (hb : Below w.heap.size w w1) {v' : Value} {L' : List Int} (hr : w1.ownsRow w.heap.size 3 1 v' L'.length (L'.map lv)) : Mid w (w1.setCell ⟨q, 4, none⟩ v') q c v' L' := by
  have h1 := h.head.below hb
  exact ⟨h1.set 4 v', owns_same hr (fun g e => Below.heap_setCell w1 ⟨q, 4, none⟩ v' g (row_apart h1 hr e)), Tch.setCell (C := (· = q)) (Tch.of_idle hb) (p := ⟨q, 4, none⟩) (.inl rfl) v'⟩
theorem Mid.cells (h : Mid w w2 q c v L) : w2.cell? ⟨q, 0, none⟩ = some (.int .i64 c.f) ∧ w2.cell? ⟨q, 1, none⟩ = some (.int .i64 c.s) ∧ w2.cell? ⟨q, 2, none⟩ = some (.int .i64 c.o) ∧ w2.cell? ⟨q, 3, none⟩ = some (.int .i64 (c.ln : Int)) :=
  ⟨h.head.cell rfl, h.head.cell rfl, h.head.cell rfl, h.head.cell rfl⟩
theorem mid_count (h : Mid w w2 q c v L) (hl : L.length ≤ 48) (k : Int) : Calls Try.prog 36 #[.pointer (some ⟨q, 0, none⟩), .int .i64 k] w2 fun e w' => e = .returned (.int .i64 (L.count k : Nat)) ∧ w2 = w' := count_r h.head h.low hl k
theorem mid_budget (h : Mid w w2 q c v L) (k : Nat) (hk1 : 1 ≤ k) (hk : k ≤ 3) : Calls Try.prog 37 #[.agg #[.int .i64 c.f, .int .i64 c.s, .int .i64 c.o], .int .i64 k] w2 fun e w' => e = .returned (.int .i64 (c.lim k)) ∧ Mid w w' q c v L :=
  (rbudget_any c k hk1 hk w2).mono fun _ _ ⟨h1, h2⟩ => ⟨h1, h.below h2⟩
theorem mid_first (h : Mid w w2 q c v L) (k : Nat) (hk1 : 1 ≤ k) (hk : k ≤ 4) : Calls Try.prog 35 #[.agg #[.int .i64 c.f, .int .i64 c.s, .int .i64 c.o], .int .i64 k] w2 fun e w' => e = .returned (.int .i64 ((c.from k : Nat) : Int)) ∧ Mid w w' q c v L :=
  (first_any c k hk1 hk w2).mono fun _ _ ⟨h1, h2⟩ => ⟨h1, h.below h2⟩

set_option maxRecDepth 100000 in
set_option maxHeartbeats 1000000 in
theorem renter_any (h : RfPt w S q c v L) (hg : c.Good) : Calls Try.prog 26 #[.pointer (some ⟨q, 0, none⟩)] w fun e w' => e = .returned (.tuple #[.int .i64 c.ansE, .int .i64 c.errE]) ∧ RfOut w S q c.enter w' := by
  have c3 := h.cl 3 rfl
  by_cases h0 : c.ln = 0
  · have hM := Mid.of h (Below.refl _ w) (v' := .slice none 0 0) (L' := []) (World.ownsRow_nil _ _ _ _)
    have hrl : RL { c with ln := c.from 1 } [] := RL.nil (hg.z1 h0) (hg.z2 (by omega)) (hg.z3 (by omega))
    have f4 := h.head.free 4
    have c4 := h.cl 4 rfl
    have HM := Lib.hid hM; clear hM
    have HR := Lib.hid (And.intro h.me hrl); clear hrl
    unfold Ct.ansE Ct.errE Ct.enter
    rw [if_pos h0, if_pos h0, if_pos h0]
    rw [h0] at c3
    have g3 : decide ((0 : Int) < ((0 : Nat) : Int)) = false := rfl
    obtain ⟨k0, k1, k2, k3⟩ := HM.out.cells
    have hv := owns_form h.row
    clear h
    have go : ∀ u, v = u → (∀ k : Int, u ≠ .int .i64 k) → True := fun _ _ _ => trivial
    clear go
    go_enter Try.func26, Try.ntmps26
    go_wp2_with fail
    refine (mid_first HM.out 1 (by omega) (by omega)).mono ?_
    rintro e V ⟨rfl, hV⟩
    have p3 := hV.head.cell (i := 3) rfl
    have r3 := hV.head.free 3
    have HV := Lib.hid (hV.lane (c.from 1)); clear hV
    go_wp2
    go_ret2
    exact ⟨rfl, HV.out.out HR.out.1 HR.out.2⟩
  · have HE := Lib.hid h.same
    unfold Ct.ansE Ct.errE Ct.enter
    rw [if_neg h0, if_neg h0, if_neg h0]
    have g3 : decide ((0 : Int) < (c.ln : Int)) = true := by simp; omega
    clear h
    go_enter Try.func26, Try.ntmps26
    go_wp2
    go_ret2
    exact ⟨rfl, HE.out⟩

set_option maxRecDepth 100000 in
set_option maxHeartbeats 1000000 in
theorem rleave_any (h : RfPt w S q c v L) : Calls Try.prog 28 #[.pointer (some ⟨q, 0, none⟩)] w fun e w' => e = .returned (.int .i64 c.errL) ∧ RfOut w S q c.leave w' := by
  have c3 := h.cl 3 rfl
  by_cases h0 : c.ln = 0
  · have HE := Lib.hid h.same
    unfold Ct.errL Ct.leave
    rw [if_pos h0, if_pos h0]
    rw [h0] at c3
    clear h
    go_enter Try.func28, Try.ntmps28
    go_wp2
    go_ret
    exact ⟨rfl, HE.out⟩
  · have f3 := h.head.free 3
    have f4 := h.head.free 4
    have c4 := h.cl 4 rfl
    have HE := Lib.hid (show RfOut w S q (Ct.new c.f c.s c.o) ((w.setCell ⟨q, 3, none⟩ (.int .i64 0)).setCell ⟨q, 4, none⟩ (.slice none 0 0)) from
      ⟨⟨.slice none 0 0, [], (h.head.set 3 (.int .i64 0)).set 4 (.slice none 0 0), World.ownsRow_nil _ _ _ _, fun g e => (by cases e), .inl h.me, RL.nil rfl rfl rfl⟩, Tch.setCell (C := (· = q)) (Tch.setCell (C := (· = q)) (Tch.refl _ w) (p := ⟨q, 3, none⟩) (.inl rfl) _) (p := ⟨q, 4, none⟩) (.inl rfl) _⟩)
    unfold Ct.errL Ct.leave
    rw [if_neg h0, if_neg h0]
    have g3 : ((c.ln : Int) == 0) = false := by simp; omega
    clear h
    go_enter Try.func28, Try.ntmps28
    go_wp2
    go_ret
    exact ⟨rfl, HE.out⟩

set_option maxRecDepth 100000 in
set_option maxHeartbeats 1000000 in
theorem rcounts_any (h : RfPt w S q c v L) (hl : L.length ≤ 48) : Calls Try.prog 29 #[.pointer (some ⟨q, 0, none⟩)] w fun e w' => e = .returned (.agg #[.int .i64 0, .int .i64 c.a1, .int .i64 c.a2, .int .i64 c.a3, .int .i64 0]) ∧ Below w.heap.size w w' := by
  have HC := Lib.hid (fun V (hb : Below w.heap.size w V) k => count_any (h.below hb) hl k)
  have HRL := Lib.hid h.rl
  have hb0 : Below w.heap.size w ((w.alloc (.cells zero5.toArray 42)).alloc (.cells zero5.toArray 42)) := ((Below.refl _ w).alloc (Nat.le_refl _) _).alloc (by simp) _
  have hn0 : Holds ((w.alloc (.cells zero5.toArray 42)).alloc (.cells zero5.toArray 42)) (w.heap.size + 1) 42 zero5 := by
    have := Holds.new (w.alloc (.cells zero5.toArray 42)) 42 zero5
    rwa [World.size_alloc] at this
  have ho0 : Holds ((w.alloc (.cells zero5.toArray 42)).alloc (.cells zero5.toArray 42)) w.heap.size 42 zero5 := (Holds.new w 42 zero5).alloc _
  obtain ⟨W0, eW⟩ : ∃ W0, W0 = (w.alloc (.cells zero5.toArray 42)).alloc (.cells zero5.toArray 42) := ⟨_, rfl⟩
  rw [← eW] at hb0 hn0 ho0
  have HW := Lib.hid eW; clear eW
  have HB0 := Lib.hid hb0; clear hb0
  have HN0 := Lib.hid hn0; clear hn0
  have HO0 := Lib.hid ho0; clear ho0
  clear h
  go_enter Try.func29, Try.ntmps29
  go_wp2
  change Code.wp _ _ _ _ ((w.alloc (.cells zero5.toArray 42)).alloc (.cells zero5.toArray 42))
  rw [← HW.out]
  clear HW
  refine wp_loop_rounds 5 ?_
  have n1 := HN0.out.cell (i := 1) rfl
  have fn1 := HN0.out.free 1
  rw [rounds_succ]
  go_wp2_with (go_at_call 36; refine (HC.out _ HB0.out 1).mono ?_; rintro e V ⟨rfl, rfl⟩)
  have HN1 := Lib.hid (HN0.out.set 1 (.int .i64 (L.count 1 : Nat)))
  have HB1 := Lib.hid (HB0.out.setCell (p := ⟨w.heap.size + 1, 1, none⟩) (by simp) (.int .i64 (L.count 1 : Nat)))
  have HO1 := Lib.hid (HO0.out.other (p := ⟨w.heap.size + 1, 1, none⟩) (by simp) (.int .i64 (L.count 1 : Nat)))
  clear n1 fn1 HN0 HB0 HO0
  generalize World.setCell _ ⟨w.heap.size + 1, 1, none⟩ (.int .i64 (L.count 1 : Nat)) = W1 at *
  have n2 := HN1.out.cell (i := 2) rfl
  have fn2 := HN1.out.free 2
  rw [rounds_succ]
  go_wp2_with (go_at_call 36; refine (HC.out _ HB1.out 2).mono ?_; rintro e V ⟨rfl, rfl⟩)
  have HN2 := Lib.hid (HN1.out.set 2 (.int .i64 (L.count 2 : Nat)))
  have HB2 := Lib.hid (HB1.out.setCell (p := ⟨w.heap.size + 1, 2, none⟩) (by simp) (.int .i64 (L.count 2 : Nat)))
  have HO2 := Lib.hid (HO1.out.other (p := ⟨w.heap.size + 1, 2, none⟩) (by simp) (.int .i64 (L.count 2 : Nat)))
  clear n2 fn2 HN1 HB1 HO1
  generalize World.setCell _ ⟨w.heap.size + 1, 2, none⟩ (.int .i64 (L.count 2 : Nat)) = W2 at *
  have n3 := HN2.out.cell (i := 3) rfl
  have fn3 := HN2.out.free 3
  rw [rounds_succ]
  go_wp2_with (go_at_call 36; refine (HC.out _ HB2.out 3).mono ?_; rintro e V ⟨rfl, rfl⟩)
  have HN3 := Lib.hid (HN2.out.set 3 (.int .i64 (L.count 3 : Nat)))
  have HB3 := Lib.hid (HB2.out.setCell (p := ⟨w.heap.size + 1, 3, none⟩) (by simp) (.int .i64 (L.count 3 : Nat)))
  have HO3 := Lib.hid (HO2.out.other (p := ⟨w.heap.size + 1, 3, none⟩) (by simp) (.int .i64 (L.count 3 : Nat)))
  clear n3 fn3 HN2 HB2 HO2
  generalize World.setCell _ ⟨w.heap.size + 1, 3, none⟩ (.int .i64 (L.count 3 : Nat)) = W3 at *
  have n4 := HN3.out.cell (i := 4) rfl
  have fn4 := HN3.out.free 4
  rw [rounds_succ]
  go_wp2_with (go_at_call 36; refine (HC.out _ HB3.out 4).mono ?_; rintro e V ⟨rfl, rfl⟩)
  have HN4 := Lib.hid (HN3.out.set 4 (.int .i64 (L.count 4 : Nat)))
  have HB4 := Lib.hid (HB3.out.setCell (p := ⟨w.heap.size + 1, 4, none⟩) (by simp) (.int .i64 (L.count 4 : Nat)))
  have HO4 := Lib.hid (HO3.out.other (p := ⟨w.heap.size + 1, 4, none⟩) (by simp) (.int .i64 (L.count 4 : Nat)))
  clear n4 fn4 HN3 HB3 HO3
  generalize World.setCell _ ⟨w.heap.size + 1, 4, none⟩ (.int .i64 (L.count 4 : Nat)) = W4 at *
  have hN : Holds W4 (w.heap.size + 1) 42 c.cts := by
    have h5 := HN4.out
    rw [HRL.out.k1, HRL.out.k2, HRL.out.k3, HRL.out.k4] at h5
    exact h5
  have HR := Lib.hid (hN.range (o := 0) (cs := c.cts) (fun i v hi => by rw [Nat.zero_add]; exact hi))
  have HT := Lib.hid (HO4.out.there (o := 0) (n := 5) (by simp [zero5]))
  have HL := Lib.hid (range_set (b := w.heap.size) (o := 0) (w := W4) c.cts HT.out)
  have HB := Lib.hid (below_cells (B := w.heap.size) (Nat.le_refl _) c.cts 0 W4 HB4.out)
  clear hN HN4 HO4 HB4
  rw [rounds_succ]
  go_wp2_with (first | (refine wpList_load_mid rfl 42 (.tmp 3) rfl (w.heap.size + 1) 0 rfl c.cts _ ?_ Try.underlying42 rfl Try.sizeFive ?_; exact HR.out) | (refine wpList_store_mid rfl 42 (.tmp 2) (.tmp 14) rfl w.heap.size 0 c.cts.toArray rfl rfl ?_ Try.sizeFive (oneCts _) ?_; exact HT.out; change wpList _ _ _ _ _ (W4.setCells w.heap.size 0 c.cts)))
  exact bodyPost_ret (results_c rfl rfl (Try.loadFive c HL.out)) rfl ⟨rfl, HB.out⟩

theorem lv_one (L : List Int) : ∀ u ∈ L.map lv, u.oneCell' = true := by intro u hu; obtain ⟨x, -, rfl⟩ := List.mem_map.1 hu; rfl
theorem Try.infoI : (Try.prog.info? 3).map (fun i => (i.zero, i.size, i.bytes)) = some (some (.int .i64 0), 1, 8) := by kernel_rfl

set_option maxRecDepth 100000 in
set_option maxHeartbeats 1000000 in
theorem rabort_no (h : RfPt w S q c v L) (n : Int) (hn : c.errA n ≠ 0) : Calls Try.prog 27 #[.pointer (some ⟨q, 0, none⟩), .int .i64 n] w fun e w' => e = .returned (.tuple #[.int .i64 (c.ansA n), .int .i64 (c.errA n)]) ∧ RfOut w S q (c.abort n) w' := by
  have c3 := h.cl 3 rfl
  have HE := Lib.hid (show RfOut w S q (c.abort n) w from by unfold Ct.abort; rw [if_neg hn]; exact h.same)
  rw [show c.ansA n = 0 from by unfold Ct.ansA; rw [if_neg hn]]
  clear h
  unfold Ct.errA at *
  by_cases h0 : c.ln = 0
  · rw [if_pos (by omega)]
    rw [h0] at c3
    clear hn
    go_enter Try.func27, Try.ntmps27
    go_wp2
    go_ret2
    exact ⟨rfl, HE.out⟩
  by_cases h4 : c.ln = 4
  · rw [if_pos (by omega)]
    rw [h4] at c3
    clear hn
    go_enter Try.func27, Try.ntmps27
    go_wp2
    go_ret2
    exact ⟨rfl, HE.out⟩
  have hx : ¬ (c.ln = 0 ∨ c.ln = 4) := by omega
  rw [if_neg hx] at hn ⊢
  have hok : okCode n = false := by
    cases hq : okCode n with
    | true => rw [hq] at hn; exact absurd rfl hn
    | false => rfl
  rw [hok]
  have g0 : ((c.ln : Int) == 0) = false := by simp; omega
  have g4 : ((c.ln : Int) == 4) = false := by simp; omega
  have hbad : n < 1 ∨ 8 < n ∨ n = 7 := by simp [okCode] at hok; omega
  clear hn hx hok h0 h4
  by_cases q1 : n < 1
  · have d1 : decide (n < 1) = true := by simpa using q1
    clear hbad q1
    go_enter Try.func27, Try.ntmps27
    go_wp2
    go_ret2
    exact ⟨rfl, HE.out⟩
  have d1 : decide (n < 1) = false := by simpa using q1
  by_cases q2 : 8 < n
  · have d2 : decide (8 < n) = true := by simpa using q2
    clear hbad q1 q2
    go_enter Try.func27, Try.ntmps27
    go_wp2
    go_ret2
    exact ⟨rfl, HE.out⟩
  obtain rfl : n = 7 := by omega
  clear hbad q1 q2 d1
  go_enter Try.func27, Try.ntmps27
  go_wp2
  go_ret2
  exact ⟨rfl, HE.out⟩
end

end Go.Proofs.Ytncepiaacadcpaa
