/- A control: New, Most; controls as parts of a law's state; the example alive. Conditions: those stated in each theorem. -/
import Derived.Test.YtncepiaacadcpaaLanD
import Derived.Test.YtncepiaacadcpaaSep0
namespace Go.Proofs.Ytncepiaacadcpaa
open Go.RowKit Go.BigFrame

set_option maxRecDepth 100000 in
set_option maxHeartbeats 1000000 in
theorem new_ok {f s o : Int} (h : MayB f s o) (w : World) : Calls Try.prog 9 #[bud f s o] w fun e w' => ∃ a, e = .returned (.tuple #[.pointer (some ⟨a, 0, none⟩), .int .i64 0]) ∧ w.heap.size ≤ a ∧ CtAt w' a (Ct.new f s o) ∧ Below w.heap.size w w' := by
  have HM := Lib.hid (fun V => may_ok h V)
  clear h
  unfold bud at *
  go_enter Try.func9, Try.ntmps9
  go_wp2_with fail
  refine (HM.out _).mono ?_
  rintro e V ⟨rfl, hb⟩
  have c0 := hb.cell (p := ⟨w.heap.size, 0, none⟩) (by simp)
  have c1 := hb.cell (p := ⟨w.heap.size, 1, none⟩) (by simp)
  have c2 := hb.cell (p := ⟨w.heap.size, 2, none⟩) (by simp)
  have hB := ((Below.refl _ w).alloc (Nat.le_refl _) (.cells #[.int .i64 f, .int .i64 s, .int .i64 o] 23)).trans (hb.mono (by simp))
  have HB := Lib.hid hB; clear hB hb
  have HE := Lib.hid (show CtAt ((V.alloc (.cells #[.int .i64 0, .int .i64 f, .int .i64 s, .int .i64 o, .int .i64 0] 42)).alloc (.cells ((Ct.new f s o).cells true).toArray 48)) (V.heap.size + 1) (Ct.new f s o) from
    ⟨by have := Holds.new (V.alloc (.cells #[.int .i64 0, .int .i64 f, .int .i64 s, .int .i64 o, .int .i64 0] 42)) 48 ((Ct.new f s o).cells true); rwa [World.size_alloc] at this, Nat.zero_le _⟩)
  go_wp2
  go_ret2
  exact ⟨_, rfl, by have := HB.out.size; omega, HE.out, HB.out.trans ((((Below.refl _ V).alloc (Nat.le_refl _) _).alloc (by simp) _).mono HB.out.size)⟩

set_option maxRecDepth 100000 in
set_option maxHeartbeats 1000000 in
theorem new_no {f s o : Int} (h : ¬ MayB f s o) (w : World) : Calls Try.prog 9 #[bud f s o] w fun e w' => e = .returned (.tuple #[.pointer none, .int .i64 2]) ∧ Below w.heap.size w w' := by
  have HM := Lib.hid (fun V => may_no h V)
  clear h
  unfold bud at *
  go_enter Try.func9, Try.ntmps9
  go_wp2_with fail
  refine (HM.out _).mono ?_
  rintro e V ⟨rfl, hb⟩
  have hB := ((Below.refl _ w).alloc (Nat.le_refl _) (.cells #[.int .i64 f, .int .i64 s, .int .i64 o] 23)).trans (hb.mono (by simp))
  have HB := Lib.hid hB; clear hB hb
  go_wp2
  go_ret2
  exact ⟨rfl, HB.out⟩

set_option maxRecDepth 100000 in
set_option maxHeartbeats 1000000 in
theorem most_ok {f s o : Int} (h : MayB f s o) (w : World) : Calls Try.prog 17 #[bud f s o] w fun e w' => e = .returned (.tuple #[.int .i64 (f + s), .int .i64 o]) ∧ Below w.heap.size w w' := by
  have HM := Lib.hid (fun V => may_ok h V)
  obtain ⟨⟨h1, h2⟩, ⟨h3, h4⟩, h5, h6⟩ := h
  unfold bud at *
  go_enter Try.func17, Try.ntmps17
  go_wp2_with fail
  refine (HM.out _).mono ?_
  rintro e V ⟨rfl, hb⟩
  have c0 : V.cell? ⟨w.heap.size, 0, none⟩ = some (.int .i64 f) := (hb.cell (p := ⟨w.heap.size, 0, none⟩) (by simp)).trans ((Holds.new w 23 [.int .i64 f, .int .i64 s, .int .i64 o]).cell rfl)
  have c1 : V.cell? ⟨w.heap.size, 1, none⟩ = some (.int .i64 s) := (hb.cell (p := ⟨w.heap.size, 1, none⟩) (by simp)).trans ((Holds.new w 23 [.int .i64 f, .int .i64 s, .int .i64 o]).cell rfl)
  have c2 : V.cell? ⟨w.heap.size, 2, none⟩ = some (.int .i64 o) := (hb.cell (p := ⟨w.heap.size, 2, none⟩) (by simp)).trans ((Holds.new w 23 [.int .i64 f, .int .i64 s, .int .i64 o]).cell rfl)
  have hB := ((Below.refl _ w).alloc (Nat.le_refl _) (.cells #[.int .i64 f, .int .i64 s, .int .i64 o] 23)).trans (hb.mono (by simp))
  have HB := Lib.hid hB; clear hB hb
  go_wp2
  go_quiet (fail)
  have HQ := Lib.hid (below_drewN HB.out nq)
  go_wp2
  go_ret2
  exact ⟨rfl, HQ.out⟩
set_option maxRecDepth 100000 in
set_option maxHeartbeats 1000000 in
theorem most_no {f s o : Int} (h : ¬ MayB f s o) (w : World) : Calls Try.prog 17 #[bud f s o] w fun e w' => e = .returned (.tuple #[.int .i64 0, .int .i64 0]) ∧ Below w.heap.size w w' := by
  have HM := Lib.hid (fun V => may_no h V)
  clear h
  unfold bud at *
  go_enter Try.func17, Try.ntmps17
  go_wp2_with fail
  refine (HM.out _).mono ?_
  rintro e V ⟨rfl, hb⟩
  have hB := ((Below.refl _ w).alloc (Nat.le_refl _) (.cells #[.int .i64 f, .int .i64 s, .int .i64 o] 23)).trans (hb.mono (by simp))
  have HB := Lib.hid hB; clear hB hb
  go_wp2
  go_ret2
  exact ⟨rfl, HB.out⟩

/-! ### Parts -/
def ctP (a : Nat) (c : Ct) : Part where
  at_ w S := S a ∧ CtAt w a c ∧ c.Good
  frame h ht hC := ⟨h.1, h.2.1.frame ht (hC _ h.1), h.2.2⟩
  more h hST := ⟨hST _ h.2.1.head.lt h.1, h.2.1, h.2.2⟩
def holdP (b : Nat) (t : TypeId) (L : List Value) : Part where
  at_ w S := S b ∧ Holds w b t L
  frame h ht hC := ⟨h.1, ht.holds (hC _ h.1) h.2⟩
  more h hST := ⟨hST _ h.2.lt h.1, h.2⟩

section
variable {w0 w : World} {l l' : List Part} {i a : Nat} {c : Ct}
theorem Aparts.ct (h : Aparts w0 w l) (hi : l[i]? = some (ctP a c)) : CtAt w a c ∧ c.Good := by
  obtain ⟨T, h1, _⟩ := h.get hi
  exact h1.2
theorem Aparts.hold {b : Nat} {t : TypeId} {L : List Value} (h : Aparts w0 w l) (hi : l[i]? = some (holdP b t L)) : Holds w b t L := by
  obtain ⟨T, h1, _⟩ := h.get hi
  exact h1.2
theorem Aparts.lo {b : Nat} {t : TypeId} {L : List Value} (h : Aparts w0 w l) (hi : l[i]? = some (holdP b t L)) : w0.heap.size ≤ b := by
  obtain ⟨T, h1, h2⟩ := h.get hi
  exact (h2 _ h1.1).1
/-- A block is written into. -/
theorem Aparts.put {b : Nat} {t : TypeId} {L L' : List Value} (h : Aparts w0 w l) (hi : l[i]? = some (holdP b t L)) (hl : l.set i (holdP b t L') = l') {w' : World} (hh : Holds w' b t L') (hT : Tch (· = b) w w') : Aparts w0 w' l' := by
  obtain ⟨T, h1, h2⟩ := h.turn hi hl
  exact h2 w' ⟨⟨.inl h1.1, hh⟩, hT.mono (fun k _ e => e ▸ h1.1)⟩
/-- A fresh block. -/
theorem Aparts.box (h : Aparts w0 w l) (t : TypeId) (L : List Value) : Aparts w0 (w.alloc (.cells L.toArray t)) (l ++ [holdP w.heap.size t L]) :=
  h.push ((Below.refl _ w).alloc (Nat.le_refl _) _) ⟨⟨Nat.le_refl _, by simp⟩, Holds.new w t L⟩
theorem Aparts.box_of (h : Aparts w0 w l) {w' : World} {b : Nat} {t : TypeId} {L : List Value} (hb : Below w.heap.size w w') (hh : Holds w' b t L) (hlo : w.heap.size ≤ b) : Aparts w0 w' (l ++ [holdP b t L]) :=
  h.push hb ⟨⟨hlo, hh.lt⟩, hh⟩
theorem new_a (h : Aparts w0 w l) {f s o : Int} (hm : MayB f s o) : Calls Try.prog 9 #[bud f s o] w fun e w' => ∃ a, e = .returned (.tuple #[.pointer (some ⟨a, 0, none⟩), .int .i64 0]) ∧ Aparts w0 w' (l ++ [ctP a (Ct.new f s o)]) :=
  (new_ok hm w).mono fun e w' ⟨a, h1, h2, h3, h4⟩ => ⟨a, h1, h.push h4 ⟨⟨h2, h3.head.lt⟩, h3, Ct.new_good hm.1 hm.2.1 hm.2.2⟩⟩
theorem newno_a (h : Aparts w0 w l) {f s o : Int} (hm : ¬ MayB f s o) : Calls Try.prog 9 #[bud f s o] w fun e w' => e = .returned (.tuple #[.pointer none, .int .i64 2]) ∧ Aparts w0 w' l :=
  (new_no hm w).mono fun e w' ⟨h1, h2⟩ => ⟨h1, h.idle h2⟩
theorem most_a (h : Aparts w0 w l) {f s o : Int} (hm : MayB f s o) : Calls Try.prog 17 #[bud f s o] w fun e w' => e = .returned (.tuple #[.int .i64 (f + s), .int .i64 o]) ∧ Aparts w0 w' l :=
  (most_ok hm w).mono fun e w' ⟨h1, h2⟩ => ⟨h1, h.idle h2⟩
theorem mostno_a (h : Aparts w0 w l) {f s o : Int} (hm : ¬ MayB f s o) : Calls Try.prog 17 #[bud f s o] w fun e w' => e = .returned (.tuple #[.int .i64 0, .int .i64 0]) ∧ Aparts w0 w' l :=
  (most_no hm w).mono fun e w' ⟨h1, h2⟩ => ⟨h1, h.idle h2⟩
theorem enter_a (h : Aparts w0 w l) (i : Nat) (hi : l[i]? = some (ctP a c)) {c' : Ct} {k er : Int} (hc : c.enter = c') (hk : c.ansE = k) (he : c.errE = er) (hl : l.set i (ctP a c') = l') : Calls Try.prog 13 #[.pointer (some ⟨a, 0, none⟩)] w fun e w' => e = .returned (.tuple #[.int .i64 k, .int .i64 er]) ∧ Aparts w0 w' l' := by
  subst hc hk he
  exact h.call hi hl fun T hT => (enter_any hT.2.1).mono fun e w' ⟨h1, h2, h3⟩ => ⟨h1, ⟨.inl hT.1, h2, Ct.enter_good hT.2.2⟩, h3.mono (fun k _ e => e ▸ hT.1)⟩
theorem abort_a (h : Aparts w0 w l) (i : Nat) (hi : l[i]? = some (ctP a c)) (n : Int) {c' : Ct} {k er : Int} (hc : c.abort n = c') (hk : c.ansA n = k) (he : c.errA n = er) (hl : l.set i (ctP a c') = l') : Calls Try.prog 14 #[.pointer (some ⟨a, 0, none⟩), .int .i64 n] w fun e w' => e = .returned (.tuple #[.int .i64 k, .int .i64 er]) ∧ Aparts w0 w' l' := by
  subst hc hk he
  exact h.call hi hl fun T hT => (abort_any hT.2.1 hT.2.2 n).mono fun e w' ⟨h1, h2, h3⟩ => ⟨h1, ⟨.inl hT.1, h2, Ct.abort_good hT.2.2 n⟩, h3.mono (fun k _ e => e ▸ hT.1)⟩
theorem leave_a (h : Aparts w0 w l) (i : Nat) (hi : l[i]? = some (ctP a c)) {c' : Ct} {er : Int} (hc : c.leave = c') (he : c.errL = er) (hl : l.set i (ctP a c') = l') : Calls Try.prog 16 #[.pointer (some ⟨a, 0, none⟩)] w fun e w' => e = .returned (.int .i64 er) ∧ Aparts w0 w' l' := by
  subst hc he
  exact h.call hi hl fun T hT => (leave_any hT.2.1).mono fun e w' ⟨h1, h2, h3⟩ => ⟨h1, ⟨.inl hT.1, h2, Ct.leave_good hT.2.2⟩, h3.mono (fun k _ e => e ▸ hT.1)⟩
theorem lane_a (h : Aparts w0 w l) (i : Nat) (hi : l[i]? = some (ctP a c)) : Calls Try.prog 18 #[.pointer (some ⟨a, 0, none⟩)] w fun e w' => e = .returned (.int .i64 (c.ln : Int)) ∧ w = w' := lane_any (h.ct hi).1
theorem hard_a (h : Aparts w0 w l) (i : Nat) (hi : l[i]? = some (ctP a c)) : Calls Try.prog 20 #[.pointer (some ⟨a, 0, none⟩)] w fun e w' => e = .returned (.bool c.hard) ∧ w = w' := hard_any (h.ct hi).1
theorem counts_a (h : Aparts w0 w l) (i : Nat) (hi : l[i]? = some (ctP a c)) : Calls Try.prog 15 #[.pointer (some ⟨a, 0, none⟩)] w fun e w' => e = .returned (.agg #[.int .i64 0, .int .i64 c.a1, .int .i64 c.a2, .int .i64 c.a3, .int .i64 0]) ∧ Aparts w0 w' l :=
  (counts_any (h.ct hi).1).mono fun e w' ⟨h1, h2⟩ => ⟨h1, h.idle h2⟩
theorem try_a (h : Aparts w0 w l) (i : Nat) (hi : l[i]? = some (ctP a c)) : Calls Try.prog 19 #[.pointer (some ⟨a, 0, none⟩)] w fun e w' => e = .returned (.int .i64 c.try_) ∧ Aparts w0 w' l :=
  (try_any (h.ct hi).1 (h.ct hi).2).mono fun e w' ⟨h1, h2⟩ => ⟨h1, h.idle h2⟩
end

/-! ### '==' of five numbers -/
theorem five_step (d i : Nat) (is : List Nat) (xs ys : Array Value) (a b : Int) (w : World) (h1 : (part 3 xs (i * 1)).run Try.prog w = .ok (.int .i64 a) w) (h2 : (part 3 ys (i * 1)).run Try.prog w = .ok (.int .i64 b) w) :
    (Op.eqItems (d + 1) 3 1 xs ys (i :: is)).run Try.prog w = if a == b then (Op.eqItems (d + 1) 3 1 xs ys is).run Try.prog w else .ok false w := by
  simp only [Op.eqItems, Sem.run_bind, h1, h2, Result.andThen_ok, run_equalIn_int w d 3 .i64 .i64 a b Try.underlying3]
  cases a == b <;> simp
@[go_sem] theorem eq_five (x0 x1 x2 x3 x4 y0 y1 y2 y3 y4 : Int) (w : World) :
    (Op.equalIn 10000 42 (.agg #[.int .i64 x0, .int .i64 x1, .int .i64 x2, .int .i64 x3, .int .i64 x4]) (.agg #[.int .i64 y0, .int .i64 y1, .int .i64 y2, .int .i64 y3, .int .i64 y4])).run Try.prog w =
      .ok (x0 == y0 && x1 == y1 && x2 == y2 && x3 == y3 && x4 == y4) w := by
  rw [run_equalIn_array w 9999 _ _ Try.underlying42 (show Try.prog.info? 3 = some (Try.prog.info? 3).get! from by kernel_rfl), show Try.prog.cellsOf 3 = 1 from by kernel_rfl, show List.range 5 = [0, 1, 2, 3, 4] from rfl]
  rw [five_step 9998 0 _ _ _ x0 y0 w (by kernel_rfl) (by kernel_rfl), five_step 9998 1 _ _ _ x1 y1 w (by kernel_rfl) (by kernel_rfl), five_step 9998 2 _ _ _ x2 y2 w (by kernel_rfl) (by kernel_rfl),
    five_step 9998 3 _ _ _ x3 y3 w (by kernel_rfl) (by kernel_rfl), five_step 9998 4 _ _ _ x4 y4 w (by kernel_rfl) (by kernel_rfl)]
  cases x0 == y0 <;> cases x1 == y1 <;> cases x2 == y2 <;> cases x3 == y3 <;> cases x4 == y4 <;> simp [Op.eqItems]

theorem may_201 : MayB 2 0 1 := by decide
set_option maxRecDepth 100000 in
set_option maxHeartbeats 1000000 in
theorem alive_ok (w : World) : Calls Try.prog 21 #[] w fun e w' => e = .returned (.bool true) ∧ Below w.heap.size w w' := by
  have H := Lib.hid (Aparts.nil w)
  go_enter Try.func21, Try.ntmps21
  go_wp2_with fail
  refine (new_a H.out may_201).mono ?_
  rintro e V ⟨a, rfl, h⟩
  clear H; have H := Lib.hid h; clear h
  go_wp2_with fail
  refine (enter_a H.out 0 rfl (c' := ⟨2, 0, 1, 1, 0, 0, 0⟩) (k := 1) (er := 0) rfl rfl rfl rfl).mono ?_
  rintro e V ⟨rfl, h⟩
  clear H; have H := Lib.hid h; clear h
  go_wp2_with fail
  refine (abort_a H.out 0 rfl 1 (c' := ⟨2, 0, 1, 1, 1, 0, 0⟩) (k := 1) (er := 0) rfl rfl rfl rfl).mono ?_
  rintro e V ⟨rfl, h⟩
  clear H; have H := Lib.hid h; clear h
  go_wp2_with fail
  refine (abort_a H.out 0 rfl 5 (c' := ⟨2, 0, 1, 3, 2, 0, 0⟩) (k := 3) (er := 0) rfl rfl rfl rfl).mono ?_
  rintro e V ⟨rfl, h⟩
  clear H; have H := Lib.hid h; clear h
  go_wp2_with fail
  refine (lane_a H.out 0 rfl).mono ?_
  rintro e V ⟨rfl, rfl⟩
  go_wp2_with fail
  refine (try_a H.out 0 rfl).mono ?_
  rintro e V ⟨rfl, h⟩
  rw [show (⟨2, 0, 1, 3, 2, 0, 0⟩ : Ct).try_ = 2 from rfl]
  have HB := Lib.hid h.below
  go_wp2
  go_ret
  exact ⟨rfl, HB.out⟩

end Go.Proofs.Ytncepiaacadcpaa
