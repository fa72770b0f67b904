/- hist: plain, mayBe, hard, names, has, mayHappen, begun. Conditions: those stated in each theorem. -/
import Derived.Test.YtgjbhcnadenojaaHisA
namespace Go.Proofs.Ytgjbhcnadenojaa
open Go.RowKit Go.BigFrame Go.Maps

section
variable {w : World}
set_option maxHeartbeats 400000 in
theorem plain_any (k : Int) : Calls Try.prog 28 #[.int .i64 k] w fun e w' => e = .returned (.bool (plainK k)) ∧ w = w' := by
  unfold plainK
  go_enter Try.func28, Try.ntmps28
  go_wp2
  all_goals go_ret
  all_goals simp [*]
set_option maxHeartbeats 1000000 in
theorem mayBe_any (e : Ev) : Calls Try.prog 40 #[.agg e.cells.toArray] w fun z w' => z = .returned (.bool e.may) ∧ Below w.heap.size w w' := by
  have HB := Lib.hid ((Below.refl w.heap.size w).alloc (Nat.le_refl _) (.cells e.cells.toArray 61))
  unfold Ev.cells at *
  go_enter Try.func40, Try.ntmps40
  go_wp2
  all_goals go_ret
  all_goals refine ⟨?_, HB.out⟩
  all_goals simp only [beq_iff_eq, beq_eq_false_iff_ne, ne_eq] at *
  all_goals refine congrArg (fun b => Ending.returned (Value.bool b)) ?_
  all_goals
    unfold Ev.may
    (repeat' split) <;> first | rfl | omega | (simp; omega) | (rw [Bool.eq_iff_iff]; simp; omega)
/-- The cells of an attempt. -/
theorem c_of {g off : Nat} {L : List Value} (h : CellsAt w g off L) (j : Nat) {v : Value} (hv : L[j]? = some v) : w.cell? ⟨g, off + j, none⟩ = some v := (h j v hv).1
set_option maxHeartbeats 400000 in
theorem hard_any {g off : Nat} {x : KC} (h : CellsAt w g off x.cells) : Calls Try.prog 44 #[.pointer (some ⟨g, off, none⟩)] w fun z w' => z = .returned (.bool x.k.hard) ∧ w = w' := by
  have c3 := h.c 3 rfl
  clear h
  go_enter Try.func44, Try.ntmps44
  go_wp2
  all_goals go_ret
  all_goals simp [Kn.hard, *]
set_option maxHeartbeats 400000 in
theorem khas_any {g off : Nat} {x : KC} (h : CellsAt w g off x.cells) (e : Ev) : Calls Try.prog 49 #[.pointer (some ⟨g, off, none⟩), .agg e.cells.toArray] w fun z w' => z = .returned (.bool (x.k.has e)) ∧ Below w.heap.size w w' := by
  have c1 := h.c 1 rfl
  have c2 := h.c 2 rfl
  have hg := World.block_lt_of_cell? _ _ c1
  have HB := Lib.hid ((Below.refl w.heap.size w).alloc (Nat.le_refl _) (.cells e.cells.toArray 61))
  clear h
  unfold Ev.cells at *
  by_cases hb : (x.k.bl == e.bl) = true
  · by_cases ht : (x.k.tr == e.tr) = true
    all_goals
      try simp only [Bool.not_eq_true] at ht
      go_enter Try.func49, Try.ntmps49
      go_wp2_with fail
      go_quiet (fail)
      go_wp2
      go_ret
      refine ⟨?_, below_drewN HB.out _⟩
      simp [Kn.has, *]
  · simp only [Bool.not_eq_true] at hb
    go_enter Try.func49, Try.ntmps49
    go_wp2_with fail
    go_quiet (fail)
    go_wp2
    go_ret
    refine ⟨?_, below_drewN HB.out _⟩
    simp [Kn.has, *]
set_option maxHeartbeats 400000 in
theorem kmay_any {g off : Nat} {x : KC} (h : CellsAt w g off x.cells) (k : Int) : Calls Try.prog 54 #[.pointer (some ⟨g, off, none⟩), .int .i64 k] w fun z w' => z = .returned (.bool (x.k.may k)) ∧ w = w' := by
  have HH := Lib.hid (hard_any h)
  clear h
  unfold Kn.may
  go_enter Try.func54, Try.ntmps54
  go_wp2_with (go_at_call 44; refine HH.out.mono ?_; rintro e w' ⟨rfl, rfl⟩)
  all_goals go_ret
  all_goals simp [*]
theorem plOf_is (l : List Pr) (a : Int) : (plOf l a).isSome = hasL l a := by unfold plOf hasL; simp
set_option maxHeartbeats 1000000 in
theorem names_any {g off : Nat} {x : KC} {n m : Nat} (h : CellsAt w g off x.cells) (hl : MpAt w 3 .i64 x.lb n (plOf x.k.ld)) (hs : MpAt w 3 .i64 x.sb m (plOf x.k.st)) (a : Int) (ha : (Lit.int .i64 a).wf = true) :
    Calls Try.prog 45 #[.pointer (some ⟨g, off, none⟩), .int .i64 a] w fun z w' => z = .returned (.bool (x.k.names a)) ∧ w = w' := by
  have c11 := h.c 11 rfl
  have c12 := h.c 12 rfl
  have h1 : (plOf x.k.ld a).isSome = hasL x.k.ld a := plOf_is _ _
  have h2 : (plOf x.k.st a).isSome = hasL x.k.st a := plOf_is _ _
  unfold Kn.names
  have HL := Lib.hid hl
  have HS := Lib.hid hs
  have HA := Lib.hid ha
  clear h hl hs ha
  cases hb : hasL x.k.ld a
  all_goals
    rw [hb] at h1
    go_enter Try.func45, Try.ntmps45
    go_wp2_with (at_lookup; first | (refine mp_look_ok Try.underlying76 Try.underlying3 Try.zeroI rfl _ _ rfl x.lb n _ a rfl rfl HL.out HA.out ?_) | (refine mp_look_ok Try.underlying76 Try.underlying3 Try.zeroI rfl _ _ rfl x.sb m _ a rfl rfl HS.out HA.out ?_))
    go_ret
    refine ⟨?_, rfl⟩
    simp [*]
end

end Go.Proofs.Ytgjbhcnadenojaa
