/- A control in memory; its small functions. Conditions: those stated in each theorem. -/
import Derived.Test.YtncepiaacadcpaaB0
namespace Go.Proofs.Ytncepiaacadcpaa
open Go.RowKit Go.BigFrame

/-- A control: the budget, the lane, how many were aborted. -/
structure Ct where
  f : Int
  s : Int
  o : Int
  ln : Nat
  a1 : Int
  a2 : Int
  a3 : Int
deriving DecidableEq
def Ct.cells (c : Ct) (made : Bool) : List Value := [.bool made, .int .i64 0, .int .i64 c.f, .int .i64 c.s, .int .i64 c.o, .int .i64 0, .int .i64 (c.ln : Int), .int .i64 0, .int .i64 c.a1, .int .i64 c.a2, .int .i64 c.a3, .int .i64 0]
def Ct.cts (c : Ct) : List Value := [.int .i64 0, .int .i64 c.a1, .int .i64 c.a2, .int .i64 c.a3, .int .i64 0]
def Ct.new (f s o : Int) : Ct := ⟨f, s, o, 0, 0, 0, 0⟩
def Ct.zero : Ct := ⟨0, 0, 0, 0, 0, 0, 0⟩
/-- What all controls keep. -/
structure Ct.Good (c : Ct) : Prop where
  f0 : 0 ≤ c.f
  f1 : c.f ≤ 16
  s0 : 0 ≤ c.s
  s1 : c.s ≤ 16
  o0 : 0 ≤ c.o
  o1 : c.o ≤ 16
  ln : c.ln ≤ 4
  a10 : 0 ≤ c.a1
  a11 : c.a1 ≤ c.f
  a20 : 0 ≤ c.a2
  a21 : c.a2 ≤ c.s
  a30 : 0 ≤ c.a3
  a31 : c.a3 ≤ c.o
  z1 : c.ln = 0 → c.a1 = 0
  z2 : c.ln ≤ 1 → c.a2 = 0
  z3 : c.ln ≤ 2 → c.a3 = 0
  l1 : c.ln = 1 → c.a1 < c.f
  l2 : c.ln = 2 → c.a2 < c.s
  l3 : c.ln = 3 → c.a3 < c.o
def Ct.lim (c : Ct) : Nat → Int
  | 1 => c.f
  | 2 => c.s
  | 3 => c.o
  | _ => 0
def Ct.cnt (c : Ct) : Nat → Int
  | 1 => c.a1
  | 2 => c.a2
  | 3 => c.a3
  | _ => 0
/-- The first open lane from k on. -/
def Ct.from (c : Ct) (k : Nat) : Nat := if k ≤ 1 ∧ c.f ≠ 0 then 1 else if k ≤ 2 ∧ c.s ≠ 0 then 2 else if k ≤ 3 ∧ c.o ≠ 0 then 3 else 4
def Ct.inc (c : Ct) : Ct := match c.ln with
  | 1 => { c with a1 := c.a1 + 1 }
  | 2 => { c with a2 := c.a2 + 1 }
  | 3 => { c with a3 := c.a3 + 1 }
  | _ => c
def Ct.follow (c : Ct) (code : Int) : Nat := if (c.ln = 1 ∨ c.ln = 2) ∧ code = 3 then c.from 3 else if c.cnt c.ln = c.lim c.ln then c.from (c.ln + 1) else c.ln
def okCode (n : Int) : Bool := decide (1 ≤ n ∧ n ≤ 8 ∧ n ≠ 7)
def Ct.errE (c : Ct) : Int := if c.ln = 0 then 0 else 90
def Ct.enter (c : Ct) : Ct := if c.ln = 0 then { c with ln := c.from 1 } else c
def Ct.ansE (c : Ct) : Int := if c.ln = 0 then (c.from 1 : Nat) else 0
def Ct.errA (c : Ct) (n : Int) : Int := if c.ln = 0 ∨ c.ln = 4 then 90 else if okCode n then 0 else 2
def Ct.abort (c : Ct) (n : Int) : Ct := if c.errA n = 0 then { c.inc with ln := c.inc.follow n } else c
def Ct.ansA (c : Ct) (n : Int) : Int := if c.errA n = 0 then (c.inc.follow n : Nat) else 0
def Ct.errL (c : Ct) : Int := if c.ln = 0 then 90 else 0
def Ct.leave (c : Ct) : Ct := if c.ln = 0 then c else Ct.new c.f c.s c.o
def Ct.try_ (c : Ct) : Int := c.a1 + c.a2 + c.a3
def Ct.hard (c : Ct) : Bool := decide (c.ln = 1 ∨ c.ln = 2)

/-- A control at a. -/
structure CtAt (w : World) (a : Nat) (c : Ct) : Prop where
  head : Holds w a 48 (c.cells true)
  ln4 : c.ln ≤ 4

theorem Ct.ln_cases {c : Ct} (h : c.ln ≤ 4) : c.ln = 0 ∨ c.ln = 1 ∨ c.ln = 2 ∨ c.ln = 3 ∨ c.ln = 4 := by omega
theorem Ct.new_good {f s o : Int} (h1 : 0 ≤ f ∧ f ≤ 16) (h2 : 0 ≤ s ∧ s ≤ 16) (h3 : 0 ≤ o ∧ o ≤ 16) : (Ct.new f s o).Good := by
  constructor <;> simp [Ct.new] <;> omega
theorem Ct.enter_good {c : Ct} (h : c.Good) : c.enter.Good := by
  unfold Ct.enter Ct.from
  by_cases h0 : c.ln = 0
  · have z1 := h.z1 h0
    have z2 := h.z2 (by omega)
    have z3 := h.z3 (by omega)
    obtain ⟨a, b, d, e, f, g, -, i, j, k, l, m, n, -, -, -, -, -, -⟩ := h
    rw [if_pos h0]
    repeat' split
    all_goals constructor <;> simp <;> omega
  · rw [if_neg h0]; exact h
theorem Ct.leave_good {c : Ct} (h : c.Good) : c.leave.Good := by
  unfold Ct.leave
  split
  · exact h
  · exact Ct.new_good ⟨h.f0, h.f1⟩ ⟨h.s0, h.s1⟩ ⟨h.o0, h.o1⟩
theorem Ct.from_good {f s o a1 a2 a3 : Int} (k : Nat) (hf : 0 ≤ f ∧ f ≤ 16) (hs : 0 ≤ s ∧ s ≤ 16) (ho : 0 ≤ o ∧ o ≤ 16) (h1 : 0 ≤ a1 ∧ a1 ≤ f) (h2 : 0 ≤ a2 ∧ a2 ≤ s) (h3 : 0 ≤ a3 ∧ a3 ≤ o) (hk : 2 ≤ k) (z2 : k ≤ 2 → a2 = 0) (z3 : k ≤ 3 → a3 = 0) (x : Ct) (hx : x.f = f ∧ x.s = s ∧ x.o = o) :
    (⟨f, s, o, x.from k, a1, a2, a3⟩ : Ct).Good := by
  obtain ⟨rfl, rfl, rfl⟩ := hx
  unfold Ct.from
  by_cases e1 : k ≤ 2 ∧ x.s ≠ 0
  · have z2 := z2 e1.1
    have z3 := z3 (by omega)
    rw [if_neg (by omega), if_pos e1]
    constructor <;> dsimp only <;> omega
  · by_cases e2 : k ≤ 3 ∧ x.o ≠ 0
    · have z3 := z3 e2.1
      rw [if_neg (by omega), if_neg e1, if_pos e2]
      constructor <;> dsimp only <;> omega
    · rw [if_neg (by omega), if_neg e1, if_neg e2]
      constructor <;> dsimp only <;> omega
theorem Ct.abort_good {c : Ct} (h : c.Good) (n : Int) : (c.abort n).Good := by
  unfold Ct.abort
  split
  · rename_i he
    have h0 : c.ln ≠ 0 ∧ c.ln ≠ 4 := by
      unfold Ct.errA at he
      constructor <;> (intro e; rw [if_pos (by omega)] at he; exact absurd he (by decide))
    clear he
    obtain ⟨f, s, o, ln, a1, a2, a3⟩ := c
    obtain ⟨a, b, d, e, f', g, hl, i, j, k, l, m, n', z1, z2, z3, l1, l2, l3⟩ := h
    simp only at *
    have h3 : ln = 1 ∨ ln = 2 ∨ ln = 3 := by omega
    rcases h3 with rfl | rfl | rfl
    · have y1 := l1 rfl
      have y2 := z2 (by omega)
      have y3 := z3 (by omega)
      clear z1 z2 z3 l1 l2 l3
      simp only [Ct.inc, Ct.follow, Ct.cnt, Ct.lim]
      split
      · exact Ct.from_good 3 (by omega) (by omega) (by omega) (by omega) (by omega) (by omega) (by omega) (by omega) (by omega) _ ⟨rfl, rfl, rfl⟩
      · split
        · exact Ct.from_good 2 (by omega) (by omega) (by omega) (by omega) (by omega) (by omega) (by omega) (by omega) (by omega) _ ⟨rfl, rfl, rfl⟩
        · constructor <;> dsimp only <;> omega
    · have y2 := l2 rfl
      have y3 := z3 (by omega)
      clear z1 z2 z3 l1 l2 l3
      simp only [Ct.inc, Ct.follow, Ct.cnt, Ct.lim]
      split
      · exact Ct.from_good 3 (by omega) (by omega) (by omega) (by omega) (by omega) (by omega) (by omega) (by omega) (by omega) _ ⟨rfl, rfl, rfl⟩
      · split
        · exact Ct.from_good 3 (by omega) (by omega) (by omega) (by omega) (by omega) (by omega) (by omega) (by omega) (by omega) _ ⟨rfl, rfl, rfl⟩
        · constructor <;> dsimp only <;> omega
    · have y3 := l3 rfl
      clear z1 z2 z3 l1 l2 l3
      simp only [Ct.inc, Ct.follow, Ct.cnt, Ct.lim]
      split
      · omega
      · split
        · exact Ct.from_good 4 (by omega) (by omega) (by omega) (by omega) (by omega) (by omega) (by omega) (by omega) (by omega) _ ⟨rfl, rfl, rfl⟩
        · constructor <;> dsimp only <;> omega
  · exact h
theorem Ct.from_at {c : Ct} {k j : Nat} (hk : k < j) (hj : j ≤ 4) (ho : j = 4 ∨ c.lim j ≠ 0) (hc : ∀ i, k < i → i < j → c.lim i = 0) : c.from (k + 1) = j := by
  have c1 := hc 1
  have c2 := hc 2
  have c3 := hc 3
  simp only [Ct.lim] at c1 c2 c3
  have h4 : j = 1 ∨ j = 2 ∨ j = 3 ∨ j = 4 := by omega
  unfold Ct.from
  rcases h4 with rfl | rfl | rfl | rfl
  all_goals
    simp only [Ct.lim] at ho
    repeat' split
    all_goals first | rfl | (exfalso; omega)

section
variable {w w' : World} {a : Nat} {c : Ct}
theorem CtAt.below (h : CtAt w a c) (hb : Below w.heap.size w w') : CtAt w' a c := ⟨h.head.below hb, h.ln4⟩
theorem CtAt.frame {C : Nat → Prop} (h : CtAt w a c) (ht : Tch C w w') (ha : ¬ C a) : CtAt w' a c := ⟨ht.holds ha h.head, h.ln4⟩
theorem CtAt.cl (h : CtAt w a c) (j : Nat) {v : Value} (hv : (c.cells true)[j]? = some v) : w.cell? ⟨a, j, none⟩ = some v := h.head.cell hv
theorem CtAt.put (h : CtAt w a c) (j : Nat) (v : Value) (c' : Ct) (hc : (c.cells true).set j v = c'.cells true) (hg : c'.ln ≤ 4) :
    CtAt (w.setCell ⟨a, j, none⟩ v) a c' ∧ Tch (· = a) w (w.setCell ⟨a, j, none⟩ v) :=
  ⟨⟨hc ▸ h.head.set j v, hg⟩, Tch.setCell (C := (· = a)) (Tch.refl _ w) (p := ⟨a, j, none⟩) (.inl rfl) v⟩

set_option maxHeartbeats 400000 in
theorem none_any (h : CtAt w a c) : Calls Try.prog 30 #[.pointer (some ⟨a, 0, none⟩)] w fun e w' => e = .returned (.bool false) ∧ w = w' := by
  have c0 := h.cl 0 rfl
  clear h
  go_enter Try.func30, Try.ntmps30
  go_wp2
  go_ret
  exact ⟨rfl, rfl⟩
set_option maxHeartbeats 400000 in
theorem none_nil (w : World) : Calls Try.prog 30 #[.pointer none] w fun e w' => e = .returned (.bool true) ∧ w = w' := by
  go_enter Try.func30, Try.ntmps30
  go_wp2
  go_ret
  exact ⟨rfl, rfl⟩
set_option maxHeartbeats 400000 in
theorem none_bare (h : w.cell? ⟨a, 0, none⟩ = some (.bool false)) : Calls Try.prog 30 #[.pointer (some ⟨a, 0, none⟩)] w fun e w' => e = .returned (.bool true) ∧ w = w' := by
  go_enter Try.func30, Try.ntmps30
  go_wp2
  go_ret
  exact ⟨rfl, rfl⟩
set_option maxHeartbeats 400000 in
theorem inside_any (h : CtAt w a c) : Calls Try.prog 31 #[.pointer (some ⟨a, 0, none⟩)] w fun e w' => e = .returned (.bool ((c.ln : Int) != 0)) ∧ w = w' := by
  have c6 := h.cl 6 rfl
  clear h
  go_enter Try.func31, Try.ntmps31
  go_wp2
  go_ret
  exact ⟨rfl, rfl⟩
set_option maxHeartbeats 400000 in
theorem lane_any (h : CtAt w a c) : Calls Try.prog 18 #[.pointer (some ⟨a, 0, none⟩)] w fun e w' => e = .returned (.int .i64 (c.ln : Int)) ∧ w = w' := by
  have c6 := h.cl 6 rfl
  clear h
  go_enter Try.func18, Try.ntmps18
  go_wp2
  go_ret
  exact ⟨rfl, rfl⟩
set_option maxHeartbeats 400000 in
theorem lane_nil (w : World) : Calls Try.prog 18 #[.pointer none] w fun e w' => e = .returned (.int .i64 0) ∧ w = w' := by
  go_enter Try.func18, Try.ntmps18
  go_wp2
  go_ret
  exact ⟨rfl, rfl⟩
set_option maxHeartbeats 400000 in
theorem lane_bare (h : w.cell? ⟨a, 6, none⟩ = some (.int .i64 0)) : Calls Try.prog 18 #[.pointer (some ⟨a, 0, none⟩)] w fun e w' => e = .returned (.int .i64 0) ∧ w = w' := by
  go_enter Try.func18, Try.ntmps18
  go_wp2
  go_ret
  exact ⟨rfl, rfl⟩
set_option maxHeartbeats 400000 in
theorem hard_nil (w : World) : Calls Try.prog 20 #[.pointer none] w fun e w' => e = .returned (.bool false) ∧ w = w' := by
  have HN := Lib.hid (lane_nil w)
  go_enter Try.func20, Try.ntmps20
  go_wp2_with (go_at_call 18; refine HN.out.mono ?_; rintro e w' ⟨rfl, rfl⟩)
  go_ret
  exact ⟨rfl, rfl⟩
set_option maxHeartbeats 1000000 in
theorem hard_any (h : CtAt w a c) : Calls Try.prog 20 #[.pointer (some ⟨a, 0, none⟩)] w fun e w' => e = .returned (.bool c.hard) ∧ w = w' := by
  have HN := Lib.hid (lane_any h)
  have hl := Ct.ln_cases h.ln4
  unfold Ct.hard
  clear h
  rcases hl with hl | hl | hl | hl | hl
  all_goals
    rw [hl] at HN ⊢
    clear hl
    go_enter Try.func20, Try.ntmps20
    go_wp2_with (go_at_call 18; refine HN.out.mono ?_; rintro e w' ⟨rfl, rfl⟩)
    go_ret
    exact ⟨rfl, rfl⟩

set_option maxHeartbeats 1000000 in
theorem ends_any (n : Int) (w : World) : Calls Try.prog 33 #[.int .i64 n] w fun e w' => e = .returned (.bool (okCode n)) ∧ w = w' := by
  by_cases h1 : n = 1
  · subst h1
    go_enter Try.func33, Try.ntmps33
    go_wp2
    go_ret
    exact ⟨rfl, rfl⟩
  by_cases h2 : n = 2
  · subst h2
    go_enter Try.func33, Try.ntmps33
    go_wp2
    go_ret
    exact ⟨rfl, rfl⟩
  by_cases h3 : n = 3
  · subst h3
    go_enter Try.func33, Try.ntmps33
    go_wp2
    go_ret
    exact ⟨rfl, rfl⟩
  by_cases h4 : n = 4
  · subst h4
    go_enter Try.func33, Try.ntmps33
    go_wp2
    go_ret
    exact ⟨rfl, rfl⟩
  by_cases h5 : n = 5
  · subst h5
    go_enter Try.func33, Try.ntmps33
    go_wp2
    go_ret
    exact ⟨rfl, rfl⟩
  by_cases h6 : n = 6
  · subst h6
    go_enter Try.func33, Try.ntmps33
    go_wp2
    go_ret
    exact ⟨rfl, rfl⟩
  by_cases h8 : n = 8
  · subst h8
    go_enter Try.func33, Try.ntmps33
    go_wp2
    go_ret
    exact ⟨rfl, rfl⟩
  rw [show okCode n = false from by simp [okCode]; omega]
  have i1 : (n == 1) = false := by simpa using h1
  have i2 : (n == 2) = false := by simpa using h2
  have i3 : (n == 3) = false := by simpa using h3
  have i4 : (n == 4) = false := by simpa using h4
  have i5 : (n == 5) = false := by simpa using h5
  have i6 : (n == 6) = false := by simpa using h6
  have i8 : (n == 8) = false := by simpa using h8
  go_enter Try.func33, Try.ntmps33
  go_wp2
  go_ret
  exact ⟨rfl, rfl⟩

set_option maxHeartbeats 1000000 in
theorem open_any (h : CtAt w a c) (k : Nat) (hk1 : 1 ≤ k) (hk : k ≤ 4) : Calls Try.prog 39 #[.pointer (some ⟨a, 0, none⟩), .int .i64 k] w fun e w' => e = .returned (.bool (decide (k = 4 ∨ c.lim k ≠ 0))) ∧ w = w' := by
  have c2 := h.cl 2 rfl
  have c3 := h.cl 3 rfl
  have c4 := h.cl 4 rfl
  clear h
  have h4 : k = 1 ∨ k = 2 ∨ k = 3 ∨ k = 4 := by omega
  rcases h4 with rfl | rfl | rfl | rfl
  all_goals
    go_enter Try.func39, Try.ntmps39
    go_wp2
    go_ret
    exact ⟨by simp [Ct.lim, bne, Bool.beq_eq_decide_eq], rfl⟩
end

end Go.Proofs.Ytncepiaacadcpaa
