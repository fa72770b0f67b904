/- A file of registers in memory; its small functions. Conditions: those stated in each theorem. -/
import Derived.Test.YtcammonbhehakaaB0
namespace Go.Proofs.Ytcammonbhehakaa
open Go.RowKit Go.BigFrame

/-- What a core is at one moment. -/
structure Mo where
  r : L8
  pc : Int
deriving DecidableEq
def Mo.zero : Mo := ⟨L8.zero, 0⟩
def Mo.cells (m : Mo) : List Value := [.int .u64 m.r.x0, .int .u64 m.r.x1, .int .u64 m.r.x2, .int .u64 m.r.x3, .int .u64 m.r.x4, .int .u64 m.r.x5, .int .u64 m.r.x6, .int .u64 m.r.x7, .int .i64 m.pc]
/-- A file. -/
structure Fl where
  m : Mo
  pt : Option Mo
deriving DecidableEq
def Fl.zero : Fl := ⟨Mo.zero, none⟩
def Mo.fcells (m : Mo) (pv : Value) (made : Bool) : List Value := [.int .u64 m.r.x0, .int .u64 m.r.x1, .int .u64 m.r.x2, .int .u64 m.r.x3, .int .u64 m.r.x4, .int .u64 m.r.x5, .int .u64 m.r.x6, .int .u64 m.r.x7, .int .i64 m.pc, pv, .bool made]

/-- The checkpoint in memory. -/
def PtAt (w : World) (pv : Value) : Option Mo → Prop
  | none => pv = .pointer none
  | some m => ∃ b, pv = .pointer (some ⟨b, 0, none⟩) ∧ Holds w b 46 m.cells
/-- A file at a. -/
structure FlPt (w : World) (a : Nat) (pv : Value) (f : Fl) : Prop where
  head : Holds w a 49 (f.m.fcells pv true)
  point : PtAt w pv f.pt
def FlAt (w : World) (a : Nat) (f : Fl) : Prop := ∃ pv, FlPt w a pv f

def Fl.all (f : Fl) : L8 := f.m.r
def Fl.point (f : Fl) : Mo := match f.pt with | none => Mo.zero | some m => m
def errR (i : Int) : Int := if 0 ≤ i ∧ i < 8 then 0 else 2
def Fl.get (f : Fl) (i : Int) : Int := if 0 ≤ i ∧ i < 8 then f.m.r.get i.toNat else 0
def Fl.set (f : Fl) (i v : Int) : Fl := if 0 ≤ i ∧ i < 8 then { f with m := { f.m with r := f.m.r.set i.toNat v } } else f
def errJ (k : Int) : Int := if k < 0 then 2 else 0
def Fl.jump (f : Fl) (k : Int) : Fl := if k < 0 then f else { f with m := { f.m with pc := k } }
def Fl.save (f : Fl) : Fl := { f with pt := some f.m }
def Fl.errP (f : Fl) : Int := if f.pt.isSome then 0 else 60
def Fl.restore (f : Fl) : Fl := match f.pt with | none => f | some m => { f with m := m }
def Fl.drop (f : Fl) : Fl := { f with pt := none }

section
variable {w w' : World} {a : Nat} {pv : Value} {f : Fl}
theorem PtAt.frame {C : Nat → Prop} {o : Option Mo} (h : PtAt w pv o) (ht : Tch C w w') (hC : ∀ k L, Holds w k 46 L → ¬ C k) : PtAt w' pv o := by
  cases o with
  | none => exact h
  | some m =>
    obtain ⟨b, h1, h2⟩ := h
    exact ⟨b, h1, ht.holds (hC b _ h2) h2⟩
theorem FlPt.frame {C : Nat → Prop} (h : FlPt w a pv f) (ht : Tch C w w') (ha : ¬ C a) (hC : ∀ k L, Holds w k 46 L → ¬ C k) : FlPt w' a pv f :=
  ⟨ht.holds ha h.head, h.point.frame ht hC⟩
theorem FlAt.frame {C : Nat → Prop} (h : FlAt w a f) (ht : Tch C w w') (ha : ¬ C a) (hC : ∀ k L, Holds w k 46 L → ¬ C k) : FlAt w' a f := by
  obtain ⟨pv, h⟩ := h
  exact ⟨pv, h.frame ht ha hC⟩
theorem FlAt.below (h : FlAt w a f) (hb : Below w.heap.size w w') : FlAt w' a f := by
  obtain ⟨pv, h⟩ := h
  exact ⟨pv, h.head.below hb, h.point.frame (C := fun _ => False) (Tch.of_idle hb) (fun _ _ _ h => h)⟩
theorem FlAt.lt (h : FlAt w a f) : a < w.heap.size := by obtain ⟨pv, h⟩ := h; exact h.head.lt
theorem FlAt.typed (h : FlAt w a f) : ∃ L, Holds w a 49 L := by obtain ⟨pv, h⟩ := h; exact ⟨_, h.head⟩
/-- What lies apart from a file stays, where the file turns. -/
theorem FlAt.other {b : Nat} {g : Fl} (h : FlAt w a f) (k : FlAt w b g) (hab : a ≠ b) (ht : Tch (· = b) w w') : FlAt w' a f := by
  obtain ⟨L, hL⟩ := k.typed
  exact h.frame ht hab (fun c M hM e => (hM.ne hL (by decide)) e)
theorem FlPt.c (h : FlPt w a pv f) (j : Nat) {v : Value} (hv : (f.m.fcells pv true)[j]? = some v) : w.cell? ⟨a, j, none⟩ = some v := h.head.cell hv

set_option maxHeartbeats 400000 in
theorem none_any (h : FlAt w a f) : Calls Try.prog 31 #[.pointer (some ⟨a, 0, none⟩)] w fun e w' => e = .returned (.bool false) ∧ w = w' := by
  obtain ⟨pv, h⟩ := h
  have c10 := h.c 10 rfl
  clear h
  go_enter Try.func31, Try.ntmps31
  go_wp2
  go_ret
  exact ⟨rfl, rfl⟩
set_option maxHeartbeats 400000 in
theorem none_nil (w : World) : Calls Try.prog 31 #[.pointer none] w fun e w' => e = .returned (.bool true) ∧ w = w' := by
  go_enter Try.func31, Try.ntmps31
  go_wp2
  go_ret
  exact ⟨rfl, rfl⟩
set_option maxHeartbeats 400000 in
theorem none_bare (h : w.cell? ⟨a, 10, none⟩ = some (.bool false)) : Calls Try.prog 31 #[.pointer (some ⟨a, 0, none⟩)] w fun e w' => e = .returned (.bool true) ∧ w = w' := by
  go_enter Try.func31, Try.ntmps31
  go_wp2
  go_ret
  exact ⟨rfl, rfl⟩

set_option maxHeartbeats 400000 in
theorem register_ok (h : FlAt w a f) (k : Nat) (hk : k < 8) : Calls Try.prog 30 #[.pointer (some ⟨a, 0, none⟩), .int .i64 k] w fun e w' => e = .returned (.tuple #[.pointer (some ⟨a, k, none⟩), .int .i64 0]) ∧ w = w' := by
  have HN := Lib.hid (none_any h)
  have d1 : decide ((k : Int) < 0) = false := by simp
  have d2 : decide (8 ≤ (k : Int)) = false := by simp; omega
  clear h
  go_enter Try.func30, Try.ntmps30
  go_wp2_with (go_at_call 31; refine HN.out.mono ?_; rintro e w' ⟨rfl, rfl⟩)
  go_ret2
  exact ⟨rfl, rfl⟩
set_option maxHeartbeats 400000 in
theorem register_no (h : FlAt w a f) (i : Int) (hi : ¬ (0 ≤ i ∧ i < 8)) : Calls Try.prog 30 #[.pointer (some ⟨a, 0, none⟩), .int .i64 i] w fun e w' => e = .returned (.tuple #[.pointer none, .int .i64 2]) ∧ w = w' := by
  have HN := Lib.hid (none_any h)
  clear h
  by_cases h0 : i < 0
  · go_enter Try.func30, Try.ntmps30
    go_wp2_with (go_at_call 31; refine HN.out.mono ?_; rintro e w' ⟨rfl, rfl⟩)
    go_ret2
    exact ⟨rfl, rfl⟩
  · have d1 : decide (i < 0) = false := by simpa using h0
    have d2 : decide (8 ≤ i) = true := by simp; omega
    go_enter Try.func30, Try.ntmps30
    go_wp2_with (go_at_call 31; refine HN.out.mono ?_; rintro e w' ⟨rfl, rfl⟩)
    go_ret2
    exact ⟨rfl, rfl⟩
/-- On none, or on one that New did not make. -/
theorem register_none {p : Value} (hn : Calls Try.prog 31 #[p] w fun e w' => e = .returned (.bool true) ∧ w = w') (i : Int) : Calls Try.prog 30 #[p, .int .i64 i] w fun e w' => e = .returned (.tuple #[.pointer none, .int .i64 1]) ∧ w = w' := by
  have HN := Lib.hid hn; clear hn
  go_enter Try.func30, Try.ntmps30
  go_wp2_with (go_at_call 31; refine HN.out.mono ?_; rintro e w' ⟨rfl, rfl⟩)
  go_ret2
  exact ⟨rfl, rfl⟩

theorem pointed_none {p : Value} (hn : Calls Try.prog 31 #[p] w fun e w' => e = .returned (.bool true) ∧ w = w') : Calls Try.prog 29 #[p] w fun e w' => e = .returned (.int .i64 1) ∧ w = w' := by
  have HN := Lib.hid hn; clear hn
  go_enter Try.func29, Try.ntmps29
  go_wp2_with (go_at_call 31; refine HN.out.mono ?_; rintro e w' ⟨rfl, rfl⟩)
  go_ret
  exact ⟨rfl, rfl⟩
set_option maxHeartbeats 400000 in
theorem pointed_any (h : FlAt w a f) : Calls Try.prog 29 #[.pointer (some ⟨a, 0, none⟩)] w fun e w' => e = .returned (.int .i64 f.errP) ∧ w = w' := by
  have HN := Lib.hid (none_any h)
  obtain ⟨pv, h⟩ := h
  have c9 := h.c 9 rfl
  have hp := h.point
  clear h
  unfold Fl.errP
  cases hq : f.pt with
  | none =>
    rw [hq] at hp
    obtain rfl : pv = .pointer none := hp
    go_enter Try.func29, Try.ntmps29
    go_wp2_with (go_at_call 31; refine HN.out.mono ?_; rintro e w' ⟨rfl, rfl⟩)
    go_ret
    exact ⟨rfl, rfl⟩
  | some m =>
    rw [hq] at hp
    obtain ⟨b, rfl, hb⟩ := hp
    clear hb
    go_enter Try.func29, Try.ntmps29
    go_wp2_with (go_at_call 31; refine HN.out.mono ?_; rintro e w' ⟨rfl, rfl⟩)
    go_ret
    exact ⟨rfl, rfl⟩
end

end Go.Proofs.Ytcammonbhehakaa
