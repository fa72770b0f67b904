/- The directory: sets of cores; what is known of a line, in memory. Conditions: those stated in each theorem. -/
import Derived.Test.YtnhainjdaafmiaaDoorMem
import Derived.Test.YtnhainjdaafmiaaDoorMsg
import Derived.Below
import Derived.StillTailTactics
namespace Go.Proofs.YtnhainjdaafmiaaDoor
open Go.RowKit

/-! ### Sets of cores -/
def withS (s c : Nat) : Nat := s ||| 2 ^ c
def lessS (s c : Nat) : Nat := s &&& (15 - 2 ^ c)
def hasS (s c : Nat) : Bool := s &&& 2 ^ c != 0
theorem or_bits : ∀ s : Nat, s < 16 → ∀ c : Nat, c < 4 → bits .or .u64 (s : Int) (IntKind.u64.wrap (2 ^ c)) = ((withS s c : Nat) : Int) := by decide +kernel
theorem andNot_bits : ∀ s : Nat, s < 16 → ∀ c : Nat, c < 4 → bits .andNot .u64 (s : Int) (IntKind.u64.wrap (2 ^ c)) = ((lessS s c : Nat) : Int) := by decide +kernel
theorem and_bits : ∀ s : Nat, s < 16 → ∀ c : Nat, c < 4 → (bits .and .u64 (s : Int) (IntKind.u64.wrap (2 ^ c)) != 0) = hasS s c := by decide +kernel
theorem withS_lt : ∀ s : Nat, s < 16 → ∀ c : Nat, c < 4 → withS s c < 16 := by decide +kernel
theorem lessS_lt : ∀ s : Nat, s < 16 → ∀ c : Nat, c < 4 → lessS s c < 16 := by decide +kernel

set_option maxHeartbeats 400000 in
theorem with_any (s c : Nat) (w : World) (hs : s < 16) (hc : c < 4) :
    Calls Tryd.prog 63 #[.int .u64 s, .int .i64 c] w fun e w' => e = .returned (.int .u64 (withS s c)) ∧ w = w' := by
  have hb := Lib.hid (or_bits s hs c hc)
  go_enter Tryd.func63, Tryd.ntmps63
  go_wp2
  go_ret
  exact ⟨congrArg Ending.returned (congrArg (Value.int .u64) hb.out), rfl⟩
set_option maxHeartbeats 400000 in
theorem less_any (s c : Nat) (w : World) (hs : s < 16) (hc : c < 4) :
    Calls Tryd.prog 62 #[.int .u64 s, .int .i64 c] w fun e w' => e = .returned (.int .u64 (lessS s c)) ∧ w = w' := by
  have hb := Lib.hid (andNot_bits s hs c hc)
  go_enter Tryd.func62, Tryd.ntmps62
  go_wp2
  go_ret
  exact ⟨congrArg Ending.returned (congrArg (Value.int .u64) hb.out), rfl⟩
set_option maxHeartbeats 400000 in
theorem has_any (s c : Nat) (w : World) (hs : s < 16) (hc : c < 4) :
    Calls Tryd.prog 47 #[.int .u64 s, .int .i64 c] w fun e w' => e = .returned (.bool (hasS s c)) ∧ w = w' := by
  have hb := Lib.hid (and_bits s hs c hc)
  go_enter Tryd.func47, Tryd.ntmps47
  go_wp2
  go_ret
  exact ⟨congrArg Ending.returned (congrArg Value.bool hb.out), rfl⟩

/-! ### What is known of a line -/
/-- What is known of a line; wv is the slice of those that wait. -/
structure KnV where
  owner : Int
  sh : Nat
  under : MsgV
  phase : Int
  asked : Nat
  wv : Value
def KnV.cells (k : KnV) : List Value := [.int .i64 k.owner, .int .u64 k.sh, .int .i64 k.under.kind, .int .i64 k.under.core, .int .i64 k.under.line, .int .u64 k.under.data.x0, .int .u64 k.under.data.x1, .int .u64 k.under.data.x2, .int .u64 k.under.data.x3, .int .u64 k.under.data.x4, .int .u64 k.under.data.x5, .int .u64 k.under.data.x6, .int .u64 k.under.data.x7, .int .i64 k.phase, .int .u64 k.asked, k.wv]
theorem KnV.len (k : KnV) : k.cells.length = 16 := rfl

def known (w : World) (L o : Nat) (k : KnV) : Prop := w.rangeAt L o k.cells ∧ ∀ j, w.frozen? ⟨L, o + j, none⟩ = false

section
variable {w : World} {L o : Nat} {k : KnV}
theorem known.c0 (h : known w L o k) : w.cell? ⟨L, o, none⟩ = some (.int .i64 k.owner) := h.1 0 _ rfl
theorem known.c1 (h : known w L o k) : w.cell? ⟨L, o + 1, none⟩ = some (.int .u64 k.sh) := h.1 1 _ rfl
theorem known.c2 (h : known w L o k) : w.cell? ⟨L, o + 2, none⟩ = some (.int .i64 k.under.kind) := h.1 2 _ rfl
theorem known.c3 (h : known w L o k) : w.cell? ⟨L, o + 2 + 1, none⟩ = some (.int .i64 k.under.core) := h.1 3 _ rfl
theorem known.c4 (h : known w L o k) : w.cell? ⟨L, o + 2 + 2, none⟩ = some (.int .i64 k.under.line) := h.1 4 _ rfl
theorem known.c13 (h : known w L o k) : w.cell? ⟨L, o + 13, none⟩ = some (.int .i64 k.phase) := h.1 13 _ rfl
theorem known.c14 (h : known w L o k) : w.cell? ⟨L, o + 14, none⟩ = some (.int .u64 k.asked) := h.1 14 _ rfl
theorem known.c15 (h : known w L o k) : w.cell? ⟨L, o + 15, none⟩ = some k.wv := h.1 15 _ rfl
end

def runsL (k : KnV) (core : Int) : Bool := k.phase != 0 && k.under.core == core

set_option maxHeartbeats 400000 in
theorem runs_any (L o : Nat) (k : KnV) (core : Int) (w : World) (h : known w L o k) :
    Calls Tryd.prog 48 #[.pointer (some ⟨L, o, none⟩), .int .i64 core] w fun e w' => e = .returned (.bool (runsL k core)) ∧ w = w' := by
  have c13 := h.c13
  have c3 := h.c3
  have H := Lib.hid h; clear h
  by_cases hp : k.phase = 0
  · have hp' : (k.phase != 0) = false := by simp [hp]
    have hr := Lib.hid (show runsL k core = false by simp [runsL, hp])
    clear hp
    go_enter Tryd.func48, Tryd.ntmps48
    go_wp2
    go_ret
    exact ⟨congrArg Ending.returned (congrArg Value.bool hr.out.symm), rfl⟩
  · have hp' : (k.phase != 0) = true := by simpa using hp
    have hr := Lib.hid (show runsL k core = (k.under.core == core) by simp [runsL, hp])
    clear hp
    go_enter Tryd.func48, Tryd.ntmps48
    go_wp2
    go_ret
    exact ⟨congrArg Ending.returned (congrArg Value.bool hr.out.symm), rfl⟩

end Go.Proofs.YtnhainjdaafmiaaDoor
