/- SoftLong: the walk. It answers true, and turns nothing that was there. -/
import Derived.Test.YthepmejfgbfilaaSoftLg
namespace Go.Proofs.Ythepmejfgbfilaa
open Go.RowKit Go.BigFrame Go.Maps

def opz (n : Int) : OpQ := ⟨n, 0, 0, false⟩
theorem opz_good {n : Int} (h : 0 ≤ n ∧ n ≤ 20) : (opz n).good := ⟨i64_lit (by show -9223372036854775808 ≤ n ∧ n ≤ 9223372036854775807; omega), i64_lit (by show (-9223372036854775808 : Int) ≤ 0 ∧ (0 : Int) ≤ 9223372036854775807; omega), w64_lit (by show (0 : Int) ≤ 0 ∧ (0 : Int) ≤ 18446744073709551615; omega)⟩
def RW.zero : RW := ⟨0, 0, 0, 0, 0, 0, 0, 0, 0, 0, false, false, 0, 0⟩
/-- At the beginning. -/
theorem start_a {w0 w : World} {p : Nat} (h : Aparts w0 w [pathP p PV.zero]) : Aparts w0 ((w.alloc (.cells #[.int .i64 0, .int .u64 0, .int .i64 0, .int .u64 0, .int .u64 0, .int .i64 0, .int .i64 0, .int .i64 0, .int .u64 0, .int .u64 0, .slice none 0 0, .slice none 0 0, .bool false, .bool false, .int .i64 0, .int .i64 0] 31)).alloc (.map #[] 0)) [pathP p PV.zero, refP w.heap.size PV.zero, memP (w.heap.size + 1) 0 (fun _ => 0)] := by
  have hb1 : Below w.heap.size w (w.alloc (.cells #[.int .i64 0, .int .u64 0, .int .i64 0, .int .u64 0, .int .u64 0, .int .i64 0, .int .i64 0, .int .i64 0, .int .u64 0, .int .u64 0, .slice none 0 0, .slice none 0 0, .bool false, .bool false, .int .i64 0, .int .i64 0] 31)) := (Below.refl _ w).alloc (Nat.le_refl _) _
  have h1 : Aparts w0 (w.alloc (.cells #[.int .i64 0, .int .u64 0, .int .i64 0, .int .u64 0, .int .u64 0, .int .i64 0, .int .i64 0, .int .i64 0, .int .u64 0, .int .u64 0, .slice none 0 0, .slice none 0 0, .bool false, .bool false, .int .i64 0, .int .i64 0] 31)) [pathP p PV.zero, refP w.heap.size PV.zero] := h.push (P := refP w.heap.size PV.zero) hb1
    ⟨RW.zero, .slice none 0 0, .slice none 0 0, ⟨Holds.new w 31 (RW.zero.cells (.slice none 0 0) (.slice none 0 0)), rowL_nil _ _, rowL_nil _ _⟩, ⟨rfl, rfl, rfl, rfl, rfl, rfl, rfl⟩, ⟨Nat.le_refl _, by simp⟩, fun g e => (by cases e), fun g e => (by cases e), by decide, by decide⟩
  have hs : (w.alloc (.cells #[.int .i64 0, .int .u64 0, .int .i64 0, .int .u64 0, .int .u64 0, .int .i64 0, .int .i64 0, .int .i64 0, .int .u64 0, .int .u64 0, .slice none 0 0, .slice none 0 0, .bool false, .bool false, .int .i64 0, .int .i64 0] 31)).heap.size = w.heap.size + 1 := by simp
  have h2 := h1.push (P := memP (w.heap.size + 1) 0 (fun _ => 0)) ((Below.refl _ _).alloc (Nat.le_refl _) (.map #[] 0)) ⟨⟨by omega, by simp⟩, by
    have := MmAt.made (w.alloc (.cells #[.int .i64 0, .int .u64 0, .int .i64 0, .int .u64 0, .int .u64 0, .int .i64 0, .int .i64 0, .int .i64 0, .int .u64 0, .int .u64 0, .slice none 0 0, .slice none 0 0, .bool false, .bool false, .int .i64 0, .int .i64 0] 31))
    rwa [hs] at this⟩
  exact h2

set_option maxRecDepth 100000 in
set_option maxHeartbeats 1000000 in
theorem slong_out (r s : Int) (a0 : Option Addr) (l0 c0 : Nat) (w : World) (h : r < 0 ∨ s < 0 ∨ 200 < r ∨ 200 < s ∨ 300 < l0) :
    Calls Try.prog 4 #[.int .i64 r, .int .i64 s, .slice a0 l0 c0] w fun e w' => e = .returned (.bool true) ∧ Below w.heap.size w w' := by
  by_cases h1 : r < 0
  · have d1 : decide (r < 0) = true := by simp; omega
    go_enter Try.func4, Try.ntmps4
    go_wp2
    go_ret
    exact ⟨rfl, Below.refl _ _⟩
  have d1 : decide (r < 0) = false := by simp; omega
  by_cases h2 : s < 0
  · have d2 : decide (s < 0) = true := by simp; omega
    go_enter Try.func4, Try.ntmps4
    go_wp2
    go_ret
    exact ⟨rfl, Below.refl _ _⟩
  have d2 : decide (s < 0) = false := by simp; omega
  by_cases h3 : 200 < r
  · have d3 : decide ((200 : Int) < r) = true := by simp; omega
    go_enter Try.func4, Try.ntmps4
    go_wp2
    go_ret
    exact ⟨rfl, Below.refl _ _⟩
  have d3 : decide ((200 : Int) < r) = false := by simp; omega
  by_cases h4 : 200 < s
  · have d4 : decide ((200 : Int) < s) = true := by simp; omega
    go_enter Try.func4, Try.ntmps4
    go_wp2
    go_ret
    exact ⟨rfl, Below.refl _ _⟩
  have d4 : decide ((200 : Int) < s) = false := by simp; omega
  have h5 : 300 < l0 := by omega
  have d5 : decide ((300 : Int) < (l0 : Int)) = true := by simp; omega
  go_enter Try.func4, Try.ntmps4
  go_wp2
  go_ret
  exact ⟨rfl, Below.refl _ _⟩

end Go.Proofs.Ythepmejfgbfilaa
