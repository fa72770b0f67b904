/- CacheSets: the cases without a cache, or without steps. Conditions: those stated in each theorem. -/
import Derived.Test.YtimoaiebikoojaaSetsB
import Derived.Test.YtimoaiebikoojaaOpen
namespace Go.Proofs.Ytimoaiebikoojaa
open Go.RowKit

set_option maxRecDepth 100000 in
set_option maxHeartbeats 1000000 in
theorem sets_bad (n ways : Int) (a : Option Addr) (ll cl : Nat) (w : World) (h : n < 1 ∨ 8 < n ∨ ways < 1 ∨ 4 < ways) :
    Calls Try.prog 5 #[.int .i64 n, .int .i64 ways, .slice a ll cl] w fun e w' => e = .returned (.bool true) ∧ Below w.heap.size w w' := by
  go_enter Try.func5, Try.ntmps5
  go_wp2_with fail
  refine (alive_ok _).mono ?_
  rintro e wa ⟨rfl, hba⟩
  have Hb := Lib.hid hba; clear hba
  go_wp2_with fail
  refine (new_bad n ways wa h).mono ?_
  rintro e w' ⟨rfl, rfl⟩
  go_wp2
  go_ret
  exact ⟨rfl, Hb.out⟩

set_option maxRecDepth 100000 in
set_option maxHeartbeats 1000000 in
theorem sets_long (n ways : Nat) (a : Option Addr) (ll cl : Nat) (w : World) (h1 : 1 ≤ n) (h8 : n ≤ 8) (hw1 : 1 ≤ ways) (hw4 : ways ≤ 4) (hl : 600 < ll) :
    Calls Try.prog 5 #[.int .i64 n, .int .i64 ways, .slice a ll cl] w fun e w' => e = .returned (.bool true) ∧ Below w.heap.size w w' := by
  go_enter Try.func5, Try.ntmps5
  go_wp2_with fail
  refine (alive_ok _).mono ?_
  rintro e wa ⟨rfl, hba⟩
  have Hb := Lib.hid hba; clear hba
  go_wp2_with fail
  refine (new_ok n ways wa h1 h8 hw1 hw4).mono ?_
  rintro e w1 ⟨p, S, bs, rfl, -, -, hb0, -, -, -⟩
  have Hb1 := Lib.hid (Hb.out.trans (hb0.mono Hb.out.size)); clear hb0
  go_wp2
  go_ret
  exact ⟨rfl, Hb1.out⟩

set_option maxRecDepth 100000 in
set_option maxHeartbeats 1000000 in
theorem sets_none (n ways : Nat) (a : Option Addr) (cl : Nat) (w : World) (h1 : 1 ≤ n) (h8 : n ≤ 8) (hw1 : 1 ≤ ways) (hw4 : ways ≤ 4) :
    Calls Try.prog 5 #[.int .i64 n, .int .i64 ways, .slice a 0 cl] w fun e w' => e = .returned (.bool true) ∧ Below w.heap.size w w' := by
  go_enter Try.func5, Try.ntmps5
  go_wp2_with fail
  refine (alive_ok _).mono ?_
  rintro e wa ⟨rfl, hba⟩
  have Hb := Lib.hid hba; clear hba
  go_wp2_with fail
  refine (new_ok n ways wa h1 h8 hw1 hw4).mono ?_
  rintro e w1 ⟨p, S, bs, rfl, -, -, hb0, -, -, -⟩
  have Hb1 := Lib.hid (Hb.out.trans (hb0.mono Hb.out.size)); clear hb0
  go_wp2
  go_ret
  exact ⟨rfl, Hb1.out⟩

theorem sets_any (n ways : Int) (a : Option Addr) (ll cl : Nat) (w : World) (hx : Came w a ll stepKinds) (hc : ll ≤ cl) (hm : cl ≤ 9223372036854775807) :
    Calls Try.prog 5 #[.int .i64 n, .int .i64 ways, .slice a ll cl] w fun e w' => e = .returned (.bool true) ∧ Below w.heap.size w w' := by
  by_cases hb : n < 1 ∨ 8 < n ∨ ways < 1 ∨ 4 < ways
  · exact sets_bad n ways a ll cl w hb
  · obtain ⟨n, rfl⟩ := Int.eq_ofNat_of_zero_le (show 0 ≤ n by omega)
    obtain ⟨ways, rfl⟩ := Int.eq_ofNat_of_zero_le (show 0 ≤ ways by omega)
    by_cases hl : 600 < ll
    · exact sets_long n ways a ll cl w (by omega) (by omega) (by omega) (by omega) hl
    · obtain ⟨xs, rfl, h1, h2⟩ := steps_in hx
      cases xs with
      | nil => exact sets_none n ways a cl w (by omega) (by omega) (by omega) (by omega)
      | cons x0 xs =>
        rcases h1 with h1 | ⟨q, c, rfl, h1⟩
        · cases h1
        · rw [List.length_cons] at *
          by_cases hc1 : cl = 1
          · subst hc1
            obtain rfl : xs = [] := List.length_eq_zero_iff.1 (by omega)
            exact sets_one n ways x0 q c w (by omega) (by omega) (by omega) (by omega) h1 h2
          · exact sets_two n ways x0 xs q c cl w (by omega) (by omega) (by omega) (by omega) (by omega) (by omega) hm h1 h2

end Go.Proofs.Ytimoaiebikoojaa
