/- The directory in memory; finding what is known of a line. Conditions: those stated in each theorem. -/
import Derived.Test.YtnhainjdaafmiaaDoorDirD
namespace Go.Proofs.YtnhainjdaafmiaaDoor
open Go.RowKit

set_option maxHeartbeats 400000 in
theorem dline_nil (k : Int) (w : World) :
    Calls Tryd.prog 27 #[.pointer none, .int .i64 k] w fun e w' => e = .returned (.tuple #[.pointer none, .int .i64 1]) ∧ w = w' := by
  go_enter Tryd.func27, Tryd.ntmps27
  go_wp2
  go_ret2
  exact ⟨rfl, rfl⟩
set_option maxHeartbeats 400000 in
theorem dline_neg (k : Int) (p : Nat) (w : World) (hk : k < 0) :
    Calls Tryd.prog 27 #[.pointer (some ⟨p, 0, none⟩), .int .i64 k] w fun e w' => e = .returned (.tuple #[.pointer none, .int .i64 2]) ∧ w = w' := by
  go_enter Tryd.func27, Tryd.ntmps27
  go_wp2
  go_ret2
  exact ⟨rfl, rfl⟩
set_option maxHeartbeats 400000 in
theorem dline_big (k : Int) (p L n : Nat) (w : World) (hc : w.cell? ⟨p, 2, none⟩ = some (.slice (some ⟨L, 0, none⟩) n n)) (h0 : ¬ k < 0) (hk : ¬ k < n) :
    Calls Tryd.prog 27 #[.pointer (some ⟨p, 0, none⟩), .int .i64 k] w fun e w' => e = .returned (.tuple #[.pointer none, .int .i64 2]) ∧ w = w' := by
  go_enter Tryd.func27, Tryd.ntmps27
  go_wp2
  go_ret2
  exact ⟨rfl, rfl⟩
set_option maxHeartbeats 400000 in
theorem dline_ok (k p L n : Nat) (w : World) (hc : w.cell? ⟨p, 2, none⟩ = some (.slice (some ⟨L, 0, none⟩) n n)) (hk : k < n) :
    Calls Tryd.prog 27 #[.pointer (some ⟨p, 0, none⟩), .int .i64 k] w fun e w' => e = .returned (.tuple #[.pointer (some ⟨L, k * 16, none⟩), .int .i64 0]) ∧ w = w' := by
  go_enter Tryd.func27, Tryd.ntmps27
  go_wp2
  go_ret2
  exact ⟨rfl, rfl⟩

end Go.Proofs.YtnhainjdaafmiaaDoor
