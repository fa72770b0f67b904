/- The directory: the lowest core of a set (math/bits over its table). Conditions: those stated in each theorem. -/
import Derived.Test.YtnhainjdaafmiaaDoorDirA
namespace Go.Proofs.YtnhainjdaafmiaaDoor
open Go.RowKit

/-- Those cells of math/bits' table that sets of four cores reach. -/
structure TabAt (w : World) : Prop where
  t0 : w.cell? ⟨1, 0, none⟩ = some (.int .u8 0)
  t1 : w.cell? ⟨1, 1, none⟩ = some (.int .u8 1)
  t3 : w.cell? ⟨1, 3, none⟩ = some (.int .u8 2)
  t7 : w.cell? ⟨1, 7, none⟩ = some (.int .u8 3)
def lowS (s : Nat) : Nat := if s % 2 = 1 then 0 else if s % 4 = 2 then 1 else if s % 8 = 4 then 2 else 3

def idxS (s : Nat) : Nat := if s % 2 = 1 then 0 else if s % 4 = 2 then 1 else if s % 8 = 4 then 3 else 7
theorem tz_key : ∀ s : Nat, s < 16 → 1 ≤ s → IntKind.u64.wrap (bits BinOp.and IntKind.u64 (s : Int) (IntKind.u64.wrap (-(s : Int))) * 285870213051353865) / 288230376151711744 = ((idxS s : Nat) : Int) := by decide +kernel
theorem idxS_lt (s : Nat) : idxS s < 64 := by
  unfold idxS
  split
  · omega
  split
  · omega
  split <;> omega
theorem lowS_lt (s : Nat) : lowS s < 64 := by
  unfold lowS
  split
  · omega
  split
  · omega
  split <;> omega
theorem TabAt.at {w : World} (h : TabAt w) (s : Nat) : w.cell? ⟨1, idxS s, none⟩ = some (.int .u8 (lowS s)) := by
  unfold idxS lowS
  split
  · exact h.t0
  split
  · exact h.t1
  split
  · exact h.t3
  · exact h.t7

set_option maxHeartbeats 1000000 in
theorem tz64_any (s : Nat) (w : World) (h1 : 1 ≤ s) (hs : s < 16) (hT : TabAt w) :
    Calls Tryd.prog 66 #[.int .u64 s] w fun e w' => e = .returned (.int .i64 (lowS s)) ∧ w = w' := by
  have hx0 : ((s : Int) == 0) = false := by simp; omega
  have key := tz_key s hs h1
  have hcell := hT.at s
  have hi : idxS s < 64 := idxS_lt s
  have hk : lowS s < 64 := lowS_lt s
  generalize idxS s = idx at *
  generalize lowS s = k at *
  go_enter Tryd.func66, Tryd.ntmps66
  go_wp2_with (simp only [key])
  go_ret
  exact ⟨rfl, rfl⟩

set_option maxHeartbeats 1000000 in
theorem tz_any (s : Nat) (w : World) (h1 : 1 ≤ s) (hs : s < 16) (hT : TabAt w) :
    Calls Tryd.prog 57 #[.int .u64 s] w fun e w' => e = .returned (.int .i64 (lowS s)) ∧ w = w' := by
  go_enter Tryd.func57, Tryd.ntmps57
  go_wp2_with fail
  refine (tz64_any s w h1 hs hT).mono ?_
  rintro e w' ⟨rfl, rfl⟩
  go_wp2
  go_ret
  exact ⟨rfl, rfl⟩

end Go.Proofs.YtnhainjdaafmiaaDoor
