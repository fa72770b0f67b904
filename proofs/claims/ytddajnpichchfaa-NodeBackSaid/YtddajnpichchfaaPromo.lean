/- Promote. Conditions: those stated in each theorem. -/
import Derived.Test.YtddajnpichchfaaDemo
namespace Go.Proofs.Ytddajnpichchfaa
open Go.RowKit

set_option maxRecDepth 100000 in
set_option maxHeartbeats 1000000 in
theorem promote_bad {w : World} {q : Value} {v : Int} (k : Int) (d : L8) (hv : v = 1 ∨ v = 20) (h : ∀ W, W = w.alloc (.cells #[.int .u64 d.x0, .int .u64 d.x1, .int .u64 d.x2, .int .u64 d.x3, .int .u64 d.x4, .int .u64 d.x5, .int .u64 d.x6, .int .u64 d.x7] 36) → Calls Try.prog 77 #[q, .int .i64 k, .int .i64 1] W fun e w' => e = .returned (.tuple #[.pointer none, .int .i64 v]) ∧ Below W.heap.size W w') :
    Calls Try.prog 42 #[q, .int .i64 k, .agg #[.int .u64 d.x0, .int .u64 d.x1, .int .u64 d.x2, .int .u64 d.x3, .int .u64 d.x4, .int .u64 d.x5, .int .u64 d.x6, .int .u64 d.x7]] w fun e w' => e = .returned (.int .i64 v) ∧ Below w.heap.size w w' := by
  have H := Lib.hid (h _ rfl)
  have HB0 : Hid (Below w.heap.size w (w.alloc (.cells #[.int .u64 d.x0, .int .u64 d.x1, .int .u64 d.x2, .int .u64 d.x3, .int .u64 d.x4, .int .u64 d.x5, .int .u64 d.x6, .int .u64 d.x7] 36))) := Lib.hid ((Below.refl _ w).alloc (Nat.le_refl _) _)
  have Hs0 : Hid ((w.alloc (.cells #[.int .u64 d.x0, .int .u64 d.x1, .int .u64 d.x2, .int .u64 d.x3, .int .u64 d.x4, .int .u64 d.x5, .int .u64 d.x6, .int .u64 d.x7] 36)).heap.size = w.heap.size + 1) := Lib.hid (by simp)
  clear h
  rcases hv with rfl | rfl
  all_goals
    go_enter Try.func42, Try.ntmps42
    go_wp2_with fail
    refine H.out.mono ?_
    rintro e w1 ⟨rfl, hb⟩
    have hB := HB0.out.trans (hb.mono (by rw [Hs0.out]; omega))
    have HB := Lib.hid hB; clear hB
    clear hb
    go_wp2
    go_ret
    exact ⟨rfl, HB.out⟩

def PromotePost (p S ways : Nat) (bs : List Nat) (ss : List (List Ent)) (u : Int) (i j : Nat) (d : L8) (w : World) (e : Ending) (w' : World) : Prop :=
  e = .returned (.int .i64 0) ∧ CacheAt w' p S bs ways (upd ss i j { getE ss i j with state := 2, data := d }) u ∧ Tch (Turns p bs) w w'

end Go.Proofs.Ytddajnpichchfaa
