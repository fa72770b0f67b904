/- LogFirst. Conditions: those stated in each theorem. -/
import Derived.Test.YtfngfphoefpndaaLogLR
import Derived.Test.YtfngfphoefpndaaLogLW
namespace Go.Proofs.Ytfngfphoefpndaa
open Go.RowKit Go.BigFrame Go.Maps

set_option maxRecDepth 100000 in
set_option maxHeartbeats 1000000 in
theorem lfirst_long (a0 : Option Addr) (l0 c0 : Nat) (x : OpV) (v2 : Int) (w : World) (hl : 1000 < l0) :
    Calls Try.prog 6 #[.slice a0 l0 c0, .agg x.cells.toArray, .int .u64 v2] w fun e w' => e = .returned (.bool true) ∧ Below w.heap.size w w' := by
  have hB : Below w.heap.size w (w.alloc (.cells x.cells.toArray 35)) := (Below.refl _ w).alloc (Nat.le_refl _) _
  have d0 : decide ((1000 : Int) < (l0 : Int)) = true := by simp; omega
  have HB := Lib.hid hB; clear hB
  clear hl
  go_enter Try.func6, Try.ntmps6
  obtain ⟨xk, xa, xv, xad, xn, xc⟩ := x
  simp only [OpV.cells] at *
  go_wp2_with fail
  generalize w.alloc (.cells #[.int .i64 xk, .int .i64 xa, .int .u64 xv, .slice xad xn xc] 35) = Wb at *
  refine (alive_ok _).mono ?_
  rintro e w1 ⟨rfl, hb⟩
  have HB2 := Lib.hid (HB.out.trans (hb.mono HB.out.size)); clear hb
  go_wp2
  go_ret
  exact ⟨rfl, HB2.out⟩

theorem lfirst_any (a0 : Option Addr) (c0 : Nat) (xs : List OpV) (x : OpV) (v2 : Int) (w : World) (hx : OpsIn w a0 xs) (hok : x.ok w) (hv2 : (Lit.int .u64 v2).wf = true) :
    Calls Try.prog 6 #[.slice a0 xs.length c0, .agg x.cells.toArray, .int .u64 v2] w fun e w' => e = .returned (.bool true) ∧ Below w.heap.size w w' := by
  by_cases hl : 1000 < xs.length
  · exact lfirst_long a0 _ c0 x v2 w hl
  have hI := LI.zero.play xs
  by_cases hk : x.kind = 0
  · obtain ⟨h1, h2, h3 | h3 | h3 | h3⟩ := read_twice hI x.a x.v v2
    · exact lfirst_r0 a0 c0 xs x v2 w hx hok hv2 (by omega) hk _ rfl hI h1 h2 h3
    · exact lfirst_r1 a0 c0 xs x v2 w hx hok hv2 (by omega) hk _ rfl hI h1 h2 h3
    · exact lfirst_r2 a0 c0 xs x v2 w hx hok hv2 (by omega) hk _ rfl hI h1 h2 h3
    · exact lfirst_r3 a0 c0 xs x v2 w hx hok hv2 (by omega) hk _ rfl hI h1 h2 h3
  · obtain ⟨h1, h2, h3 | h3 | h3 | h3⟩ := write_twice hI x.a x.v v2
    · exact lfirst_w0 a0 c0 xs x v2 w hx hok hv2 (by omega) hk _ rfl hI h1 h2 h3
    · exact lfirst_w1 a0 c0 xs x v2 w hx hok hv2 (by omega) hk _ rfl hI h1 h2 h3
    · exact lfirst_w2 a0 c0 xs x v2 w hx hok hv2 (by omega) hk _ rfl hI h1 h2 h3
    · exact lfirst_w3 a0 c0 xs x v2 w hx hok hv2 (by omega) hk _ rfl hI h1 h2 h3

end Go.Proofs.Ytfngfphoefpndaa
