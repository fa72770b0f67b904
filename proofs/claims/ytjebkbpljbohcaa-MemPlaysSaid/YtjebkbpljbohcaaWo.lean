/- The reference's Same: over a row with the same words it answers true. Conditions: those stated in each theorem. -/
import Derived.Test.YtjebkbpljbohcaaWn
namespace Go.Proofs.Ytjebkbpljbohcaa
open Go.RowKit

set_option maxHeartbeats 1000000 in
theorem same_ok (q c g n : Nat) (xs : List Int) (w : World) (h : RefAt w q c n xs) (hn : n ≤ 64) (hg : w.heap[g]? = some (.cells (xs.map (Value.int .u64)).toArray 34 (0, 0))) :
    Calls Try.prog 19 #[.pointer (some ⟨q, 0, none⟩), .slice (some ⟨g, 0, none⟩) n n] w (Agrees w (.bool true)) := by
  have hlg := lt_of_block hg
  have hc := h.head
  have d1 : ((8 * (n : Int)) != 8 * (n : Int)) = false := by simp
  have H := Lib.hid h; clear h
  have HG := Lib.hid hg; clear hg
  go_enter Try.func19, Try.ntmps19
  go_wp2
  clear hc
  go_loopw [5] (fun i wr => ∃ k : Nat, k ≤ 8 * n ∧ i = .int .i64 k ∧ Below w.heap.size w wr) (fun i _ => 8 * n - (intOf i).toNat)
  case atStart => exact ⟨0, by omega, rfl, Below.refl _ _⟩
  case round =>
    obtain ⟨k, hk, rfl, hB⟩ := hrel
    have hx := H.out.below hB
    have r1 := hx.head
    by_cases hlt : k < 8 * n
    · have hgx : wr.heap[g]? = some (.cells (xs.map (Value.int .u64)).toArray 34 (0, 0)) := by rw [hB.block _ hlg]; exact HG.out
      have r2 := hx.cell (i := k) hlt
      have hl := hx.len
      have r3 : wr.cell? ⟨g, k / 8 * 8 + k % 8, none⟩ = some (.int .u64 (xs.getD k 0)) := by
        rw [show k / 8 * 8 + k % 8 = k from by omega]
        simp [World.cell?, hgx, List.getElem?_eq_getElem (show k < xs.length by omega)]
      have e3 : decide ((n : Int) ≤ (k : Int) / 8) = false := by simp; omega
      have e4 : (k : Int) / 8 < n := by omega
      have e5 : (k : Int) % 8 < 8 := by omega
      have e6 : 0 ≤ (k : Int) / 8 := by omega
      have e7 : 0 ≤ (k : Int) % 8 := by omega
      have hBd := hB
      have HB := Lib.hid hBd; clear hBd hB hx hgx hl H HG
      generalize xs.getD k 0 = z at *
      go_wp2
      go_quiet (fail)
      clear e3 e4 e5 e6 e7
      go_wp2
      go_roundw
      case rel => exact ⟨k + 1, by omega, by go_num, below_drewN HB.out _⟩
      case measure => simp [intOf]; omega
    · have : k = 8 * n := by omega
      subst this
      have HB := Lib.hid hB; clear hB hx
      go_wp2
      go_ret
      exact ⟨rfl, HB.out⟩

end Go.Proofs.Ytjebkbpljbohcaa
