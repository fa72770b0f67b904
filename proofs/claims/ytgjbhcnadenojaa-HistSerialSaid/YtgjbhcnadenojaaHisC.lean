/- hist: begun. Conditions: those stated in each theorem. -/
import Derived.Test.YtgjbhcnadenojaaHisB
namespace Go.Proofs.Ytgjbhcnadenojaa
open Go.RowKit Go.BigFrame Go.Maps

section
variable {w : World}
theorem Try.sizeKnown : (Try.prog.info? 78).map (·.size) = some 14 := by kernel_rfl
/-- The attempt that begins. -/
def begunC (i : Int) (e : Ev) (bl bs : Nat) : KC := ⟨Kn.begun i e, .slice none 0 0, bl, .slice none 0 0, bs⟩
set_option maxRecDepth 100000 in
set_option maxHeartbeats 1000000 in
theorem begun_any (i : Int) (e : Ev) : Calls Try.prog 50 #[.int .i64 i, .agg e.cells.toArray] w fun z w' => ∃ bl bs, z = .returned (.agg (begunC i e bl bs).cells.toArray) ∧ MpAt w' 3 .i64 bl 0 Mp.none ∧ MpAt w' 3 .i64 bs 0 Mp.none ∧ bl ≠ bs ∧ w.heap.size ≤ bl ∧ w.heap.size ≤ bs ∧ Below w.heap.size w w' := by
  have hmm := @run_makeMap Try.prog
  unfold Ev.cells
  go_enter Try.func50, Try.ntmps50
  go_wp2
  have hs1 : (w.alloc (.cells #[.int .i64 e.k, .int .i64 e.tm, .int .i64 e.co, .int .i64 e.bl, .int .i64 e.tr, .int .i64 e.la, .int .i64 e.ad, .int .u64 e.va, .int .i64 e.cd] 61)).heap.size = w.heap.size + 1 := by simp
  have hb1 : Below w.heap.size w (w.alloc (.cells #[.int .i64 e.k, .int .i64 e.tm, .int .i64 e.co, .int .i64 e.bl, .int .i64 e.tr, .int .i64 e.la, .int .i64 e.ad, .int .u64 e.va, .int .i64 e.cd] 61)) := (Below.refl _ w).alloc (Nat.le_refl _) _
  generalize w.alloc (.cells #[.int .i64 e.k, .int .i64 e.tm, .int .i64 e.co, .int .i64 e.bl, .int .i64 e.tr, .int .i64 e.la, .int .i64 e.ad, .int .u64 e.va, .int .i64 e.cd] 61) = W at *
  have hK : Holds (((W.alloc (.cells (begunC i e (w.heap.size + 1 + 1) (w.heap.size + 1 + 1 + 1)).cells.toArray 78)).alloc (.map #[] 0)).alloc (.map #[] 0)) (w.heap.size + 1) 78 (begunC i e (w.heap.size + 1 + 1) (w.heap.size + 1 + 1 + 1)).cells := by
    have := ((Holds.new W 78 (begunC i e (w.heap.size + 1 + 1) (w.heap.size + 1 + 1 + 1)).cells).alloc (.map #[] 0)).alloc (.map #[] 0)
    rwa [hs1] at this
  have hz2 : (W.alloc (.cells (begunC i e (w.heap.size + 1 + 1) (w.heap.size + 1 + 1 + 1)).cells.toArray 78)).heap.size = w.heap.size + 1 + 1 := by simp [hs1]
  refine bodyPost_ret (results_c rfl rfl (v := .agg (begunC i e (w.heap.size + 1 + 1) (w.heap.size + 1 + 1 + 1)).cells.toArray) (run_loadVar_mid _ _ 0 78 _ _ (hK.range (o := 0) (fun i v hi => by rw [Nat.zero_add]; exact hi)) Try.underlying78 rfl Try.sizeKnown)) rfl ⟨_, _, rfl, ?_, ?_, by omega, by omega, by omega, ?_⟩
  · have h1 := MpAt.made (W.alloc (.cells (begunC i e (w.heap.size + 1 + 1) (w.heap.size + 1 + 1 + 1)).cells.toArray 78)) 3 .i64
    rw [hz2] at h1
    exact h1.same (Below.heap_alloc _ _ _ (by simp [hs1]))
  · have h1 := MpAt.made ((W.alloc (.cells (begunC i e (w.heap.size + 1 + 1) (w.heap.size + 1 + 1 + 1)).cells.toArray 78)).alloc (.map #[] 0)) 3 .i64
    rw [World.size_alloc, hz2] at h1
    exact h1
  · exact ((hb1.alloc (by omega) _).alloc (by simp; omega) _).alloc (by simp; omega) _
end

end Go.Proofs.Ytgjbhcnadenojaa
