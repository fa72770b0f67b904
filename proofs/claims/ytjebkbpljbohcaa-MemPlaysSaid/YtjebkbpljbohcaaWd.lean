/- Line and Set over a memory at p: what they answer and do. Conditions: those stated in each theorem. -/
import Derived.Test.YtjebkbpljbohcaaWc
import Derived.Deep.MidRow
namespace Go.Proofs.Ytjebkbpljbohcaa
open Go.RowKit

def Agrees (w : World) (e0 : Value) (e : Ending) (w' : World) : Prop := e = .returned e0 ∧ Below w.heap.size w w'

set_option maxHeartbeats 400000 in
theorem lget_nil (k : Int) (w : World) :
    Calls Try.prog 13 #[.pointer none, .int .i64 k] w (Agrees w (.tuple #[.agg #[.int .u64 0, .int .u64 0, .int .u64 0, .int .u64 0, .int .u64 0, .int .u64 0, .int .u64 0, .int .u64 0], .int .i64 1])) := by
  go_enter Try.func13, Try.ntmps13
  go_wp2_with (go_at_call 22; refine (line_nil _ _).mono ?_; rintro e w' ⟨rfl, rfl⟩)
  exact bodyPost_ret (v := .tuple #[.agg #[.int .u64 0, .int .u64 0, .int .u64 0, .int .u64 0, .int .u64 0, .int .u64 0, .int .u64 0, .int .u64 0], .int .i64 1]) (by simp [results, Try.results13, go_sem]) rfl ⟨rfl, by
    repeat (first | exact Below.refl _ _ | refine Below.setCell ?_ (by simp) _ | refine Below.alloc ?_ (by simp) _)⟩

set_option maxHeartbeats 400000 in
theorem lget_neg (k : Int) (p : Nat) (w : World) (hk : k < 0) :
    Calls Try.prog 13 #[.pointer (some ⟨p, 0, none⟩), .int .i64 k] w (Agrees w (.tuple #[.agg #[.int .u64 0, .int .u64 0, .int .u64 0, .int .u64 0, .int .u64 0, .int .u64 0, .int .u64 0, .int .u64 0], .int .i64 2])) := by
  go_enter Try.func13, Try.ntmps13
  go_wp2_with (go_at_call 22; refine (line_neg _ _ _ hk).mono ?_; rintro e w' ⟨rfl, rfl⟩)
  exact bodyPost_ret (v := .tuple #[.agg #[.int .u64 0, .int .u64 0, .int .u64 0, .int .u64 0, .int .u64 0, .int .u64 0, .int .u64 0, .int .u64 0], .int .i64 2]) (by simp [results, Try.results13, go_sem]) rfl ⟨rfl, by
    repeat (first | exact Below.refl _ _ | refine Below.setCell ?_ (by simp) _ | refine Below.alloc ?_ (by simp) _)⟩

set_option maxHeartbeats 400000 in
theorem lget_big (k : Int) (p b n : Nat) (w : World) (hc : w.cell? ⟨p, 0, none⟩ = some (.slice (some ⟨b, 0, none⟩) n n)) (h0 : ¬ k < 0) (hk : ¬ k < n) :
    Calls Try.prog 13 #[.pointer (some ⟨p, 0, none⟩), .int .i64 k] w (Agrees w (.tuple #[.agg #[.int .u64 0, .int .u64 0, .int .u64 0, .int .u64 0, .int .u64 0, .int .u64 0, .int .u64 0, .int .u64 0], .int .i64 2])) := by
  have hc1 : (w.alloc (.cells #[.int .u64 0, .int .u64 0, .int .u64 0, .int .u64 0, .int .u64 0, .int .u64 0, .int .u64 0, .int .u64 0] 34)).cell? ⟨p, 0, none⟩ = some (.slice (some ⟨b, 0, none⟩) n n) := by
    rw [World.cell?_alloc_lt _ _ _ (World.block_lt_of_cell? _ _ hc)]; exact hc
  go_enter Try.func13, Try.ntmps13
  go_wp2_with (go_at_call 22; refine (line_big _ _ _ _ _ hc1 h0 hk).mono ?_; rintro e w' ⟨rfl, rfl⟩)
  exact bodyPost_ret (v := .tuple #[.agg #[.int .u64 0, .int .u64 0, .int .u64 0, .int .u64 0, .int .u64 0, .int .u64 0, .int .u64 0, .int .u64 0], .int .i64 2]) (by simp [results, Try.results13, go_sem]) rfl ⟨rfl, by
    repeat (first | exact Below.refl _ _ | refine Below.setCell ?_ (by simp) _ | refine Below.alloc ?_ (by simp) _)⟩

set_option maxHeartbeats 1000000 in
theorem lget_ok (k p b n : Nat) (x0 x1 x2 x3 x4 x5 x6 x7 : Int) (w : World) (hc : w.cell? ⟨p, 0, none⟩ = some (.slice (some ⟨b, 0, none⟩) n n)) (hk : k < n) (g0 : w.cell? ⟨b, k * 8, none⟩ = some (.int .u64 x0)) (g1 : w.cell? ⟨b, k * 8 + 1, none⟩ = some (.int .u64 x1)) (g2 : w.cell? ⟨b, k * 8 + 2, none⟩ = some (.int .u64 x2)) (g3 : w.cell? ⟨b, k * 8 + 3, none⟩ = some (.int .u64 x3)) (g4 : w.cell? ⟨b, k * 8 + 4, none⟩ = some (.int .u64 x4)) (g5 : w.cell? ⟨b, k * 8 + 5, none⟩ = some (.int .u64 x5)) (g6 : w.cell? ⟨b, k * 8 + 6, none⟩ = some (.int .u64 x6)) (g7 : w.cell? ⟨b, k * 8 + 7, none⟩ = some (.int .u64 x7)) :
    Calls Try.prog 13 #[.pointer (some ⟨p, 0, none⟩), .int .i64 k] w (Agrees w (.tuple #[.agg #[.int .u64 x0, .int .u64 x1, .int .u64 x2, .int .u64 x3, .int .u64 x4, .int .u64 x5, .int .u64 x6, .int .u64 x7], .int .i64 0])) := by
  have hlt := World.block_lt_of_cell? _ _ hc
  have hltb := World.block_lt_of_cell? _ _ g0
  have hc1 : (w.alloc (.cells #[.int .u64 0, .int .u64 0, .int .u64 0, .int .u64 0, .int .u64 0, .int .u64 0, .int .u64 0, .int .u64 0] 34)).cell? ⟨p, 0, none⟩ = some (.slice (some ⟨b, 0, none⟩) n n) := by
    rw [World.cell?_alloc_lt _ _ _ hlt]; exact hc
  have r0 : (w.alloc (.cells #[.int .u64 0, .int .u64 0, .int .u64 0, .int .u64 0, .int .u64 0, .int .u64 0, .int .u64 0, .int .u64 0] 34)).cell? ⟨b, k * 8, none⟩ = some (.int .u64 x0) := by
    rw [World.cell?_alloc_lt w _ ⟨b, k * 8, none⟩ hltb]; exact g0
  have r1 : (w.alloc (.cells #[.int .u64 0, .int .u64 0, .int .u64 0, .int .u64 0, .int .u64 0, .int .u64 0, .int .u64 0, .int .u64 0] 34)).cell? ⟨b, k * 8 + 1, none⟩ = some (.int .u64 x1) := by
    rw [World.cell?_alloc_lt w _ ⟨b, k * 8 + 1, none⟩ hltb]; exact g1
  have r2 : (w.alloc (.cells #[.int .u64 0, .int .u64 0, .int .u64 0, .int .u64 0, .int .u64 0, .int .u64 0, .int .u64 0, .int .u64 0] 34)).cell? ⟨b, k * 8 + 2, none⟩ = some (.int .u64 x2) := by
    rw [World.cell?_alloc_lt w _ ⟨b, k * 8 + 2, none⟩ hltb]; exact g2
  have r3 : (w.alloc (.cells #[.int .u64 0, .int .u64 0, .int .u64 0, .int .u64 0, .int .u64 0, .int .u64 0, .int .u64 0, .int .u64 0] 34)).cell? ⟨b, k * 8 + 3, none⟩ = some (.int .u64 x3) := by
    rw [World.cell?_alloc_lt w _ ⟨b, k * 8 + 3, none⟩ hltb]; exact g3
  have r4 : (w.alloc (.cells #[.int .u64 0, .int .u64 0, .int .u64 0, .int .u64 0, .int .u64 0, .int .u64 0, .int .u64 0, .int .u64 0] 34)).cell? ⟨b, k * 8 + 4, none⟩ = some (.int .u64 x4) := by
    rw [World.cell?_alloc_lt w _ ⟨b, k * 8 + 4, none⟩ hltb]; exact g4
  have r5 : (w.alloc (.cells #[.int .u64 0, .int .u64 0, .int .u64 0, .int .u64 0, .int .u64 0, .int .u64 0, .int .u64 0, .int .u64 0] 34)).cell? ⟨b, k * 8 + 5, none⟩ = some (.int .u64 x5) := by
    rw [World.cell?_alloc_lt w _ ⟨b, k * 8 + 5, none⟩ hltb]; exact g5
  have r6 : (w.alloc (.cells #[.int .u64 0, .int .u64 0, .int .u64 0, .int .u64 0, .int .u64 0, .int .u64 0, .int .u64 0, .int .u64 0] 34)).cell? ⟨b, k * 8 + 6, none⟩ = some (.int .u64 x6) := by
    rw [World.cell?_alloc_lt w _ ⟨b, k * 8 + 6, none⟩ hltb]; exact g6
  have r7 : (w.alloc (.cells #[.int .u64 0, .int .u64 0, .int .u64 0, .int .u64 0, .int .u64 0, .int .u64 0, .int .u64 0, .int .u64 0] 34)).cell? ⟨b, k * 8 + 7, none⟩ = some (.int .u64 x7) := by
    rw [World.cell?_alloc_lt w _ ⟨b, k * 8 + 7, none⟩ hltb]; exact g7
  clear g0 g1 g2 g3 g4 g5 g6 g7 hc
  go_enter Try.func13, Try.ntmps13
  go_wp2_with (go_at_call 22; refine (line_ok _ _ _ _ _ hc1 hk).mono ?_; rintro e w' ⟨rfl, rfl⟩)
  exact bodyPost_ret (v := .tuple #[.agg #[.int .u64 x0, .int .u64 x1, .int .u64 x2, .int .u64 x3, .int .u64 x4, .int .u64 x5, .int .u64 x6, .int .u64 x7], .int .i64 0]) (by simp [results, Try.results13, go_sem]) rfl ⟨rfl, by
    repeat (first | exact Below.refl _ _ | refine Below.setCell ?_ (by simp) _ | refine Below.alloc ?_ (by simp) _)⟩

set_option maxHeartbeats 400000 in
theorem lset_nil (k : Int) (x0 x1 x2 x3 x4 x5 x6 x7 : Int) (w : World) :
    Calls Try.prog 9 #[.pointer none, .int .i64 k, .agg #[.int .u64 x0, .int .u64 x1, .int .u64 x2, .int .u64 x3, .int .u64 x4, .int .u64 x5, .int .u64 x6, .int .u64 x7]] w (Agrees w (.int .i64 1)) := by
  go_enter Try.func9, Try.ntmps9
  go_wp2_with (go_at_call 22; refine (line_nil _ _).mono ?_; rintro e w' ⟨rfl, rfl⟩)
  go_ret
  exact ⟨rfl, by
    repeat (first | exact Below.refl _ _ | refine Below.setCell ?_ (by simp) _ | refine Below.alloc ?_ (by simp) _)⟩

set_option maxHeartbeats 400000 in
theorem lset_neg (k : Int) (p : Nat) (x0 x1 x2 x3 x4 x5 x6 x7 : Int) (w : World) (hk : k < 0) :
    Calls Try.prog 9 #[.pointer (some ⟨p, 0, none⟩), .int .i64 k, .agg #[.int .u64 x0, .int .u64 x1, .int .u64 x2, .int .u64 x3, .int .u64 x4, .int .u64 x5, .int .u64 x6, .int .u64 x7]] w (Agrees w (.int .i64 2)) := by
  go_enter Try.func9, Try.ntmps9
  go_wp2_with (go_at_call 22; refine (line_neg _ _ _ hk).mono ?_; rintro e w' ⟨rfl, rfl⟩)
  go_ret
  exact ⟨rfl, by
    repeat (first | exact Below.refl _ _ | refine Below.setCell ?_ (by simp) _ | refine Below.alloc ?_ (by simp) _)⟩

set_option maxHeartbeats 400000 in
theorem lset_big (k : Int) (p b n : Nat) (x0 x1 x2 x3 x4 x5 x6 x7 : Int) (w : World) (hc : w.cell? ⟨p, 0, none⟩ = some (.slice (some ⟨b, 0, none⟩) n n)) (h0 : ¬ k < 0) (hk : ¬ k < n) :
    Calls Try.prog 9 #[.pointer (some ⟨p, 0, none⟩), .int .i64 k, .agg #[.int .u64 x0, .int .u64 x1, .int .u64 x2, .int .u64 x3, .int .u64 x4, .int .u64 x5, .int .u64 x6, .int .u64 x7]] w (Agrees w (.int .i64 2)) := by
  have hlt := World.block_lt_of_cell? _ _ hc
  have hc1 : (w.alloc (.cells #[.int .u64 x0, .int .u64 x1, .int .u64 x2, .int .u64 x3, .int .u64 x4, .int .u64 x5, .int .u64 x6, .int .u64 x7] 34)).cell? ⟨p, 0, none⟩ = some (.slice (some ⟨b, 0, none⟩) n n) := by
    rw [World.cell?_alloc_lt _ _ _ hlt]; exact hc
  go_enter Try.func9, Try.ntmps9
  go_wp2_with (go_at_call 22; refine (line_big _ _ _ _ _ hc1 h0 hk).mono ?_; rintro e w' ⟨rfl, rfl⟩)
  go_ret
  exact ⟨rfl, by
    repeat (first | exact Below.refl _ _ | refine Below.setCell ?_ (by simp) _ | refine Below.alloc ?_ (by simp) _)⟩

theorem Try.size34 : (Try.prog.info? 34).map (·.size) = some 8 := by kernel_rfl

set_option maxHeartbeats 1000000 in
theorem lset_ok (k p b n : Nat) (x0 x1 x2 x3 x4 x5 x6 x7 : Int) (w : World) (hc : w.cell? ⟨p, 0, none⟩ = some (.slice (some ⟨b, 0, none⟩) n n)) (hk : k < n) (ht : w.there b (k * 8) 8) :
    Calls Try.prog 9 #[.pointer (some ⟨p, 0, none⟩), .int .i64 k, .agg #[.int .u64 x0, .int .u64 x1, .int .u64 x2, .int .u64 x3, .int .u64 x4, .int .u64 x5, .int .u64 x6, .int .u64 x7]] w fun e w' => e = .returned (.int .i64 0) ∧ (w.alloc (.cells #[.int .u64 x0, .int .u64 x1, .int .u64 x2, .int .u64 x3, .int .u64 x4, .int .u64 x5, .int .u64 x6, .int .u64 x7] 34)).setCells b (k * 8) [.int .u64 x0, .int .u64 x1, .int .u64 x2, .int .u64 x3, .int .u64 x4, .int .u64 x5, .int .u64 x6, .int .u64 x7] = w' := by
  have hltb := World.block_lt_of_cell? _ _ (Option.isSome_iff_exists.1 (ht 0 (by omega)).1).choose_spec
  have hlt := World.block_lt_of_cell? _ _ hc
  have hc1 : (w.alloc (.cells #[.int .u64 x0, .int .u64 x1, .int .u64 x2, .int .u64 x3, .int .u64 x4, .int .u64 x5, .int .u64 x6, .int .u64 x7] 34)).cell? ⟨p, 0, none⟩ = some (.slice (some ⟨b, 0, none⟩) n n) := by
    rw [World.cell?_alloc_lt _ _ _ hlt]; exact hc
  have ht1 : (w.alloc (.cells #[.int .u64 x0, .int .u64 x1, .int .u64 x2, .int .u64 x3, .int .u64 x4, .int .u64 x5, .int .u64 x6, .int .u64 x7] 34)).there b (k * 8) 8 := fun j hj => by
    rw [World.cell?_alloc_lt w _ ⟨b, k * 8 + j, none⟩ hltb, World.frozen?_alloc_old w _ ⟨b, k * 8 + j, none⟩ (Nat.ne_of_lt hltb)]; exact ht j hj
  have H1 := Lib.hid ht1; clear ht1 ht
  clear hc
  go_enter Try.func9, Try.ntmps9
  go_wp2_with (first | (go_at_call 22; refine (line_ok _ _ _ _ _ hc1 hk).mono ?_; rintro e w' ⟨rfl, rfl⟩) | (refine wpList_store_mid rfl 34 _ _ rfl b (k * 8) #[.int .u64 x0, .int .u64 x1, .int .u64 x2, .int .u64 x3, .int .u64 x4, .int .u64 x5, .int .u64 x6, .int .u64 x7] rfl rfl H1.out Try.size34 (by simp [Value.oneCell']) ?_))
  go_ret
  exact ⟨rfl, rfl⟩

/-- The words of line k. -/
def lineAt (xs : List Int) (k : Nat) : Value := .agg #[.int .u64 (xs.getD (k * 8) 0), .int .u64 (xs.getD (k * 8 + 1) 0), .int .u64 (xs.getD (k * 8 + 2) 0), .int .u64 (xs.getD (k * 8 + 3) 0), .int .u64 (xs.getD (k * 8 + 4) 0), .int .u64 (xs.getD (k * 8 + 5) 0), .int .u64 (xs.getD (k * 8 + 6) 0), .int .u64 (xs.getD (k * 8 + 7) 0)]
def zeroLine : Value := .agg #[.int .u64 0, .int .u64 0, .int .u64 0, .int .u64 0, .int .u64 0, .int .u64 0, .int .u64 0, .int .u64 0]

def lineS (n : Nat) (xs : List Int) (k : Int) : Value := if 0 ≤ k ∧ k < n then lineAt xs k.toNat else zeroLine
def errL (n : Nat) (k : Int) : Int := if 0 ≤ k ∧ k < n then 0 else 2

theorem lget_any (k : Int) (p b n : Nat) (xs : List Int) (w : World) (h : MemAt w p b n xs) :
    Calls Try.prog 13 #[.pointer (some ⟨p, 0, none⟩), .int .i64 k] w (Agrees w (.tuple #[lineS n xs k, .int .i64 (errL n k)])) := by
  by_cases h0 : 0 ≤ k
  · obtain ⟨j, rfl⟩ := Int.eq_ofNat_of_zero_le h0
    by_cases hj : j < n
    · have hc : 0 ≤ (j : Int) ∧ (j : Int) < n := ⟨h0, by omega⟩
      rw [lineS, if_pos hc, errL, if_pos hc, Int.toNat_natCast]
      exact lget_ok j p b n _ _ _ _ _ _ _ _ w h.head hj (h.cell (by omega)) (h.cell (by omega)) (h.cell (by omega)) (h.cell (by omega)) (h.cell (by omega)) (h.cell (by omega)) (h.cell (by omega)) (h.cell (by omega))
    · have hc : ¬ (0 ≤ (j : Int) ∧ (j : Int) < n) := by omega
      rw [lineS, if_neg hc, errL, if_neg hc]
      exact lget_big j p b n w h.head (by omega) (by omega)
  · have hc : ¬ (0 ≤ k ∧ k < n) := by omega
    rw [lineS, if_neg hc, errL, if_neg hc]
    exact lget_neg k p w (by omega)

end Go.Proofs.Ytjebkbpljbohcaa
