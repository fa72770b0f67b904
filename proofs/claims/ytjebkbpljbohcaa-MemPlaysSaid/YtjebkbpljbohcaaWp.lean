/- MemPlays: the contracts as its walk takes them, and one step of it by its kind. Conditions: those stated in each theorem. -/
import Derived.Test.YtjebkbpljbohcaaWo
namespace Go.Proofs.Ytjebkbpljbohcaa
open Go.RowKit

theorem grown_cells (b : Nat) : ∀ (vs : List Value) (o : Nat) (w W : World), w.grownBy W (some b) → w.grownBy (W.setCells b o vs) (some b)
  | [], _, _, _, h => h
  | v :: r, o, w, W, h => grown_cells b r (o + 1) w _ (grown_trans h (grown_setCell W ⟨b, o, none⟩ v))

def PutG (p b n : Nat) (xs : List Int) (k v : Int) (w : World) (e : Ending) (w' : World) : Prop :=
  e = .returned (.int .i64 (errS n k)) ∧ MemAt w' p b n (putS n xs k v) ∧ w.grownBy w' (some b)

theorem put_grown (k v : Int) (p b n : Nat) (xs : List Int) (w : World) (h : MemAt w p b n xs) (hn : n ≤ 64) (hk : k ≤ 9223372036854775807) :
    Calls Try.prog 11 #[.pointer (some ⟨p, 0, none⟩), .int .i64 k, .int .u64 v] w (PutG p b n xs k v w) := by
  by_cases h0 : 0 ≤ k
  · obtain ⟨j, rfl⟩ := Int.eq_ofNat_of_zero_le h0
    by_cases hj : j < 8 * n
    · refine (put_ok j p b n v _ w h.head hj hn (h.cell hj) (h.free j)).mono ?_
      rintro e w' ⟨rfl, rfl⟩
      have hc : 0 ≤ (j : Int) ∧ (j : Int) < 8 * n := ⟨h0, by omega⟩
      refine ⟨by rw [errS, if_pos hc], ?_, grown_setCell w ⟨b, j, none⟩ _⟩
      rw [putS, if_pos hc]; exact h.set j v
    · refine (put_big j p b n v w h.head hj (by omega)).mono ?_
      rintro e w' ⟨rfl, rfl⟩
      have hc : ¬ (0 ≤ (j : Int) ∧ (j : Int) < 8 * n) := by omega
      exact ⟨by rw [errS, if_neg hc], by rw [putS, if_neg hc]; exact h, grown_refl _ _⟩
  · refine (put_neg k v p w (by omega)).mono ?_
    rintro e w' ⟨rfl, rfl⟩
    have hc : ¬ (0 ≤ k ∧ k < 8 * n) := by omega
    exact ⟨by rw [errS, if_neg hc], by rw [putS, if_neg hc]; exact h, grown_refl _ _⟩

def SetG (p b n : Nat) (xs : List Int) (k : Int) (x0 x1 x2 x3 x4 x5 x6 x7 : Int) (w : World) (e : Ending) (w' : World) : Prop :=
  e = .returned (.int .i64 (errL n k)) ∧ MemAt w' p b n (setLineS n xs k x0 x1 x2 x3 x4 x5 x6 x7) ∧ w.grownBy w' (some b)

theorem lset_grown (k : Int) (p b n : Nat) (xs : List Int) (x0 x1 x2 x3 x4 x5 x6 x7 : Int) (w : World) (h : MemAt w p b n xs) :
    Calls Try.prog 9 #[.pointer (some ⟨p, 0, none⟩), .int .i64 k, .agg #[.int .u64 x0, .int .u64 x1, .int .u64 x2, .int .u64 x3, .int .u64 x4, .int .u64 x5, .int .u64 x6, .int .u64 x7]] w (SetG p b n xs k x0 x1 x2 x3 x4 x5 x6 x7 w) := by
  have keep : ∀ (err : Int), errL n k = err → setLineS n xs k x0 x1 x2 x3 x4 x5 x6 x7 = xs → ∀ e w', Agrees w (.int .i64 err) e w' → SetG p b n xs k x0 x1 x2 x3 x4 x5 x6 x7 w e w' := by
    rintro err h1 h2 e w' ⟨rfl, hB⟩
    refine ⟨by rw [h1], ?_, grown_below hB _⟩
    rw [h2]; exact h.stays hB
  by_cases h0 : 0 ≤ k
  · obtain ⟨j, rfl⟩ := Int.eq_ofNat_of_zero_le h0
    by_cases hj : j < n
    · have hc : 0 ≤ (j : Int) ∧ (j : Int) < n := ⟨h0, by omega⟩
      refine (lset_ok j p b n x0 x1 x2 x3 x4 x5 x6 x7 w h.head hj (h.there hj)).mono ?_
      rintro e w' ⟨rfl, rfl⟩
      refine ⟨by rw [errL, if_pos hc], ?_, grown_cells b _ _ w _ (World.grownBy_alloc w _ _)⟩
      rw [setLineS, if_pos hc, Int.toNat_natCast]
      exact (h.alloc _).setLine j x0 x1 x2 x3 x4 x5 x6 x7
    · have hc : ¬ (0 ≤ (j : Int) ∧ (j : Int) < n) := by omega
      exact (lset_big j p b n x0 x1 x2 x3 x4 x5 x6 x7 w h.head (by omega) (by omega)).mono (keep 2 (by rw [errL, if_neg hc]) (by rw [setLineS, if_neg hc]))
  · have hc : ¬ (0 ≤ k ∧ k < n) := by omega
    exact (lset_neg k p x0 x1 x2 x3 x4 x5 x6 x7 w (by omega)).mono (keep 2 (by rw [errL, if_neg hc]) (by rw [setLineS, if_neg hc]))

def RSetG (q c n : Nat) (xs : List Int) (k : Int) (x0 x1 x2 x3 x4 x5 x6 x7 : Int) (w : World) (e : Ending) (w' : World) : Prop :=
  e = .returned (.int .i64 (errL n k)) ∧ RefAt w' q c n (setLineS n xs k x0 x1 x2 x3 x4 x5 x6 x7) ∧ w.grownBy w' (some c)

theorem rset_grown (k : Int) (q c n : Nat) (xs : List Int) (x0 x1 x2 x3 x4 x5 x6 x7 : Int) (w : World) (h : RefAt w q c n xs) (hn : n ≤ 64) :
    Calls Try.prog 10 #[.pointer (some ⟨q, 0, none⟩), .int .i64 k, .agg #[.int .u64 x0, .int .u64 x1, .int .u64 x2, .int .u64 x3, .int .u64 x4, .int .u64 x5, .int .u64 x6, .int .u64 x7]] w (RSetG q c n xs k x0 x1 x2 x3 x4 x5 x6 x7 w) := by
  have keep : ∀ (err : Int), errL n k = err → setLineS n xs k x0 x1 x2 x3 x4 x5 x6 x7 = xs → ∀ e w', Agrees w (.int .i64 err) e w' → RSetG q c n xs k x0 x1 x2 x3 x4 x5 x6 x7 w e w' := by
    rintro err h1 h2 e w' ⟨rfl, hB⟩
    refine ⟨by rw [h1], ?_, grown_below hB _⟩
    rw [h2]; exact h.below hB
  by_cases h0 : 0 ≤ k
  · obtain ⟨j, rfl⟩ := Int.eq_ofNat_of_zero_le h0
    by_cases hj : j < n
    · have hc : 0 ≤ (j : Int) ∧ (j : Int) < n := ⟨h0, by omega⟩
      refine (rset_ok j q c n xs x0 x1 x2 x3 x4 x5 x6 x7 w h hj hn).mono ?_
      rintro e w' ⟨rfl, hr, hg⟩
      refine ⟨by rw [errL, if_pos hc], ?_, hg⟩
      rw [setLineS, if_pos hc, Int.toNat_natCast, ← setK_line]; exact hr
    · have hc : ¬ (0 ≤ (j : Int) ∧ (j : Int) < n) := by omega
      exact (rset_big j q c n x0 x1 x2 x3 x4 x5 x6 x7 w h.head (by omega) (by omega) hn).mono (keep 2 (by rw [errL, if_neg hc]) (by rw [setLineS, if_neg hc]))
  · have hc : ¬ (0 ≤ k ∧ k < n) := by omega
    exact (rset_neg k q x0 x1 x2 x3 x4 x5 x6 x7 w (by omega)).mono (keep 2 (by rw [errL, if_neg hc]) (by rw [setLineS, if_neg hc]))

/-- The two memories, side by side, with the same words. -/
structure Both (w0 w : World) (n p b q c : Nat) (xs : List Int) : Prop where
  mem : MemAt w p b n xs
  ref : RefAt w q c n xs
  pq : p ≠ q
  pc : p ≠ c
  bq : b ≠ q
  bc : b ≠ c
  hb : w0.heap.size ≤ b
  hc : w0.heap.size ≤ c
  bel : Below w0.heap.size w0 w

theorem Both.stays {w0 w w' : World} {n p b q c : Nat} {xs : List Int} (h : Both w0 w n p b q c xs) (hB : Below w.heap.size w w') : Both w0 w' n p b q c xs :=
  ⟨h.mem.stays hB, h.ref.below hB, h.pq, h.pc, h.bq, h.bc, h.hb, h.hc, h.bel.trans (hB.mono h.bel.size)⟩

theorem Both.alloc {w0 w : World} {n p b q c : Nat} {xs : List Int} (h : Both w0 w n p b q c xs) (o : Obj) : Both w0 (w.alloc o) n p b q c xs :=
  h.stays ((Below.refl _ _).alloc (Nat.le_refl _) o)

theorem Both.mems {w0 w w' : World} {n p b q c : Nat} {xs ys : List Int} (h : Both w0 w n p b q c xs) (hm : MemAt w' p b n ys) (hg : w.grownBy w' (some b)) :
    MemAt w' p b n ys ∧ RefAt w' q c n xs ∧ Below w0.heap.size w0 w' :=
  ⟨hm, h.ref.kept hg (Ne.symm h.bq) (Ne.symm h.bc), h.bel.grown hg h.bel.size (fun k e => by cases e; exact h.hb)⟩

theorem Both.both {w0 w w1 w' : World} {n p b q c : Nat} {xs ys : List Int} (h : Both w0 w n p b q c xs) (hm : MemAt w1 p b n ys) (hB : Below w0.heap.size w0 w1) (hr : RefAt w' q c n ys) (hg : w1.grownBy w' (some c)) :
    Both w0 w' n p b q c ys :=
  ⟨hm.kept hg h.pc h.bc, hr, h.pq, h.pc, h.bq, h.bc, h.hb, h.hc, hB.grown hg hB.size (fun k e => by cases e; exact h.hc)⟩

/-- A step's own variable, at X. -/
def StepAt (w : World) (X : Nat) (K N V x0 x1 x2 x3 x4 x5 x6 x7 : Int) : Prop := w.heap[X]? = some (.cells #[.int .i64 K, .int .i64 N, .int .u64 V, .int .u64 x0, .int .u64 x1, .int .u64 x2, .int .u64 x3, .int .u64 x4, .int .u64 x5, .int .u64 x6, .int .u64 x7] 36 (0, 0))

theorem StepAt.cells {w : World} {X : Nat} {K N V x0 x1 x2 x3 x4 x5 x6 x7 : Int} (h : StepAt w X K N V x0 x1 x2 x3 x4 x5 x6 x7) :
    w.cell? ⟨X, 0, none⟩ = some (.int .i64 K) ∧ w.cell? ⟨X, 1, none⟩ = some (.int .i64 N) ∧ w.cell? ⟨X, 2, none⟩ = some (.int .u64 V) ∧ w.cell? ⟨X, 3, none⟩ = some (.int .u64 x0) ∧ w.cell? ⟨X, 4, none⟩ = some (.int .u64 x1) ∧ w.cell? ⟨X, 5, none⟩ = some (.int .u64 x2) ∧ w.cell? ⟨X, 6, none⟩ = some (.int .u64 x3) ∧ w.cell? ⟨X, 7, none⟩ = some (.int .u64 x4) ∧ w.cell? ⟨X, 8, none⟩ = some (.int .u64 x5) ∧ w.cell? ⟨X, 9, none⟩ = some (.int .u64 x6) ∧ w.cell? ⟨X, 10, none⟩ = some (.int .u64 x7) := by
  have h' : w.heap[X]? = some (.cells #[.int .i64 K, .int .i64 N, .int .u64 V, .int .u64 x0, .int .u64 x1, .int .u64 x2, .int .u64 x3, .int .u64 x4, .int .u64 x5, .int .u64 x6, .int .u64 x7] 36 (0, 0)) := h
  refine ⟨?_, ?_, ?_, ?_, ?_, ?_, ?_, ?_, ?_, ?_, ?_⟩ <;> simp [World.cell?, h']

theorem StepAt.stays {w w' : World} {X : Nat} {K N V x0 x1 x2 x3 x4 x5 x6 x7 : Int} (h : StepAt w X K N V x0 x1 x2 x3 x4 x5 x6 x7) (hB : Below w.heap.size w w') : StepAt w' X K N V x0 x1 x2 x3 x4 x5 x6 x7 := by
  unfold StepAt; rw [hB.block _ (lt_of_block h)]; exact h

theorem StepAt.kept {w w' : World} {X r : Nat} {K N V x0 x1 x2 x3 x4 x5 x6 x7 : Int} (h : StepAt w X K N V x0 x1 x2 x3 x4 x5 x6 x7) (hg : w.grownBy w' (some r)) (hX : X ≠ r) : StepAt w' X K N V x0 x1 x2 x3 x4 x5 x6 x7 := by
  unfold StepAt; rw [hg.block _ (lt_of_block h) (by simpa using hX)]; exact h

end Go.Proofs.Ytjebkbpljbohcaa
