/- The document's own sizes, and which code a call has. Conditions: those stated in each theorem. -/
import Derived.Test.YthjbcpgncnchoaaLbQ
namespace Go.Proofs.Ythjbcpgncnchoaa
open Go.RowKit Go.BigFrame Go.Maps

/-- A place. -/
structure Pc where
  kind : Int
  base : Int
  buckets : Int
  cap : Int
def Pc.cells (x : Pc) : List Value := [.int .i64 x.kind, .int .i64 x.base, .int .i64 x.buckets, .int .i64 x.cap]
@[reducible] def Pc.val (x : Pc) : Value := .agg #[.int .i64 x.kind, .int .i64 x.base, .int .i64 x.buckets, .int .i64 x.cap]
structure Pc.Ok (x : Pc) : Prop where
  b : I64 x.base
  c : I64 x.cap
/-- A call. -/
structure Cc where
  kind : Int
  k : Int
  v : Int
def Cc.cells (c : Cc) : List Value := [.int .i64 c.kind, .int .u64 c.k, .int .u64 c.v]
@[reducible] def Cc.val (c : Cc) : Value := .agg #[.int .i64 c.kind, .int .u64 c.k, .int .u64 c.v]
structure Cc.Ok (c : Cc) : Prop where
  k : 0 ≤ c.k ∧ c.k < 18446744073709551616
  v : 0 ≤ c.v ∧ c.v < 18446744073709551616

def sizeR (x : Pc) : Int :=
  if x.cap < 1 ∨ 504 < x.cap then 0
  else if x.kind = 1 then (if twoP x.buckets then (if 504 < 2 + x.buckets + 3 * x.cap then 0 else 2 + x.buckets + 3 * x.cap) else 0)
  else if x.kind = 2 then (if 504 < 3 + 4 * x.cap then 0 else 3 + 4 * x.cap)
  else (if 504 < 2 + x.cap then 0 else 2 + x.cap)
def mayR (x : Pc) : Bool := decide (0 < sizeR x) && decide (0 ≤ x.base) && decide (x.base ≤ 504) && decide (x.base + sizeR x ≤ 504)
def poolX (x : Pc) : Pl := if x.kind = 0 then queueP x.base x.cap else if x.kind = 1 then hashP x.base x.buckets x.cap else treeP x.base x.cap
theorem two_exit (j : Nat) (hj : j ≤ 6) (bk : Int) (h1 : j = 0 ∨ (2 : Int) ^ (j - 1) < bk) (h2 : bk ≤ (2 : Int) ^ j ∨ 64 ≤ (2 : Int) ^ j) : ((2 : Int) ^ j == bk) = twoP bk := by
  rw [Bool.eq_iff_iff]
  simp only [twoP, Bool.or_eq_true, beq_iff_eq]
  match j, hj with
  | 0, _ => simp at h1 h2 ⊢; omega
  | 1, _ => simp at h1 h2 ⊢; omega
  | 2, _ => simp at h1 h2 ⊢; omega
  | 3, _ => simp at h1 h2 ⊢; omega
  | 4, _ => simp at h1 h2 ⊢; omega
  | 5, _ => simp at h1 h2 ⊢; omega
  | 6, _ => simp at h1 h2 ⊢; omega
theorem pow_le (j : Nat) (hj : j ≤ 6) : 1 ≤ (2 : Int) ^ j ∧ (2 : Int) ^ j ≤ 64 := by
  match j, hj with
  | 0, _ => decide
  | 1, _ => decide
  | 2, _ => decide
  | 3, _ => decide
  | 4, _ => decide
  | 5, _ => decide
  | 6, _ => decide
theorem boxP (w : World) (x : Pc) : Holds (w.alloc (.cells #[.int .i64 x.kind, .int .i64 x.base, .int .i64 x.buckets, .int .i64 x.cap] 23)) w.heap.size 23 x.cells := Holds.new w 23 x.cells
theorem boxC (w : World) (x : Cc) : Holds (w.alloc (.cells #[.int .i64 x.kind, .int .u64 x.k, .int .u64 x.v] 26)) w.heap.size 26 x.cells := Holds.new w 26 x.cells

set_option maxRecDepth 100000 in
set_option maxHeartbeats 1000000 in
theorem rsize_any (x : Pc) (w : World) : Calls Try.prog 10 #[x.val] w fun e w' => e = .returned (.int .i64 (sizeR x)) ∧ Below w.heap.size w w' := by
  have hb := boxP w x
  have c0 := hb.cell (i := 0) rfl
  have c1 := hb.cell (i := 1) rfl
  have c2 := hb.cell (i := 2) rfl
  have c3 := hb.cell (i := 3) rfl
  have HB := Lib.hid ((Below.refl _ w).alloc (Nat.le_refl _) (.cells #[.int .i64 x.kind, .int .i64 x.base, .int .i64 x.buckets, .int .i64 x.cap] 23))
  clear hb
  by_cases h1 : x.cap < 1
  · have hs : sizeR x = 0 := by unfold sizeR; rw [if_pos (.inl h1)]
    rw [hs]
    have d1 : decide (x.cap < 1) = true := by simpa using h1
    go_enter Try.func10, Try.ntmps10
    go_wp2
    exact bodyPost_ret (results_tmp rfl _ _ _) rfl ⟨rfl, HB.out⟩
  · have d1 : decide (x.cap < 1) = false := by simp; omega
    by_cases h2 : 504 < x.cap
    · have hs : sizeR x = 0 := by unfold sizeR; rw [if_pos (.inr h2)]
      rw [hs]
      have d2 : decide (504 < x.cap) = true := by simpa using h2
      go_enter Try.func10, Try.ntmps10
      go_wp2
      exact bodyPost_ret (results_tmp rfl _ _ _) rfl ⟨rfl, HB.out⟩
    · have d2 : decide (504 < x.cap) = false := by simp; omega
      have hc : (1 : Int) ≤ x.cap ∧ x.cap ≤ 504 := by omega
      have hno : ¬ (x.cap < 1 ∨ 504 < x.cap) := by omega
      by_cases k1 : x.kind = 1
      · have e1 : (x.kind == 1) = true := by simpa using k1
        have e2 : (x.kind == 2) = false := by simp; omega
        have HS : Hid (sizeR x = if twoP x.buckets then (if 504 < 2 + x.buckets + 3 * x.cap then 0 else 2 + x.buckets + 3 * x.cap) else 0) := Lib.hid (by unfold sizeR; rw [if_neg hno, if_pos k1])
        clear k1 hno h1 h2
        go_enter Try.func10, Try.ntmps10
        go_wp2_with fail
        generalize w.alloc (.cells #[.int .i64 x.kind, .int .i64 x.base, .int .i64 x.buckets, .int .i64 x.cap] 23) = W at *
        go_loopw [4] (fun i wr => ∃ j : Nat, j ≤ 6 ∧ (j = 0 ∨ (2 : Int) ^ (j - 1) < x.buckets) ∧ i = .int .i64 ((2 : Int) ^ j) ∧ wr = W) (fun i _ => 64 - (intOf i).toNat)
        case atStart => exact ⟨0, by omega, .inl rfl, rfl, rfl⟩
        case round =>
          obtain ⟨j, hj, hjb, rfl, rfl⟩ := hrel
          have hp := pow_le j hj
          by_cases hl1 : (2 : Int) ^ j < x.buckets
          · have f1 : decide ((2 : Int) ^ j < x.buckets) = true := by simpa using hl1
            by_cases hl2 : (2 : Int) ^ j < 64
            · have f2 : decide ((2 : Int) ^ j < 64) = true := by simpa using hl2
              have hj6 : j < 6 := by
                rcases Nat.lt_or_ge j 6 with h | h
                · exact h
                · obtain rfl : j = 6 := by omega
                  simp at hl2
              have hpw : (2 : Int) ^ (j + 1) = 2 * (2 : Int) ^ j := by rw [Int.pow_succ]; omega
              have HQ := Lib.hid hpw; clear hpw
              have Hl := Lib.hid hl1; clear hl1
              have Hj := Lib.hid hjb; clear hjb
              go_wp2
              go_roundw
              case rel => exact ⟨j + 1, by omega, .inr (by simpa using Hl.out), by rw [HQ.out], trivial⟩
              case measure => simp [intOf]; omega
            · have f2 : decide ((2 : Int) ^ j < 64) = false := by simp; omega
              have hx := two_exit j hj x.buckets hjb (.inr (by omega))
              cases ht : twoP x.buckets with
              | false =>
                rw [ht] at hx HS
                have hne : ((2 : Int) ^ j != x.buckets) = true := by simpa [bne] using hx
                clear hl2 hl1 hjb hx
                generalize (2 : Int) ^ j = z at *
                go_wp2
                exact bodyPost_ret (results_tmp rfl _ _ _) rfl ⟨by rw [HS.out]; simp, HB.out⟩
              | true =>
                rw [ht] at hx HS
                have hbk := twoP_le ht
                have hne : ((2 : Int) ^ j != x.buckets) = false := by simpa [bne] using hx
                clear hl2 hl1 hjb hx ht
                generalize (2 : Int) ^ j = z at *
                by_cases hgt : 504 < 2 + x.buckets + 3 * x.cap
                · have g1 : decide (504 < 2 + x.buckets + 3 * x.cap) = true := by simpa using hgt
                  go_wp2
                  exact bodyPost_ret (results_tmp rfl _ _ _) rfl ⟨by rw [HS.out]; first | (simp [hgt]; done) | (simp; omega), HB.out⟩
                · have g1 : decide (504 < 2 + x.buckets + 3 * x.cap) = false := by simp; omega
                  go_wp2
                  exact bodyPost_ret (results_tmp rfl _ _ _) rfl ⟨by rw [HS.out]; first | (simp [hgt]; done) | (simp; omega), HB.out⟩
          · have f1 : decide ((2 : Int) ^ j < x.buckets) = false := by simp; omega
            have hx := two_exit j hj x.buckets hjb (.inl (by omega))
            cases ht : twoP x.buckets with
            | false =>
              rw [ht] at hx HS
              have hne : ((2 : Int) ^ j != x.buckets) = true := by simpa [bne] using hx
              clear hl1 hjb hx
              generalize (2 : Int) ^ j = z at *
              go_wp2
              exact bodyPost_ret (results_tmp rfl _ _ _) rfl ⟨by rw [HS.out]; simp, HB.out⟩
            | true =>
              rw [ht] at hx HS
              have hbk := twoP_le ht
              have hne : ((2 : Int) ^ j != x.buckets) = false := by simpa [bne] using hx
              clear hl1 hjb hx ht
              generalize (2 : Int) ^ j = z at *
              by_cases hgt : 504 < 2 + x.buckets + 3 * x.cap
              · have g1 : decide (504 < 2 + x.buckets + 3 * x.cap) = true := by simpa using hgt
                go_wp2
                exact bodyPost_ret (results_tmp rfl _ _ _) rfl ⟨by rw [HS.out]; first | (simp [hgt]; done) | (simp; omega), HB.out⟩
              · have g1 : decide (504 < 2 + x.buckets + 3 * x.cap) = false := by simp; omega
                go_wp2
                exact bodyPost_ret (results_tmp rfl _ _ _) rfl ⟨by rw [HS.out]; first | (simp [hgt]; done) | (simp; omega), HB.out⟩
      · have e1 : (x.kind == 1) = false := by simpa using k1
        by_cases k2 : x.kind = 2
        · have e2 : (x.kind == 2) = true := by simpa using k2
          have HS : Hid (sizeR x = if 504 < 3 + 4 * x.cap then 0 else 3 + 4 * x.cap) := Lib.hid (by unfold sizeR; rw [if_neg hno, if_neg k1, if_pos k2])
          clear k1 k2 hno h1 h2
          by_cases hgt : 504 < 3 + 4 * x.cap
          · have g1 : decide (504 < 3 + 4 * x.cap) = true := by simpa using hgt
            go_enter Try.func10, Try.ntmps10
            go_wp2
            exact bodyPost_ret (results_tmp rfl _ _ _) rfl ⟨by rw [HS.out]; first | (simp [hgt]; done) | (simp; omega), HB.out⟩
          · have g1 : decide (504 < 3 + 4 * x.cap) = false := by simp; omega
            go_enter Try.func10, Try.ntmps10
            go_wp2
            exact bodyPost_ret (results_tmp rfl _ _ _) rfl ⟨by rw [HS.out]; first | (simp [hgt]; done) | (simp; omega), HB.out⟩
        · have e2 : (x.kind == 2) = false := by simpa using k2
          have HS : Hid (sizeR x = if 504 < 2 + x.cap then 0 else 2 + x.cap) := Lib.hid (by unfold sizeR; rw [if_neg hno, if_neg k1, if_neg k2])
          clear k1 k2 hno h1 h2
          by_cases hgt : 504 < 2 + x.cap
          · have g1 : decide (504 < 2 + x.cap) = true := by simpa using hgt
            go_enter Try.func10, Try.ntmps10
            go_wp2
            exact bodyPost_ret (results_tmp rfl _ _ _) rfl ⟨by rw [HS.out]; first | (simp [hgt]; done) | (simp; omega), HB.out⟩
          · have g1 : decide (504 < 2 + x.cap) = false := by simp; omega
            go_enter Try.func10, Try.ntmps10
            go_wp2
            exact bodyPost_ret (results_tmp rfl _ _ _) rfl ⟨by rw [HS.out]; first | (simp [hgt]; done) | (simp; omega), HB.out⟩

/-! ### What may be -/
theorem sizeR_range (x : Pc) : 0 ≤ sizeR x ∧ sizeR x ≤ 504 := by
  unfold sizeR
  split
  · omega
  · split
    · split
      · rename_i h
        have := twoP_le h
        split <;> omega
      · omega
    · split
      · split <;> omega
      · split <;> omega
theorem poolX_any {x : Pc} (h : x.Ok) : (poolX x).Any := by
  unfold poolX
  split
  · exact queueP_any h.b h.c
  · split
    · exact hashP_any h.b h.c
    · exact treeP_any h.b h.c
/-- Of the three kinds: it may be as the document says. -/
theorem may_same (x : Pc) (hk : x.kind = 0 ∨ x.kind = 1 ∨ x.kind = 2) : (poolX x).mayBe = mayR x := by
  obtain ⟨kind, base, bk, cap⟩ := x
  simp only at hk
  rw [Bool.eq_iff_iff]
  rcases hk with rfl | rfl | rfl
  · simp only [poolX, if_true, queueP, Pl.mayBe, Pl.end_, mayR, sizeR, Bool.and_eq_true, decide_eq_true_eq]
    split
    · omega
    · simp only [show ¬ ((0 : Int) = 1) by omega, show ¬ ((0 : Int) = 2) by omega, if_false]
      split <;> omega
  · simp only [poolX, show ¬ ((1 : Int) = 0) by omega, if_true, if_false, hashP, mayR, sizeR, Bool.and_eq_true, decide_eq_true_eq]
    cases ht : twoP bk with
    | false =>
      simp only [Bool.false_eq_true, if_false, Pl.mayBe, Bool.and_eq_true, decide_eq_true_eq]
      split <;> omega
    | true =>
      have := twoP_le ht
      simp only [if_true, Pl.mayBe, Pl.end_, Bool.and_eq_true, decide_eq_true_eq]
      split
      · omega
      · split <;> omega
  · simp only [poolX, show ¬ ((2 : Int) = 0) by omega, show ¬ ((2 : Int) = 1) by omega, if_true, if_false, treeP, Pl.mayBe, Pl.end_, mayR, sizeR, Bool.and_eq_true, decide_eq_true_eq]
    split
    · omega
    · split <;> omega
/-- .. and has the size that the document says. -/
theorem size_same (x : Pc) (hk : x.kind = 0 ∨ x.kind = 1 ∨ x.kind = 2) (hb : x.base = 0) : (poolX x).size = sizeR x := by
  have hm := may_same x hk
  have hr := sizeR_range x
  unfold Pl.size
  rw [hm]
  by_cases h0 : 0 < sizeR x
  · have : mayR x = true := by simp only [mayR, hb, Bool.and_eq_true, decide_eq_true_eq]; omega
    rw [this, if_pos rfl]
    obtain ⟨kind, base, bk, cap⟩ := x
    simp only at hk hb
    subst hb
    rcases hk with rfl | rfl | rfl
    · simp only [poolX, if_true, queueP, Pl.end_, sizeR, show ¬ ((0 : Int) = 1) by omega, show ¬ ((0 : Int) = 2) by omega, if_false] at h0 ⊢
      split at h0
      · omega
      · rename_i hh
        rw [if_neg hh]
        split at h0
        · omega
        · rename_i hh2
          rw [if_neg hh2]; omega
    · simp only [poolX, show ¬ ((1 : Int) = 0) by omega, if_true, if_false, hashP, sizeR] at h0 ⊢
      cases ht : twoP bk with
      | false => rw [ht] at h0; simp at h0
      | true =>
        rw [ht] at h0
        simp only [if_true, Pl.end_] at h0 ⊢
        split at h0
        · omega
        · rename_i hh
          rw [if_neg hh]
          split at h0
          · omega
          · rename_i hh2
            rw [if_neg hh2]; omega
    · simp only [poolX, show ¬ ((2 : Int) = 0) by omega, show ¬ ((2 : Int) = 1) by omega, if_true, if_false, treeP, Pl.end_, sizeR] at h0 ⊢
      split at h0
      · omega
      · rename_i hh
        rw [if_neg hh]
        split at h0
        · omega
        · rename_i hh2
          rw [if_neg hh2]; omega
  · have : mayR x = false := by
      cases h : mayR x with
      | false => rfl
      | true => simp only [mayR, Bool.and_eq_true, decide_eq_true_eq] at h; omega
    rw [this]
    simp; omega

end Go.Proofs.Ythjbcpgncnchoaa
