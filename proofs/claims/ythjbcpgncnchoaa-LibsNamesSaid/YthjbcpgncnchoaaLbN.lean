/- Pools. Conditions: those stated in each theorem. -/
import Derived.Test.YthjbcpgncnchoaaLbM
namespace Go.Proofs.Ythjbcpgncnchoaa
open Go.RowKit Go.BigFrame Go.Maps

def onesA (x : Int) : Int := IntKind.u64.wrap (bits .and .u64 (x / 2) 6148914691236517205 + bits .and .u64 x 6148914691236517205)
def onesB (a : Int) : Int := IntKind.u64.wrap (bits .and .u64 (a / 4) 3689348814741910323 + bits .and .u64 a 3689348814741910323)
def onesC (b : Int) : Int := bits .and .u64 (IntKind.u64.wrap (b / 16 + b)) 1085102592571150095
def onesD (c : Int) : Int := IntKind.u64.wrap (c + c / 256)
def onesE (d : Int) : Int := IntKind.u64.wrap (d + d / 65536)
def onesF (e : Int) : Int := IntKind.u64.wrap (e + e / 4294967296)
def onesP (x : Int) : Int := bits .and .i64 (wrap64 (onesF (onesE (onesD (onesC (onesB (onesA x))))))) 127
def twoP (n : Int) : Bool := n == 1 || n == 2 || n == 4 || n == 8 || n == 16 || n == 32 || n == 64
theorem ones_fin : ∀ n : Fin 65, (onesP n.val == 1) = twoP n.val := by decide +kernel
theorem ones_int (n : Int) (h0 : 0 ≤ n) (h1 : n ≤ 64) : (onesP n == 1) = twoP n := by
  obtain ⟨m, rfl⟩ : ∃ m : Nat, n = m := ⟨n.toNat, by omega⟩
  exact ones_fin ⟨m, by omega⟩
set_option maxRecDepth 100000 in
set_option maxHeartbeats 1000000 in
theorem ones64_any (n : Int) (w : World) : Calls Try.prog 101 #[.int .u64 n] w fun e w' => e = .returned (.int .i64 (onesP n)) ∧ w' = w := by
  go_enter Try.func101, Try.ntmps101
  go_wp2
  refine bodyPost_ret (results_tmp rfl _ _ _) rfl ⟨?_, rfl⟩
  unfold onesP onesF onesE onesD onesC onesB onesA
  rfl
set_option maxRecDepth 100000 in
theorem ones_any (n : Int) (w : World) : Calls Try.prog 64 #[.int .u64 n] w fun e w' => e = .returned (.int .i64 (onesP n)) ∧ w' = w := by
  go_enter Try.func64, Try.ntmps64
  go_wp2_with (go_at_call 101; (with_reducible refine (ones64_any n _).mono ?_); rintro e w1 ⟨rfl, rfl⟩)
  refine bodyPost_ret (results_tmp rfl _ _ _) rfl ⟨rfl, rfl⟩

def queueP (base cap : Int) : Pl := ⟨base, 0, 1, cap⟩
def treeP (base cap : Int) : Pl := ⟨base, 1, 4, cap⟩
def hashP (base buckets cap : Int) : Pl := if twoP buckets then ⟨base, buckets, 3, cap⟩ else ⟨0, 0, 0, 0⟩
theorem queueP_any {base cap : Int} (hb : I64 base) (hc : I64 cap) : (queueP base cap).Any := ⟨hb, hc, by simp [queueP], by simp [queueP], by simp [queueP], by simp [queueP], by simp [queueP]⟩
theorem treeP_any {base cap : Int} (hb : I64 base) (hc : I64 cap) : (treeP base cap).Any := ⟨hb, hc, by simp [treeP], by simp [treeP], by simp [treeP], by simp [treeP], by simp [treeP]⟩
theorem twoP_le {n : Int} (h : twoP n = true) : 1 ≤ n ∧ n ≤ 64 := by
  simp only [twoP, Bool.or_eq_true, beq_iff_eq] at h; omega
theorem hashP_any {base buckets cap : Int} (hb : I64 base) (hc : I64 cap) : (hashP base buckets cap).Any := by
  unfold hashP
  split
  · rename_i h
    have := twoP_le h
    exact ⟨hb, hc, by simp; omega, by simp; omega, by simp, by simp, by simp⟩
  · exact ⟨by unfold I64; simp, by unfold I64; simp, by simp, by simp, by simp, by simp, by simp⟩

theorem Try.sizePool : (Try.prog.info? 68).map (·.size) = some 4 := by kernel_rfl
theorem onePl (P : Pl) : (P.cells.toArray).all (·.oneCell') = true := by simp [Pl.cells, Value.oneCell']
theorem Try.loadPl {w : World} {b : Nat} (P : Pl) (h : Holds w b 68 P.cells) : (loadVar 68 ⟨b, 0, none⟩).run Try.prog w = .ok P.val w :=
  run_loadVar_mid w b 0 68 P.cells _ h.full Try.underlying68 rfl Try.sizePool
def zeroPl : Pl := ⟨0, 0, 0, 0⟩
theorem setPl (w : World) (P Q : Pl) : Holds ((w.alloc (.cells Q.cells.toArray 68)).setCells w.heap.size 0 P.cells) w.heap.size 68 P.cells ∧ Below w.heap.size w ((w.alloc (.cells Q.cells.toArray 68)).setCells w.heap.size 0 P.cells) :=
  ⟨(Holds.new w 68 Q.cells).sets P.cells 0, below_cells (Nat.le_refl _) _ _ _ ((Below.refl _ w).alloc (Nat.le_refl _) _)⟩

set_option maxRecDepth 100000 in
theorem queueAt_any (base cap : Int) (w : World) : Calls Try.prog 35 #[.int .i64 base, .int .i64 cap] w fun e w' => e = .returned (queueP base cap).val ∧ Below w.heap.size w w' := by
  go_enter Try.func35, Try.ntmps35
  go_wp2
  exact bodyPost_ret (results_c rfl rfl (Try.loadPl (queueP base cap) (box4 w (queueP base cap)))) rfl ⟨rfl, (Below.refl _ w).alloc (Nat.le_refl _) _⟩

set_option maxRecDepth 100000 in
theorem treeAt_any (base cap : Int) (w : World) : Calls Try.prog 38 #[.int .i64 base, .int .i64 cap] w fun e w' => e = .returned (treeP base cap).val ∧ Below w.heap.size w w' := by
  go_enter Try.func38, Try.ntmps38
  go_wp2
  exact bodyPost_ret (results_c rfl rfl (Try.loadPl (treeP base cap) (box4 w (treeP base cap)))) rfl ⟨rfl, (Below.refl _ w).alloc (Nat.le_refl _) _⟩

set_option maxRecDepth 100000 in
set_option maxHeartbeats 1000000 in
theorem hashAt_any (base buckets cap : Int) (w : World) : Calls Try.prog 37 #[.int .i64 base, .int .i64 buckets, .int .i64 cap] w fun e w' => e = .returned (hashP base buckets cap).val ∧ Below w.heap.size w w' := by
  by_cases h1 : buckets < 1
  · have d1 : decide (buckets < 1) = true := by simpa using h1
    have hp : hashP base buckets cap = zeroPl := by
      unfold hashP
      rw [if_neg]; rfl
      intro h; have := twoP_le h; omega
    rw [hp]
    go_enter Try.func37, Try.ntmps37
    go_wp2
    exact bodyPost_ret (results_c rfl rfl (Try.loadPl zeroPl (box4 w zeroPl))) rfl ⟨rfl, (Below.refl _ w).alloc (Nat.le_refl _) _⟩
  · by_cases h2 : 64 < buckets
    · have d1 : decide (buckets < 1) = false := by simp; omega
      have d2 : decide (64 < buckets) = true := by simpa using h2
      have hp : hashP base buckets cap = zeroPl := by
        unfold hashP
        rw [if_neg]; rfl
        intro h; have := twoP_le h; omega
      rw [hp]
      go_enter Try.func37, Try.ntmps37
      go_wp2
      exact bodyPost_ret (results_c rfl rfl (Try.loadPl zeroPl (box4 w zeroPl))) rfl ⟨rfl, (Below.refl _ w).alloc (Nat.le_refl _) _⟩
    · have d1 : decide (buckets < 1) = false := by simp; omega
      have d2 : decide (64 < buckets) = false := by simp; omega
      have ho := ones_int buckets (by omega) (by omega)
      have hw : IntKind.u64.wrap buckets = buckets := by rw [IntKind.wrap_u64]; omega
      have HO := Lib.hid (ones_any buckets); 
      cases ht : twoP buckets with
      | true =>
        rw [ht] at ho
        have hp : hashP base buckets cap = ⟨base, buckets, 3, cap⟩ := by unfold hashP; rw [if_pos ht]
        rw [hp]
        have hn : (onesP buckets != 1) = false := by simpa [bne] using ho
        clear ho ht hp
        generalize onesP buckets = z at *
        go_enter Try.func37, Try.ntmps37
        go_wp2_with (go_at_call 64; (with_reducible refine (HO.out _).mono ?_); rintro e w1 ⟨rfl, rfl⟩)
        exact bodyPost_ret (results_c rfl rfl (Try.loadPl ⟨base, buckets, 3, cap⟩ (box4 w ⟨base, buckets, 3, cap⟩))) rfl ⟨rfl, (Below.refl _ w).alloc (Nat.le_refl _) _⟩
      | false =>
        rw [ht] at ho
        have hp : hashP base buckets cap = zeroPl := by unfold hashP; rw [if_neg (by simp [ht])]; rfl
        rw [hp]
        have hn : (onesP buckets != 1) = true := by simpa [bne] using ho
        clear ho ht hp
        generalize onesP buckets = z at *
        go_enter Try.func37, Try.ntmps37
        go_wp2_with (go_at_call 64; (with_reducible refine (HO.out _).mono ?_); rintro e w1 ⟨rfl, rfl⟩)
        exact bodyPost_ret (results_c rfl rfl (Try.loadPl zeroPl (box4 w zeroPl))) rfl ⟨rfl, (Below.refl _ w).alloc (Nat.le_refl _) _⟩

end Go.Proofs.Ythjbcpgncnchoaa
