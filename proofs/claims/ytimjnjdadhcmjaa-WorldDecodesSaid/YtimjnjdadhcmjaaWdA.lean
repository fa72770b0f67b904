/- A script's acts: the plain function; actOf. Conditions: those stated in each theorem. -/
import Derived.Test.YtimjnjdadhcmjaaCame
import Derived.Test.YtimjnjdadhcmjaaEachT
import Derived.TacticsInMore
import Derived.LoopNIn
import Derived.LoopIn
import Derived.StillTailTactics
namespace Go.Proofs.Ytimjnjdadhcmjaa
open Go.RowKit Go.BigFrame
attribute [local go_sem] Oper.semAt_some

structure Ac where
  kd : Int
  co : Int
  nn : Int
def Ac.cells (x : Ac) : List Value := [.int .i64 x.kd, .int .i64 x.co, .int .i64 x.nn]
def Ac.val (x : Ac) : Value := .agg #[.int .i64 x.kd, .int .i64 x.co, .int .i64 x.nn]
def actB (b0 b1 b2 : UInt8) : Ac := ⟨1 + (b0.toNat : Int) % 4, (b1.toNat : Int) % 4, b2.toNat⟩
def actsL : List UInt8 → List Ac
  | b0 :: b1 :: b2 :: r => actB b0 b1 b2 :: actsL r
  | _ => []
theorem actsL_len : ∀ (n : Nat) (b : List UInt8), b.length ≤ n → (actsL b).length = b.length / 3
  | 0, b, h => by
    have : b = [] := List.eq_nil_of_length_eq_zero (by omega)
    subst this; rfl
  | n + 1, b, h => by
    by_cases h8 : 3 ≤ b.length
    · match b, h8 with
      | b0 :: b1 :: b2 :: r, _ =>
        have := actsL_len n r (by simp at h; omega)
        simp only [actsL, List.length_cons, this]
        omega
    · have : actsL b = [] := by
        unfold actsL
        split
        · exact absurd (by simp) h8
        · rfl
      rw [this]; simp; omega
theorem actsL_at : ∀ (k : Nat) (b : List UInt8), 3 * k + 3 ≤ b.length → ∃ b0 b1 b2 : UInt8, (actsL b)[k]? = some (actB b0 b1 b2) ∧ (b.drop (3 * k)).take 3 = [b0, b1, b2]
  | 0, b, h => by
    match b, h with
    | b0 :: b1 :: b2 :: r, _ => exact ⟨b0, b1, b2, by simp [actsL], by simp⟩
  | k + 1, b, h => by
    match b, h with
    | c0 :: c1 :: c2 :: r, h =>
      obtain ⟨b0, b1, b2, h1, h2⟩ := actsL_at k r (by simp at h; omega)
      refine ⟨b0, b1, b2, by simpa [actsL] using h1, ?_⟩
      rw [show 3 * (k + 1) = 3 * k + 3 by omega]
      simpa using h2
/-- One byte. -/
def cell1 (b : UInt8) : List Value := [.int .u8 (b.toNat : Int)]
/-- Three bytes of a row. -/
theorem three {w : World} {q c : Nat} {bs : List UInt8} (h : ∀ k x, bs[k]? = some x → w.rangeAt q (c + k * 1) (cell1 x)) {k : Nat} {b0 b1 b2 : UInt8} (hk : (bs.drop (3 * k)).take 3 = [b0, b1, b2]) :
    w.rangeAt q (c + 3 * k) [.int .u8 b0.toNat, .int .u8 b1.toNat, .int .u8 b2.toNat] := by
  intro j v hj
  have hj8 : j < 3 := by have := (List.getElem?_eq_some_iff.1 hj).1; simpa using this
  have g : ∀ x, [b0, b1, b2][j]? = some x → bs[3 * k + j]? = some x := fun x hx => by
    rw [← hk, List.getElem?_take, if_pos hj8, List.getElem?_drop] at hx; exact hx
  have e : ∀ x, bs[3 * k + j]? = some x → w.cell? ⟨q, c + 3 * k + j, none⟩ = some (.int .u8 (x.toNat : Int)) := fun x hx => by
    have := h _ x hx 0 _ rfl
    rw [show c + 3 * k + j = c + (3 * k + j) * 1 + 0 by omega]; exact this
  match j, hj8, hj, g with
  | 0, _, hj, g => rw [e _ (g _ rfl)]; exact hj
  | 1, _, hj, g => rw [e _ (g _ rfl)]; exact hj
  | 2, _, hj, g => rw [e _ (g _ rfl)]; exact hj

theorem holds_full {w : World} {b : Nat} {t : TypeId} {L : List Value} (h : Holds w b t L) : w.rangeAt b 0 L := h.range (fun i v hi => by rw [Nat.zero_add]; exact hi)
theorem info_cells (t : TypeId) (k b : Nat) (h : (Try.prog.info? t).map (fun i => (i.zero.map (·.cells.size), i.size, i.bytes)) = some (some k, k, b)) : ∃ (i : TypeInfo) (z : Value), Try.prog.info? t = some i ∧ i.zero = some z ∧ i.size = k ∧ i.bytes = b ∧ z.cells.size = k := by
  cases hi : Try.prog.info? t with
  | none => rw [hi] at h; cases h
  | some i =>
    rw [hi] at h
    simp only [Option.map_some, Option.some.injEq, Prod.mk.injEq] at h
    obtain ⟨h1, h2, h3⟩ := h
    cases hz : i.zero with
    | none => rw [hz] at h1; cases h1
    | some z => rw [hz] at h1; exact ⟨i, z, rfl, hz, h2, h3, by simpa using h1⟩
theorem info_act : ∃ (i : TypeInfo) (z : Value), Try.prog.info? 26 = some i ∧ i.zero = some z ∧ i.size = 3 ∧ i.bytes = 24 ∧ z.cells.size = 3 := info_cells _ 3 24 (by kernel_rfl)
def flatA (l : List Ac) : List Value := l.flatMap Ac.cells
theorem flatA_snoc (l : List Ac) (x : Ac) : flatA (l ++ [x]) = flatA l ++ x.cells := by simp [flatA, List.flatMap_append]
theorem flatA_len : ∀ (l : List Ac), (flatA l).length = l.length * 3
  | [] => rfl
  | x :: r => by
    have := flatA_len r
    unfold flatA at this ⊢
    rw [List.flatMap_cons, List.length_append, this, List.length_cons]
    simp [Ac.cells]; omega
theorem flatA_at : ∀ (l : List Ac) (k : Nat) (x : Ac), l[k]? = some x → ∀ (j : Nat) (v : Value), x.cells[j]? = some v → (flatA l)[k * 3 + j]? = some v
  | [], k, x, h, _, _, _ => by simp at h
  | y :: r, 0, x, h, j, v, hj => by
    simp at h; subst h
    have hlt : j < y.cells.length := (List.getElem?_eq_some_iff.1 hj).1
    unfold flatA
    rw [List.flatMap_cons, Nat.zero_mul, Nat.zero_add, List.getElem?_append_left hlt]; exact hj
  | y :: r, k + 1, x, h, j, v, hj => by
    have := flatA_at r k x (by simpa using h) j v hj
    unfold flatA at this ⊢
    rw [List.flatMap_cons, List.getElem?_append_right (by simp [Ac.cells]; omega)]
    rw [← this]; congr 1; simp [Ac.cells]; omega

theorem grownA {b : UInt8} : (0 : Int) ≤ (b.toNat : Int) ∧ (b.toNat : Int) < 256 := ⟨by omega, by have := b.toNat_lt; omega⟩

set_option maxRecDepth 100000 in
set_option maxHeartbeats 2000000 in
theorem act_any (q c n cap : Nat) (b0 b1 b2 : UInt8) (w : World) (hn : 3 ≤ n) (hr : w.rangeAt q c [.int .u8 b0.toNat, .int .u8 b1.toNat, .int .u8 b2.toNat]) (hq : q < w.heap.size) :
    Calls Try.prog 10 #[.slice (some ⟨q, c, none⟩) n cap] w fun e w' => e = .returned (actB b0 b1 b2).val ∧ Below w.heap.size w w' := by
  have hbw : Below w.heap.size w (w.alloc (.cells #[.int .i64 0, .int .i64 0, .int .i64 0] 26)) := (Below.refl _ w).alloc (Nat.le_refl _) _
  have hbx : Holds (w.alloc (.cells #[.int .i64 0, .int .i64 0, .int .i64 0] 26)) w.heap.size 26 [.int .i64 0, .int .i64 0, .int .i64 0] := Holds.new w _ _
  have hrr : (w.alloc (.cells #[.int .i64 0, .int .i64 0, .int .i64 0] 26)).rangeAt q c [.int .u8 b0.toNat, .int .u8 b1.toNat, .int .u8 b2.toNat] := fun i v hi => by
    rw [← hr i v hi]; exact World.cell?_of_block (a := ⟨q, c + i, none⟩) (hbw.block q hq)
  have h0 := grownA (b := b0)
  have h1 := grownA (b := b1)
  have h2 := grownA (b := b2)
  unfold actB
  generalize (b0.toNat : Int) = z0 at *
  generalize (b1.toNat : Int) = z1 at *
  generalize (b2.toNat : Int) = z2 at *
  go_enter Try.func10, Try.ntmps10
  have Hbx := Lib.hid hbx; clear hbx
  have Hbw := Lib.hid hbw; clear hbw
  have Hrr := Lib.hid hrr; clear hrr
  go_wp2_with fail
  generalize w.alloc (.cells #[.int .i64 0, .int .i64 0, .int .i64 0] 26) = W1 at *
  have d0 : W1.cell? ⟨q, c, none⟩ = some (.int .u8 z0) := Hrr.out 0 _ rfl
  have d1 : W1.cell? ⟨q, c + 1, none⟩ = some (.int .u8 z1) := Hrr.out 1 _ rfl
  have d2 : W1.cell? ⟨q, c + 2, none⟩ = some (.int .u8 z2) := Hrr.out 2 _ rfl
  have w0 : IntKind.i64.wrap z0 = z0 := by rw [IntKind.wrap_i64]; omega
  have w1 : IntKind.i64.wrap z1 = z1 := by rw [IntKind.wrap_i64]; omega
  have w2 : IntKind.i64.wrap z2 = z2 := by rw [IntKind.wrap_i64]; omega
  have t0 : z0.tmod 4 = z0 % 4 := Int.tmod_eq_emod_of_nonneg h0.1
  have t1 : z1.tmod 4 = z1 % 4 := Int.tmod_eq_emod_of_nonneg h1.1
  have w3 : IntKind.i64.wrap (1 + z0 % 4) = 1 + z0 % 4 := by rw [IntKind.wrap_i64]; omega
  have k0 : (0 : Int) < n ∧ (1 : Int) < n ∧ (2 : Int) < n := by omega
  obtain ⟨k0, k1, k2⟩ := k0
  have n0 : 0 < n ∧ 1 < n ∧ 2 < n := by omega
  obtain ⟨n0, n1, n2⟩ := n0
  have Hx3 := Lib.hid (Hbx.out.drew)
  have Hb3 := Lib.hid (below_drew1 Hbw.out)
  have Hth := Lib.hid (Hbx.out.drew.there (o := 0) (n := 3) (Nat.le_refl _))
  go_still_tail 16, (by kernel_rfl)
  change wpList _ _ _ _ _ W1.drew
  clear d0 d1 d2
  generalize W1.drew = W2 at *
  go_wp2_with (refine wpList_store_mid rfl 26 (.tmp 2) (.tmp 18) rfl w.heap.size 0 #[.int .i64 (1 + z0 % 4), .int .i64 (z1 % 4), .int .i64 z2] rfl rfl ?_ (by kernel_rfl) (by simp [Value.oneCell']) ?_; exact Hth.out; change wpList _ _ _ _ _ (W2.setCells w.heap.size 0 [.int .i64 (1 + z0 % 4), .int .i64 (z1 % 4), .int .i64 z2]))
  have hf : Holds (W2.setCells w.heap.size 0 [.int .i64 (1 + z0 % 4), .int .i64 (z1 % 4), .int .i64 z2]) w.heap.size 26 [.int .i64 (1 + z0 % 4), .int .i64 (z1 % 4), .int .i64 z2] := Hx3.out.sets [.int .i64 (1 + z0 % 4), .int .i64 (z1 % 4), .int .i64 z2] 0
  exact bodyPost_ret (results_c rfl rfl (run_loadVar_mid _ _ 0 26 [.int .i64 (1 + z0 % 4), .int .i64 (z1 % 4), .int .i64 z2] _ (holds_full hf) Try.underlying26 rfl (by kernel_rfl))) rfl ⟨rfl, below_cells (Nat.le_refl _) _ _ _ Hb3.out⟩

end Go.Proofs.Ytimjnjdadhcmjaa
