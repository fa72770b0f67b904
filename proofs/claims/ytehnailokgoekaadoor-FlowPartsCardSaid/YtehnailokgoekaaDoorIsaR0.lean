/- The document's own instructions: shapes, whether legal, shifts. Conditions: those stated in each theorem. -/
import Derived.Test.YtehnailokgoekaaDoorIsaB0
namespace Go.Proofs.YtehnailokgoekaaDoor
open Go.RowKit Go.BigFrame

def bS (m k : Nat) : Value := .bool (hasP m k)
/-- A shape, as the document's code answers it. -/
def shapeV (r : Nat) : Value := .agg #[.string (wordS r), .bool (hasP (mask r) 1), .bool (hasP (mask r) 2), .bool (hasP (mask r) 3), .bool (hasP (mask r) 4)]
def noShape : Value := .agg #[.string ⟨#[]⟩, .bool false, .bool false, .bool false, .bool false]
theorem Tryd.sizeShape : (Tryd.prog.info? 71).map (·.size) = some 5 := by kernel_rfl
theorem Tryd.loadShape {w : World} {b : Nat} {L : List Value} (h : Holds w b 71 L) (hn : L.length = 5) : (loadVar 71 ⟨b, 0, none⟩).run Tryd.prog w = .ok (.agg L.toArray) w :=
  run_loadVar_mid w b 0 71 L _ h.full Tryd.underlying71 rfl (by rw [hn]; exact Tryd.sizeShape)

set_option maxRecDepth 100000 in
theorem shape_1 (w : World) : Calls Tryd.prog 34 #[.int .i64 1] w fun e w' => e = .returned (.tuple #[shapeV 1, .bool true]) ∧ Below w.heap.size w w' := by
  go_enter Tryd.func34, Tryd.ntmps34
  go_wp2
  refine bodyPost_ret (results_ct rfl rfl (v := .agg (List.toArray [.string ⟨#[104, 97, 108, 116]⟩, .bool false, .bool false, .bool false, .bool false])) ?_ rfl) rfl ⟨rfl, ?_⟩
  · refine Tryd.loadShape ?_ rfl
    exact Holds.new w 71 _
  · exact (Below.refl _ w).alloc (Nat.le_refl _) _

set_option maxRecDepth 100000 in
theorem shape_2 (w : World) : Calls Tryd.prog 34 #[.int .i64 2] w fun e w' => e = .returned (.tuple #[shapeV 2, .bool true]) ∧ Below w.heap.size w w' := by
  go_enter Tryd.func34, Tryd.ntmps34
  go_wp2
  refine bodyPost_ret (results_ct rfl rfl (v := .agg (List.toArray [.string ⟨#[115, 101, 116]⟩, .bool true, .bool false, .bool false, .bool true])) ?_ rfl) rfl ⟨rfl, ?_⟩
  · refine Tryd.loadShape ?_ rfl
    exact Holds.new w 71 _
  · exact (Below.refl _ w).alloc (Nat.le_refl _) _

set_option maxRecDepth 100000 in
theorem shape_3 (w : World) : Calls Tryd.prog 34 #[.int .i64 3] w fun e w' => e = .returned (.tuple #[shapeV 3, .bool true]) ∧ Below w.heap.size w w' := by
  go_enter Tryd.func34, Tryd.ntmps34
  go_wp2
  refine bodyPost_ret (results_ct rfl rfl (v := .agg (List.toArray [.string ⟨#[109, 111, 118]⟩, .bool true, .bool true, .bool false, .bool false])) ?_ rfl) rfl ⟨rfl, ?_⟩
  · refine Tryd.loadShape ?_ rfl
    exact Holds.new w 71 _
  · exact (Below.refl _ w).alloc (Nat.le_refl _) _

set_option maxRecDepth 100000 in
theorem shape_4 (w : World) : Calls Tryd.prog 34 #[.int .i64 4] w fun e w' => e = .returned (.tuple #[shapeV 4, .bool true]) ∧ Below w.heap.size w w' := by
  go_enter Tryd.func34, Tryd.ntmps34
  go_wp2
  refine bodyPost_ret (results_ct rfl rfl (v := .agg (List.toArray [.string ⟨#[97, 100, 100]⟩, .bool true, .bool true, .bool true, .bool false])) ?_ rfl) rfl ⟨rfl, ?_⟩
  · refine Tryd.loadShape ?_ rfl
    exact (Holds.new w 71 _).alloc _
  · exact ((Below.refl _ w).alloc (Nat.le_refl _) _).alloc (by simp) _

set_option maxRecDepth 100000 in
theorem shape_5 (w : World) : Calls Tryd.prog 34 #[.int .i64 5] w fun e w' => e = .returned (.tuple #[shapeV 5, .bool true]) ∧ Below w.heap.size w w' := by
  go_enter Tryd.func34, Tryd.ntmps34
  go_wp2
  refine bodyPost_ret (results_ct rfl rfl (v := .agg (List.toArray [.string ⟨#[115, 117, 98]⟩, .bool true, .bool true, .bool true, .bool false])) ?_ rfl) rfl ⟨rfl, ?_⟩
  · refine Tryd.loadShape ?_ rfl
    exact (Holds.new w 71 _).alloc _
  · exact ((Below.refl _ w).alloc (Nat.le_refl _) _).alloc (by simp) _

set_option maxRecDepth 100000 in
theorem shape_6 (w : World) : Calls Tryd.prog 34 #[.int .i64 6] w fun e w' => e = .returned (.tuple #[shapeV 6, .bool true]) ∧ Below w.heap.size w w' := by
  go_enter Tryd.func34, Tryd.ntmps34
  go_wp2
  refine bodyPost_ret (results_ct rfl rfl (v := .agg (List.toArray [.string ⟨#[109, 117, 108]⟩, .bool true, .bool true, .bool true, .bool false])) ?_ rfl) rfl ⟨rfl, ?_⟩
  · refine Tryd.loadShape ?_ rfl
    exact (Holds.new w 71 _).alloc _
  · exact ((Below.refl _ w).alloc (Nat.le_refl _) _).alloc (by simp) _

set_option maxRecDepth 100000 in
theorem shape_7 (w : World) : Calls Tryd.prog 34 #[.int .i64 7] w fun e w' => e = .returned (.tuple #[shapeV 7, .bool true]) ∧ Below w.heap.size w w' := by
  go_enter Tryd.func34, Tryd.ntmps34
  go_wp2
  refine bodyPost_ret (results_ct rfl rfl (v := .agg (List.toArray [.string ⟨#[97, 110, 100]⟩, .bool true, .bool true, .bool true, .bool false])) ?_ rfl) rfl ⟨rfl, ?_⟩
  · refine Tryd.loadShape ?_ rfl
    exact (Holds.new w 71 _).alloc _
  · exact ((Below.refl _ w).alloc (Nat.le_refl _) _).alloc (by simp) _

set_option maxRecDepth 100000 in
theorem shape_8 (w : World) : Calls Tryd.prog 34 #[.int .i64 8] w fun e w' => e = .returned (.tuple #[shapeV 8, .bool true]) ∧ Below w.heap.size w w' := by
  go_enter Tryd.func34, Tryd.ntmps34
  go_wp2
  refine bodyPost_ret (results_ct rfl rfl (v := .agg (List.toArray [.string ⟨#[120, 111, 114]⟩, .bool true, .bool true, .bool true, .bool false])) ?_ rfl) rfl ⟨rfl, ?_⟩
  · refine Tryd.loadShape ?_ rfl
    exact (Holds.new w 71 _).alloc _
  · exact ((Below.refl _ w).alloc (Nat.le_refl _) _).alloc (by simp) _

set_option maxRecDepth 100000 in
theorem shape_9 (w : World) : Calls Tryd.prog 34 #[.int .i64 9] w fun e w' => e = .returned (.tuple #[shapeV 9, .bool true]) ∧ Below w.heap.size w w' := by
  go_enter Tryd.func34, Tryd.ntmps34
  go_wp2
  refine bodyPost_ret (results_ct rfl rfl (v := .agg (List.toArray [.string ⟨#[115, 104, 108]⟩, .bool true, .bool true, .bool true, .bool false])) ?_ rfl) rfl ⟨rfl, ?_⟩
  · refine Tryd.loadShape ?_ rfl
    exact (Holds.new w 71 _).alloc _
  · exact ((Below.refl _ w).alloc (Nat.le_refl _) _).alloc (by simp) _

set_option maxRecDepth 100000 in
theorem shape_10 (w : World) : Calls Tryd.prog 34 #[.int .i64 10] w fun e w' => e = .returned (.tuple #[shapeV 10, .bool true]) ∧ Below w.heap.size w w' := by
  go_enter Tryd.func34, Tryd.ntmps34
  go_wp2
  refine bodyPost_ret (results_ct rfl rfl (v := .agg (List.toArray [.string ⟨#[115, 104, 114]⟩, .bool true, .bool true, .bool true, .bool false])) ?_ rfl) rfl ⟨rfl, ?_⟩
  · refine Tryd.loadShape ?_ rfl
    exact (Holds.new w 71 _).alloc _
  · exact ((Below.refl _ w).alloc (Nat.le_refl _) _).alloc (by simp) _

set_option maxRecDepth 100000 in
theorem shape_11 (w : World) : Calls Tryd.prog 34 #[.int .i64 11] w fun e w' => e = .returned (.tuple #[shapeV 11, .bool true]) ∧ Below w.heap.size w w' := by
  go_enter Tryd.func34, Tryd.ntmps34
  go_wp2
  refine bodyPost_ret (results_ct rfl rfl (v := .agg (List.toArray [.string ⟨#[108, 111, 97, 100]⟩, .bool true, .bool true, .bool false, .bool true])) ?_ rfl) rfl ⟨rfl, ?_⟩
  · refine Tryd.loadShape ?_ rfl
    exact (Holds.new w 71 _).alloc _
  · exact ((Below.refl _ w).alloc (Nat.le_refl _) _).alloc (by simp) _

set_option maxRecDepth 100000 in
theorem shape_12 (w : World) : Calls Tryd.prog 34 #[.int .i64 12] w fun e w' => e = .returned (.tuple #[shapeV 12, .bool true]) ∧ Below w.heap.size w w' := by
  go_enter Tryd.func34, Tryd.ntmps34
  go_wp2
  refine bodyPost_ret (results_ct rfl rfl (v := .agg (List.toArray [.string ⟨#[115, 116, 111, 114, 101]⟩, .bool true, .bool true, .bool false, .bool true])) ?_ rfl) rfl ⟨rfl, ?_⟩
  · refine Tryd.loadShape ?_ rfl
    exact (Holds.new w 71 _).alloc _
  · exact ((Below.refl _ w).alloc (Nat.le_refl _) _).alloc (by simp) _

set_option maxRecDepth 100000 in
theorem shape_13 (w : World) : Calls Tryd.prog 34 #[.int .i64 13] w fun e w' => e = .returned (.tuple #[shapeV 13, .bool true]) ∧ Below w.heap.size w w' := by
  go_enter Tryd.func34, Tryd.ntmps34
  go_wp2
  refine bodyPost_ret (results_ct rfl rfl (v := .agg (List.toArray [.string ⟨#[106, 117, 109, 112]⟩, .bool false, .bool false, .bool false, .bool true])) ?_ rfl) rfl ⟨rfl, ?_⟩
  · refine Tryd.loadShape ?_ rfl
    exact Holds.new w 71 _
  · exact (Below.refl _ w).alloc (Nat.le_refl _) _

set_option maxRecDepth 100000 in
theorem shape_14 (w : World) : Calls Tryd.prog 34 #[.int .i64 14] w fun e w' => e = .returned (.tuple #[shapeV 14, .bool true]) ∧ Below w.heap.size w w' := by
  go_enter Tryd.func34, Tryd.ntmps34
  go_wp2
  refine bodyPost_ret (results_ct rfl rfl (v := .agg (List.toArray [.string ⟨#[101, 113]⟩, .bool true, .bool true, .bool false, .bool true])) ?_ rfl) rfl ⟨rfl, ?_⟩
  · refine Tryd.loadShape ?_ rfl
    exact (Holds.new w 71 _).alloc _
  · exact ((Below.refl _ w).alloc (Nat.le_refl _) _).alloc (by simp) _

set_option maxRecDepth 100000 in
theorem shape_15 (w : World) : Calls Tryd.prog 34 #[.int .i64 15] w fun e w' => e = .returned (.tuple #[shapeV 15, .bool true]) ∧ Below w.heap.size w w' := by
  go_enter Tryd.func34, Tryd.ntmps34
  go_wp2
  refine bodyPost_ret (results_ct rfl rfl (v := .agg (List.toArray [.string ⟨#[110, 101]⟩, .bool true, .bool true, .bool false, .bool true])) ?_ rfl) rfl ⟨rfl, ?_⟩
  · refine Tryd.loadShape ?_ rfl
    exact (Holds.new w 71 _).alloc _
  · exact ((Below.refl _ w).alloc (Nat.le_refl _) _).alloc (by simp) _

set_option maxRecDepth 100000 in
theorem shape_16 (w : World) : Calls Tryd.prog 34 #[.int .i64 16] w fun e w' => e = .returned (.tuple #[shapeV 16, .bool true]) ∧ Below w.heap.size w w' := by
  go_enter Tryd.func34, Tryd.ntmps34
  go_wp2
  refine bodyPost_ret (results_ct rfl rfl (v := .agg (List.toArray [.string ⟨#[108, 116]⟩, .bool true, .bool true, .bool false, .bool true])) ?_ rfl) rfl ⟨rfl, ?_⟩
  · refine Tryd.loadShape ?_ rfl
    exact (Holds.new w 71 _).alloc _
  · exact ((Below.refl _ w).alloc (Nat.le_refl _) _).alloc (by simp) _

set_option maxRecDepth 100000 in
theorem shape_17 (w : World) : Calls Tryd.prog 34 #[.int .i64 17] w fun e w' => e = .returned (.tuple #[shapeV 17, .bool true]) ∧ Below w.heap.size w w' := by
  go_enter Tryd.func34, Tryd.ntmps34
  go_wp2
  refine bodyPost_ret (results_ct rfl rfl (v := .agg (List.toArray [.string ⟨#[98, 101, 103, 105, 110]⟩, .bool false, .bool false, .bool false, .bool false])) ?_ rfl) rfl ⟨rfl, ?_⟩
  · refine Tryd.loadShape ?_ rfl
    exact Holds.new w 71 _
  · exact (Below.refl _ w).alloc (Nat.le_refl _) _

set_option maxRecDepth 100000 in
theorem shape_18 (w : World) : Calls Tryd.prog 34 #[.int .i64 18] w fun e w' => e = .returned (.tuple #[shapeV 18, .bool true]) ∧ Below w.heap.size w w' := by
  go_enter Tryd.func34, Tryd.ntmps34
  go_wp2
  refine bodyPost_ret (results_ct rfl rfl (v := .agg (List.toArray [.string ⟨#[101, 110, 100]⟩, .bool false, .bool false, .bool false, .bool false])) ?_ rfl) rfl ⟨rfl, ?_⟩
  · refine Tryd.loadShape ?_ rfl
    exact Holds.new w 71 _
  · exact (Below.refl _ w).alloc (Nat.le_refl _) _

set_option maxRecDepth 100000 in
theorem shape_none (op : Int) (h : op < 1 ∨ 18 < op) (w : World) : Calls Tryd.prog 34 #[.int .i64 op] w fun e w' => e = .returned (.tuple #[noShape, .bool false]) ∧ Below w.heap.size w w' := by
  have e1 : (op == 1) = false := by rw [beq_eq_false_iff_ne]; omega
  have e2 : (op == 2) = false := by rw [beq_eq_false_iff_ne]; omega
  have e3 : (op == 3) = false := by rw [beq_eq_false_iff_ne]; omega
  have e4 : (op == 4) = false := by rw [beq_eq_false_iff_ne]; omega
  have e5 : (op == 5) = false := by rw [beq_eq_false_iff_ne]; omega
  have e6 : (op == 6) = false := by rw [beq_eq_false_iff_ne]; omega
  have e7 : (op == 7) = false := by rw [beq_eq_false_iff_ne]; omega
  have e8 : (op == 8) = false := by rw [beq_eq_false_iff_ne]; omega
  have e9 : (op == 9) = false := by rw [beq_eq_false_iff_ne]; omega
  have e10 : (op == 10) = false := by rw [beq_eq_false_iff_ne]; omega
  have e11 : (op == 11) = false := by rw [beq_eq_false_iff_ne]; omega
  have e12 : (op == 12) = false := by rw [beq_eq_false_iff_ne]; omega
  have e13 : (op == 13) = false := by rw [beq_eq_false_iff_ne]; omega
  have e14 : (op == 14) = false := by rw [beq_eq_false_iff_ne]; omega
  have e15 : (op == 15) = false := by rw [beq_eq_false_iff_ne]; omega
  have e16 : (op == 16) = false := by rw [beq_eq_false_iff_ne]; omega
  have e17 : (op == 17) = false := by rw [beq_eq_false_iff_ne]; omega
  have e18 : (op == 18) = false := by rw [beq_eq_false_iff_ne]; omega
  clear h
  go_enter Tryd.func34, Tryd.ntmps34
  go_wp2
  refine bodyPost_ret (results_ct rfl rfl (v := noShape) ?_ rfl) rfl ⟨rfl, ?_⟩
  · refine Tryd.loadShape (L := [.string ⟨#[]⟩, .bool false, .bool false, .bool false, .bool false]) ?_ rfl
    exact Holds.new w 71 _
  · exact (Below.refl _ w).alloc (Nat.le_refl _) _

theorem shape_any (r : Nat) (h1 : 1 ≤ r) (h2 : r ≤ 18) (w : World) : Calls Tryd.prog 34 #[.int .i64 r] w fun e w' => e = .returned (.tuple #[shapeV r, .bool true]) ∧ Below w.heap.size w w' := by
  match r, h1, h2 with
  | 1, _, _ => exact shape_1 w
  | 2, _, _ => exact shape_2 w
  | 3, _, _ => exact shape_3 w
  | 4, _, _ => exact shape_4 w
  | 5, _, _ => exact shape_5 w
  | 6, _, _ => exact shape_6 w
  | 7, _, _ => exact shape_7 w
  | 8, _, _ => exact shape_8 w
  | 9, _, _ => exact shape_9 w
  | 10, _, _ => exact shape_10 w
  | 11, _, _ => exact shape_11 w
  | 12, _, _ => exact shape_12 w
  | 13, _, _ => exact shape_13 w
  | 14, _, _ => exact shape_14 w
  | 15, _, _ => exact shape_15 w
  | 16, _, _ => exact shape_16 w
  | 17, _, _ => exact shape_17 w
  | 18, _, _ => exact shape_18 w
  | k + 19, _, h => omega

set_option maxRecDepth 100000 in
theorem register_any (n : Int) (w : World) : Calls Tryd.prog 35 #[.int .i64 n] w fun e w' => e = .returned (.bool (decide (0 ≤ n) && decide (n < 8))) ∧ w = w' := by
  by_cases h : 0 ≤ n
  · go_enter Tryd.func35, Tryd.ntmps35
    go_wp2
    go_ret
    exact ⟨by simp [h], rfl⟩
  · go_enter Tryd.func35, Tryd.ntmps35
    go_wp2
    go_ret
    exact ⟨by have : decide (0 ≤ n) = false := by simpa using h
              rw [this]; rfl, rfl⟩


end Go.Proofs.YtehnailokgoekaaDoor
