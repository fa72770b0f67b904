/- The law's list of named places. Conditions: those stated in each theorem. -/
import Derived.Test.YtfgignmlggmeoaaDoorApP
import Derived.Test.YtfgignmlggmeoaaDoorIsaE
namespace Go.Proofs.YtfgignmlggmeoaaDoor
open Go.RowKit Go.BigFrame

def NamedOut (w : World) (a b c : Bool) (e : Ending) (w' : World) : Prop := e = .returned (.agg #[.bool a, .bool b, .bool c]) ∧ Below w.heap.size w w'
theorem named_load (w : World) (a b c : Bool) : (loadVar 50 ⟨w.heap.size, 0, none⟩).run Tryd.prog (w.alloc (.cells #[.bool a, .bool b, .bool c] 50)) = .ok (.agg #[.bool a, .bool b, .bool c]) (w.alloc (.cells #[.bool a, .bool b, .bool c] 50)) :=
  run_loadVar_mid _ _ 0 50 [.bool a, .bool b, .bool c] _ (Holds.new w 50 [.bool a, .bool b, .bool c]).full Tryd.underlying50 rfl (by kernel_rfl)

set_option maxRecDepth 100000 in
theorem named_2 (w : World) : Calls Tryd.prog 23 #[.int .i64 2] w (NamedOut w true false false) := by
  go_enter Tryd.func23, Tryd.ntmps23
  go_wp2
  exact bodyPost_ret (results_c rfl rfl (named_load w true false false)) rfl ⟨rfl, (Below.refl _ w).alloc (Nat.le_refl _) _⟩
set_option maxRecDepth 100000 in
theorem named_3 (w : World) : Calls Tryd.prog 23 #[.int .i64 3] w (NamedOut w true true false) := by
  go_enter Tryd.func23, Tryd.ntmps23
  go_wp2
  exact bodyPost_ret (results_c rfl rfl (named_load w true true false)) rfl ⟨rfl, (Below.refl _ w).alloc (Nat.le_refl _) _⟩
set_option maxRecDepth 100000 in
theorem named_11 (w : World) : Calls Tryd.prog 23 #[.int .i64 11] w (NamedOut w true true false) := by
  go_enter Tryd.func23, Tryd.ntmps23
  go_wp2
  exact bodyPost_ret (results_c rfl rfl (named_load w true true false)) rfl ⟨rfl, (Below.refl _ w).alloc (Nat.le_refl _) _⟩
set_option maxRecDepth 100000 in
theorem named_12 (w : World) : Calls Tryd.prog 23 #[.int .i64 12] w (NamedOut w true true false) := by
  go_enter Tryd.func23, Tryd.ntmps23
  go_wp2
  exact bodyPost_ret (results_c rfl rfl (named_load w true true false)) rfl ⟨rfl, (Below.refl _ w).alloc (Nat.le_refl _) _⟩
set_option maxRecDepth 100000 in
theorem named_14 (w : World) : Calls Tryd.prog 23 #[.int .i64 14] w (NamedOut w true true false) := by
  go_enter Tryd.func23, Tryd.ntmps23
  go_wp2
  exact bodyPost_ret (results_c rfl rfl (named_load w true true false)) rfl ⟨rfl, (Below.refl _ w).alloc (Nat.le_refl _) _⟩
set_option maxRecDepth 100000 in
theorem named_15 (w : World) : Calls Tryd.prog 23 #[.int .i64 15] w (NamedOut w true true false) := by
  go_enter Tryd.func23, Tryd.ntmps23
  go_wp2
  exact bodyPost_ret (results_c rfl rfl (named_load w true true false)) rfl ⟨rfl, (Below.refl _ w).alloc (Nat.le_refl _) _⟩
set_option maxRecDepth 100000 in
theorem named_16 (w : World) : Calls Tryd.prog 23 #[.int .i64 16] w (NamedOut w true true false) := by
  go_enter Tryd.func23, Tryd.ntmps23
  go_wp2
  exact bodyPost_ret (results_c rfl rfl (named_load w true true false)) rfl ⟨rfl, (Below.refl _ w).alloc (Nat.le_refl _) _⟩
set_option maxRecDepth 100000 in
theorem named_4 (w : World) : Calls Tryd.prog 23 #[.int .i64 4] w (NamedOut w true true true) := by
  go_enter Tryd.func23, Tryd.ntmps23
  go_wp2
  exact bodyPost_ret (results_c rfl rfl (named_load w true true true)) rfl ⟨rfl, (Below.refl _ w).alloc (Nat.le_refl _) _⟩
set_option maxRecDepth 100000 in
theorem named_5 (w : World) : Calls Tryd.prog 23 #[.int .i64 5] w (NamedOut w true true true) := by
  go_enter Tryd.func23, Tryd.ntmps23
  go_wp2
  exact bodyPost_ret (results_c rfl rfl (named_load w true true true)) rfl ⟨rfl, (Below.refl _ w).alloc (Nat.le_refl _) _⟩
set_option maxRecDepth 100000 in
theorem named_6 (w : World) : Calls Tryd.prog 23 #[.int .i64 6] w (NamedOut w true true true) := by
  go_enter Tryd.func23, Tryd.ntmps23
  go_wp2
  exact bodyPost_ret (results_c rfl rfl (named_load w true true true)) rfl ⟨rfl, (Below.refl _ w).alloc (Nat.le_refl _) _⟩
set_option maxRecDepth 100000 in
theorem named_7 (w : World) : Calls Tryd.prog 23 #[.int .i64 7] w (NamedOut w true true true) := by
  go_enter Tryd.func23, Tryd.ntmps23
  go_wp2
  exact bodyPost_ret (results_c rfl rfl (named_load w true true true)) rfl ⟨rfl, (Below.refl _ w).alloc (Nat.le_refl _) _⟩
set_option maxRecDepth 100000 in
theorem named_8 (w : World) : Calls Tryd.prog 23 #[.int .i64 8] w (NamedOut w true true true) := by
  go_enter Tryd.func23, Tryd.ntmps23
  go_wp2
  exact bodyPost_ret (results_c rfl rfl (named_load w true true true)) rfl ⟨rfl, (Below.refl _ w).alloc (Nat.le_refl _) _⟩
set_option maxRecDepth 100000 in
theorem named_9 (w : World) : Calls Tryd.prog 23 #[.int .i64 9] w (NamedOut w true true true) := by
  go_enter Tryd.func23, Tryd.ntmps23
  go_wp2
  exact bodyPost_ret (results_c rfl rfl (named_load w true true true)) rfl ⟨rfl, (Below.refl _ w).alloc (Nat.le_refl _) _⟩
set_option maxRecDepth 100000 in
theorem named_10 (w : World) : Calls Tryd.prog 23 #[.int .i64 10] w (NamedOut w true true true) := by
  go_enter Tryd.func23, Tryd.ntmps23
  go_wp2
  exact bodyPost_ret (results_c rfl rfl (named_load w true true true)) rfl ⟨rfl, (Below.refl _ w).alloc (Nat.le_refl _) _⟩
set_option maxRecDepth 100000 in
theorem named_no (op : Int) (w : World) (n2 : (op == 2) = false) (n3 : (op == 3) = false) (n11 : (op == 11) = false) (n12 : (op == 12) = false) (n14 : (op == 14) = false) (n15 : (op == 15) = false) (n16 : (op == 16) = false) (n4 : (op == 4) = false) (n5 : (op == 5) = false) (n6 : (op == 6) = false) (n7 : (op == 7) = false) (n8 : (op == 8) = false) (n9 : (op == 9) = false) (n10 : (op == 10) = false) : Calls Tryd.prog 23 #[.int .i64 op] w (NamedOut w false false false) := by
  go_enter Tryd.func23, Tryd.ntmps23
  go_wp2
  exact bodyPost_ret (results_c rfl rfl (named_load w false false false)) rfl ⟨rfl, (Below.refl _ w).alloc (Nat.le_refl _) _⟩
theorem named_any (op : Int) (w : World) : Calls Tryd.prog 23 #[.int .i64 op] w (NamedOut w (nmP op 1) (nmP op 2) (nmP op 3)) := by
  by_cases n2 : op = 2
  · subst n2; exact named_2 w
  by_cases n3 : op = 3
  · subst n3; exact named_3 w
  by_cases n11 : op = 11
  · subst n11; exact named_11 w
  by_cases n12 : op = 12
  · subst n12; exact named_12 w
  by_cases n14 : op = 14
  · subst n14; exact named_14 w
  by_cases n15 : op = 15
  · subst n15; exact named_15 w
  by_cases n16 : op = 16
  · subst n16; exact named_16 w
  by_cases n4 : op = 4
  · subst n4; exact named_4 w
  by_cases n5 : op = 5
  · subst n5; exact named_5 w
  by_cases n6 : op = 6
  · subst n6; exact named_6 w
  by_cases n7 : op = 7
  · subst n7; exact named_7 w
  by_cases n8 : op = 8
  · subst n8; exact named_8 w
  by_cases n9 : op = 9
  · subst n9; exact named_9 w
  by_cases n10 : op = 10
  · subst n10; exact named_10 w
  have hz : ∀ k, k = 1 ∨ k = 2 ∨ k = 3 → nmP op k = false := fun k hk => by
    by_cases ho : 1 ≤ op ∧ op ≤ 18
    · have : op = 1 ∨ op = 13 ∨ op = 17 ∨ op = 18 := by omega
      rcases this with rfl | rfl | rfl | rfl <;> rcases hk with rfl | rfl | rfl <;> decide
    · unfold nmP; simp only [Bool.and_eq_false_iff, decide_eq_false_iff_not]; omega
  rw [hz 1 (by omega), hz 2 (by omega), hz 3 (by omega)]
  exact named_no op w (by simpa using n2) (by simpa using n3) (by simpa using n11) (by simpa using n12) (by simpa using n14) (by simpa using n15) (by simpa using n16) (by simpa using n4) (by simpa using n5) (by simpa using n6) (by simpa using n7) (by simpa using n8) (by simpa using n9) (by simpa using n10)

end Go.Proofs.YtfgignmlggmeoaaDoor
