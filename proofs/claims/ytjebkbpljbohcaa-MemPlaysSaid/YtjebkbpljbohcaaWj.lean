/- All and Copy over a memory: their contracts; MemLines: the walk. Conditions: those stated in each theorem. -/
import Derived.Test.YtjebkbpljbohcaaWi
import Derived.Test.YtjebkbpljbohcaaWe
namespace Go.Proofs.Ytjebkbpljbohcaa
open Go.RowKit

theorem flat_lines (xs : List Int) : ∀ (n : Nat), 8 * n ≤ xs.length → (List.range n).flatMap (lineCells xs) = (xs.take (8 * n)).map (Value.int .u64)
  | 0, _ => by simp
  | n + 1, h => by
    rw [List.range_succ, List.flatMap_append, flat_lines xs n (by omega), show 8 * (n + 1) = 8 * n + 8 from by omega, List.take_add, List.map_append]
    congr 1
    simp only [List.flatMap_cons, List.flatMap_nil, List.append_nil, lineCells]
    apply List.ext_getElem
    · simp; omega
    · intro i h1 h2
      have h8 : i < 8 := by simpa using h1
      match i, h8 with
      | 0, _ => simp [List.getElem_take, List.getElem_drop, List.getD_eq_getElem?_getD, List.getElem?_eq_getElem (show n * 8 < xs.length by omega), Nat.mul_comm]
      | 1, _ => simp [List.getElem_take, List.getElem_drop, List.getD_eq_getElem?_getD, List.getElem?_eq_getElem (show n * 8 + 1 < xs.length by omega), Nat.mul_comm]
      | 2, _ => simp [List.getElem_take, List.getElem_drop, List.getD_eq_getElem?_getD, List.getElem?_eq_getElem (show n * 8 + 2 < xs.length by omega), Nat.mul_comm]
      | 3, _ => simp [List.getElem_take, List.getElem_drop, List.getD_eq_getElem?_getD, List.getElem?_eq_getElem (show n * 8 + 3 < xs.length by omega), Nat.mul_comm]
      | 4, _ => simp [List.getElem_take, List.getElem_drop, List.getD_eq_getElem?_getD, List.getElem?_eq_getElem (show n * 8 + 4 < xs.length by omega), Nat.mul_comm]
      | 5, _ => simp [List.getElem_take, List.getElem_drop, List.getD_eq_getElem?_getD, List.getElem?_eq_getElem (show n * 8 + 5 < xs.length by omega), Nat.mul_comm]
      | 6, _ => simp [List.getElem_take, List.getElem_drop, List.getD_eq_getElem?_getD, List.getElem?_eq_getElem (show n * 8 + 6 < xs.length by omega), Nat.mul_comm]
      | 7, _ => simp [List.getElem_take, List.getElem_drop, List.getD_eq_getElem?_getD, List.getElem?_eq_getElem (show n * 8 + 7 < xs.length by omega), Nat.mul_comm]

/-- What All answers: a row of its own with the words xs. -/
def AllPost (n : Nat) (xs : List Int) (w : World) (e : Ending) (w' : World) : Prop :=
  ∃ g, e = .returned (.slice (some ⟨g, 0, none⟩) n n) ∧ w.heap.size ≤ g ∧ w'.heap[g]? = some (.cells (xs.map (Value.int .u64)).toArray 34 (0, 0)) ∧ Below w.heap.size w w'

theorem all_any (p b n : Nat) (xs : List Int) (w : World) (h : MemAt w p b n xs) (hn : n ≤ 64) : Calls Try.prog 18 #[.pointer (some ⟨p, 0, none⟩)] w (AllPost n xs w) := by
  refine (callsIn_wide.1 (all_in p b n xs w h hn)).mono ?_
  rintro e w' ⟨g, rfl, ⟨hl, h1 | ⟨g', cap, cur, hv, hb, hrow, h3, h4, hs, ht⟩⟩, hB⟩
  · cases h1.1
  · simp only [Value.slice.injEq, Option.some.injEq, Addr.mk.injEq, and_true, true_and] at hv
    obtain ⟨rfl, rfl⟩ := hv
    refine ⟨g, rfl, hb, ?_, hB⟩
    rw [hrow]
    have hlen := h.len
    rw [flat_lines xs n (by omega), List.take_of_length_le (l := xs) (by omega), List.take_of_length_le (by simp [hs])] at ht
    rw [← ht]

/-- What Copy answers: a memory of its own with the words xs. -/
def CopyPost (n : Nat) (xs : List Int) (w : World) (e : Ending) (w' : World) : Prop :=
  ∃ p b, e = .returned (.pointer (some ⟨p, 0, none⟩)) ∧ MemAt w' p b n xs ∧ w.heap.size ≤ p ∧ w.heap.size ≤ b ∧ Below w.heap.size w w'

set_option maxHeartbeats 400000 in
theorem copy_any (p b n : Nat) (xs : List Int) (w : World) (h : MemAt w p b n xs) (hn : n ≤ 64) : Calls Try.prog 17 #[.pointer (some ⟨p, 0, none⟩)] w (CopyPost n xs w) := by
  have hl := h.len
  go_enter Try.func17, Try.ntmps17
  go_wp2_with (go_at_call 18; refine (all_any p b n xs w h hn).mono ?_; rintro e w1 ⟨g, rfl, hg, hrow, hB⟩)
  go_ret
  have hlt := lt_of_block hrow
  exact ⟨w1.heap.size, g, rfl, ⟨by simp, by omega, hl, by rw [Below.heap_alloc _ _ _ hlt]; exact hrow⟩, hB.size, hg, hB.alloc hB.size _⟩

end Go.Proofs.Ytjebkbpljbohcaa
