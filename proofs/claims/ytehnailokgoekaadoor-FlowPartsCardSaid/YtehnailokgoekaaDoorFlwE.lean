/- At most two numbers, sorted and each once: the library's two calls. Conditions: those stated in each theorem. -/
import Derived.Test.YtehnailokgoekaaDoorFlwC
import Derived.Test.YtehnailokgoekaaDoorOwn0
namespace Go.Proofs.YtehnailokgoekaaDoor
open Go.RowKit Go.BigFrame Go.Shelf Go.Lib Go.Sort

def srt : List Nat → List Nat
  | [a, b] => if a ≤ b then [a, b] else [b, a]
  | l => l
def once : List Nat → List Nat
  | [a, b] => if a = b then [a] else [a, b]
  | l => l
theorem once_srt : ∀ (l : List Nat), l.length ≤ 2 → once (srt l) = tidy l
  | [], _ => rfl
  | [_], _ => rfl
  | [a, b], _ => by
    simp only [srt, tidy]
    by_cases h1 : a < b
    · rw [if_pos (by omega), if_pos h1]; simp only [once]; rw [if_neg (by omega)]
    · by_cases h2 : b < a
      · rw [if_neg (by omega), if_neg h1, if_pos h2]; simp only [once]; rw [if_neg (by omega)]
      · rw [if_pos (by omega), if_neg h1, if_neg h2]; simp only [once]; rw [if_pos (by omega)]
  | _ :: _ :: _ :: _, h => by simp at h
theorem srt_len : ∀ (l : List Nat), (srt l).length = l.length
  | [] => rfl
  | [_] => rfl
  | [a, b] => by simp only [srt]; split <;> simp
  | _ :: _ :: _ :: _ => rfl
def intsN (l : List Nat) : List Int := l.map fun x : Nat => (x : Int)
theorem ints_len (l : List Nat) : (intsN l).length = l.length := by simp [intsN]
def cellsN (l : List Nat) : List Value := l.map fun x => .int .i64 (x : Nat)
theorem cellsN_ints (l : List Nat) : cellsN l = (intsN l).map (Value.int .i64) := by simp [cellsN, intsN]
theorem srt_merge : ∀ (l : List Nat), l.length ≤ 2 → ((intsN l).mergeSort fun x y => decide (x ≤ y)) = intsN (srt l)
  | [], _ => by simp [intsN, srt]
  | [a], _ => by simp [intsN, srt]
  | [a, b], _ => by
    by_cases h : a ≤ b
    · have h' : (a : Int) ≤ b := by omega
      simp [intsN, srt, h, h', List.mergeSort, List.MergeSort.Internal.splitInTwo, List.merge]
    · have h' : ¬ (a : Int) ≤ b := by omega
      simp [intsN, srt, h, h', List.mergeSort, List.MergeSort.Internal.splitInTwo, List.merge]
  | _ :: _ :: _ :: _, h => by simp at h
theorem once_compact : ∀ (l : List Nat), l.length ≤ 2 → compactUpTo (intsN l).toArray (intsN l).toArray.size = intsN (once l)
  | [], _ => by simp [intsN, once, compactUpTo]
  | [a], _ => by simp [intsN, once, compactUpTo, keeps]
  | [a, b], _ => by
    by_cases h : a = b
    · subst h
      simp [intsN, once, compactUpTo, keeps, List.range_succ]
    · have h' : ¬ (b : Int) = a := by omega
      simp [intsN, once, compactUpTo, keeps, List.range_succ, h, h']
  | _ :: _ :: _ :: _, h => by simp at h

theorem owns_putM {w : World} {lo : Nat} {e : TypeId} {g cap n : Nat} {xs : List Value} (h : w.ownsRow lo e 1 (.slice (some ⟨g, 0, none⟩) n cap) n xs) (ys : List Int) (hy : ys.length = n) (m : Nat) (hm : m ≤ n) (os : Array Obj) (q : Nat) :
    (grow (putRow (Value.int .i64) (Sort.ahead w q) g 0 ys.toArray) os).ownsRow lo e 1 (.slice (some ⟨g, 0, none⟩) m cap) m ((ys.take m).map (Value.int .i64)) := by
  rcases h.2 with ⟨h1, _⟩ | ⟨g', cap', cur, hv, h1, h2, h3, h4, h5, h6⟩
  · cases h1
  · simp only [Value.slice.injEq, Option.some.injEq, Addr.mk.injEq, and_true, true_and] at hv
    obtain ⟨rfl, rfl⟩ := hv
    have hlt := (Array.getElem?_eq_some_iff.1 h2).1
    have hgh : (grow (putRow (Value.int .i64) (Sort.ahead w q) g 0 ys.toArray) os).heap[g]? = some (.cells (putCells (Value.int .i64) 0 ys.toArray cur) e (0, 0)) := by
      rw [Go.Sort.heap_grow_old _ _ (by rw [size_putRow]; exact hlt)]
      unfold putRow mapBlock
      show (w.heap.modify g _)[g]? = _
      rw [Array.getElem?_modify, if_pos rfl, h2]
      rfl
    refine ⟨by simp; omega, .inr ⟨g, cap, _, rfl, h1, hgh, by omega, h4, by simpa [putCells] using h5, ?_⟩⟩
    apply List.ext_getElem?
    intro i
    rw [List.getElem?_take, Nat.mul_one, List.getElem?_map, List.getElem?_take]
    split
    · rename_i hi
      have hc : i < cur.size := by omega
      have hyi : i < ys.length := by omega
      simp [putCells, Array.getElem?_eq_getElem hc, hyi]
    · rfl
theorem tch_putM (w : World) (g q : Nat) (d : Array Int) (os : Array Obj) : Tch (fun k => k = g) w (grow (putRow (Value.int .i64) (Sort.ahead w q) g 0 d) os) := by
  refine ⟨rfl, rfl, rfl, ?_, ?_⟩
  · simp [grow, putRow, mapBlock, Go.Sort.ahead]
  · intro k hk hc
    rw [Go.Sort.heap_grow_old _ _ (by rw [size_putRow]; exact hk)]
    unfold putRow mapBlock
    show (w.heap.modify g _)[k]? = _
    rw [Array.getElem?_modify, if_neg (fun e => hc e.symm)]
theorem owns_ints {w : World} {lo g cap : Nat} {l : List Nat} (h : w.ownsRow lo 3 1 (.slice (some ⟨g, 0, none⟩) l.length cap) l.length (cellsN l)) : Go.Sort.Holds (Value.int .i64) w g 0 (intsN l).toArray := fun j hj => by
  have hj' : j < l.length := by simpa [intsN] using hj
  rw [Nat.zero_add]
  have := owns_cell h (g := g) rfl (j := j) (u := .int .i64 (l[j] : Nat)) (by simp [cellsN, hj'])
  rw [show (intsN l).toArray[j]! = ((l[j] : Nat) : Int) from by rw [getElem!_pos (intsN l).toArray j hj]; simp [intsN]]
  exact this

theorem sort_any (g cap : Nat) (l : List Nat) (w : World) {lo : Nat} (h : w.ownsRow lo 3 1 (.slice (some ⟨g, 0, none⟩) l.length cap) l.length (cellsN l)) (hl : l.length ≤ 2) :
    Calls Tryd.prog 23 #[.slice (some ⟨g, 0, none⟩) l.length cap] w fun e w' => e = .returned (.tuple #[]) ∧ w'.ownsRow lo 3 1 (.slice (some ⟨g, 0, none⟩) l.length cap) l.length (cellsN (srt l)) ∧ Tch (fun k => k = g) w w' := by
  have hcon := AnyM.slices_Sort_int Tryd.sortI g 0 cap (intsN l) w (owns_ints h) (owns_lt h (g := g) rfl).2 (by rw [ints_len]; omega)
  rw [ints_len] at hcon
  change Calls Tryd.prog 23 _ _ _ at hcon
  rw [srt_merge l hl] at hcon
  refine hcon.mono ?_
  rintro e w' ⟨rfl, q, os, rfl⟩
  refine ⟨rfl, ?_, tch_putM w g q _ os⟩
  have := owns_putM h (intsN (srt l)) (by rw [ints_len, srt_len]) l.length (Nat.le_refl _) os q
  rw [List.take_of_length_le (by rw [ints_len, srt_len]; exact Nat.le_refl _)] at this
  rw [cellsN_ints]; exact this
theorem sort_none (w : World) : Calls Tryd.prog 23 #[.slice none 0 0] w fun e w' => e = .returned (.tuple #[]) ∧ Below w.heap.size w w' := by
  have hcon := AnyM.slices_Sort_int_none Tryd.sortI none 0 w
  change Calls Tryd.prog 23 _ _ _ at hcon
  refine hcon.mono ?_
  rintro e w' ⟨rfl, rfl⟩
  exact ⟨rfl, Below.refl _ _⟩
theorem once_len (l : List Nat) : (once l).length ≤ l.length := by
  unfold once; split
  · split <;> simp
  · exact Nat.le_refl _
theorem compact_any (g cap : Nat) (l : List Nat) (w : World) {lo : Nat} (h : w.ownsRow lo 3 1 (.slice (some ⟨g, 0, none⟩) l.length cap) l.length (cellsN l)) (hl : l.length ≤ 2) :
    Calls Tryd.prog 24 #[.slice (some ⟨g, 0, none⟩) l.length cap] w fun e w' => e = .returned (.slice (some ⟨g, 0, none⟩) (once l).length cap) ∧ w'.ownsRow lo 3 1 (.slice (some ⟨g, 0, none⟩) (once l).length cap) (once l).length (cellsN (once l)) ∧ Tch (fun k => k = g) w w' := by
  have hcap : l.length ≤ cap := by
    rcases h.2 with ⟨h1, _⟩ | ⟨g', cap', cur, hv, h1, h2, h3, _⟩
    · cases h1
    · cases hv; exact h3
  have hsz : (intsN l).toArray.size = l.length := by simp [intsN]
  have hcon := AnyE.slices_Compact Tryd.cptI (Value.int .i64) (fun _ => rfl) (EqlAt.intD _ _ _) (NeqAt.intD _ _ _) (0 : Int) Tryd.zeroValue3 g 0 cap (intsN l).toArray w (owns_ints h) (by rw [hsz]; omega) (by rw [hsz]; exact hcap)
  rw [once_compact l hl, hsz] at hcon
  change Calls Tryd.prog 24 _ _ _ at hcon
  refine hcon.mono ?_
  rintro e w' ⟨rfl, q, rfl⟩
  rw [ints_len]
  have ho := once_len l
  have := owns_putM h (intsN (once l) ++ List.replicate (l.length - (once l).length) 0) (by rw [List.length_append, List.length_replicate, ints_len]; omega) (once l).length ho #[] q
  rw [grow_empty, List.take_append_of_le_length (by rw [ints_len]; exact Nat.le_refl _), List.take_of_length_le (by rw [ints_len]; exact Nat.le_refl _)] at this
  refine ⟨rfl, by rw [cellsN_ints]; exact this, ?_⟩
  have ht := tch_putM w g q (intsN (once l) ++ List.replicate (l.length - (once l).length) 0).toArray #[]
  rwa [grow_empty] at ht
theorem compact_none (w : World) : Calls Tryd.prog 24 #[.slice none 0 0] w fun e w' => e = .returned (.slice none 0 0) ∧ w' = w := by
  go_enter Tryd.func24, Tryd.ntmps24
  go_wp2
  go_ret
  exact ⟨rfl, rfl⟩

end Go.Proofs.YtehnailokgoekaaDoor
