/- New. Conditions: those stated in each theorem. -/
import Derived.Test.YtddajnpichchfaaOps4
namespace Go.Proofs.Ytddajnpichchfaa
open Go.RowKit

theorem make_rows1 (w : World) : (Instr.makeSlice 27 (.int .i64 1) (.int .i64 1)).run Try.prog w = .ok (.slice (some ⟨w.heap.size, 0, none⟩) 1 1) (w.alloc (.cells ((List.replicate 1 Ent.zero).flatMap Ent.cells).toArray 42)) := by kernel_rfl
theorem make_rows2 (w : World) : (Instr.makeSlice 27 (.int .i64 2) (.int .i64 2)).run Try.prog w = .ok (.slice (some ⟨w.heap.size, 0, none⟩) 2 2) (w.alloc (.cells ((List.replicate 2 Ent.zero).flatMap Ent.cells).toArray 42)) := by kernel_rfl
theorem make_rows3 (w : World) : (Instr.makeSlice 27 (.int .i64 3) (.int .i64 3)).run Try.prog w = .ok (.slice (some ⟨w.heap.size, 0, none⟩) 3 3) (w.alloc (.cells ((List.replicate 3 Ent.zero).flatMap Ent.cells).toArray 42)) := by kernel_rfl
theorem make_rows4 (w : World) : (Instr.makeSlice 27 (.int .i64 4) (.int .i64 4)).run Try.prog w = .ok (.slice (some ⟨w.heap.size, 0, none⟩) 4 4) (w.alloc (.cells ((List.replicate 4 Ent.zero).flatMap Ent.cells).toArray 42)) := by kernel_rfl
theorem make_rows (ways : Nat) (h1 : 1 ≤ ways) (h4 : ways ≤ 4) (w : World) : (Instr.makeSlice 27 (.int .i64 ways) (.int .i64 ways)).run Try.prog w =
    .ok (.slice (some ⟨w.heap.size, 0, none⟩) ways ways) (w.alloc (.cells ((List.replicate ways Ent.zero).flatMap Ent.cells).toArray 42)) := by
  match ways, h1, h4 with
  | 1, _, _ => exact make_rows1 w
  | 2, _, _ => exact make_rows2 w
  | 3, _, _ => exact make_rows3 w
  | 4, _, _ => exact make_rows4 w
theorem make_sets1 (w : World) : (Instr.makeSlice 85 (.int .i64 1) (.int .i64 1)).run Try.prog w = .ok (.slice (some ⟨w.heap.size, 0, none⟩) 1 1) (w.alloc (.cells (List.replicate 1 (Value.slice none 0 0)).toArray 27)) := by kernel_rfl
theorem make_sets2 (w : World) : (Instr.makeSlice 85 (.int .i64 2) (.int .i64 2)).run Try.prog w = .ok (.slice (some ⟨w.heap.size, 0, none⟩) 2 2) (w.alloc (.cells (List.replicate 2 (Value.slice none 0 0)).toArray 27)) := by kernel_rfl
theorem make_sets3 (w : World) : (Instr.makeSlice 85 (.int .i64 3) (.int .i64 3)).run Try.prog w = .ok (.slice (some ⟨w.heap.size, 0, none⟩) 3 3) (w.alloc (.cells (List.replicate 3 (Value.slice none 0 0)).toArray 27)) := by kernel_rfl
theorem make_sets4 (w : World) : (Instr.makeSlice 85 (.int .i64 4) (.int .i64 4)).run Try.prog w = .ok (.slice (some ⟨w.heap.size, 0, none⟩) 4 4) (w.alloc (.cells (List.replicate 4 (Value.slice none 0 0)).toArray 27)) := by kernel_rfl
theorem make_sets5 (w : World) : (Instr.makeSlice 85 (.int .i64 5) (.int .i64 5)).run Try.prog w = .ok (.slice (some ⟨w.heap.size, 0, none⟩) 5 5) (w.alloc (.cells (List.replicate 5 (Value.slice none 0 0)).toArray 27)) := by kernel_rfl
theorem make_sets6 (w : World) : (Instr.makeSlice 85 (.int .i64 6) (.int .i64 6)).run Try.prog w = .ok (.slice (some ⟨w.heap.size, 0, none⟩) 6 6) (w.alloc (.cells (List.replicate 6 (Value.slice none 0 0)).toArray 27)) := by kernel_rfl
theorem make_sets7 (w : World) : (Instr.makeSlice 85 (.int .i64 7) (.int .i64 7)).run Try.prog w = .ok (.slice (some ⟨w.heap.size, 0, none⟩) 7 7) (w.alloc (.cells (List.replicate 7 (Value.slice none 0 0)).toArray 27)) := by kernel_rfl
theorem make_sets8 (w : World) : (Instr.makeSlice 85 (.int .i64 8) (.int .i64 8)).run Try.prog w = .ok (.slice (some ⟨w.heap.size, 0, none⟩) 8 8) (w.alloc (.cells (List.replicate 8 (Value.slice none 0 0)).toArray 27)) := by kernel_rfl
theorem make_sets (n : Nat) (h1 : 1 ≤ n) (h8 : n ≤ 8) (w : World) : (Instr.makeSlice 85 (.int .i64 n) (.int .i64 n)).run Try.prog w =
    .ok (.slice (some ⟨w.heap.size, 0, none⟩) n n) (w.alloc (.cells (List.replicate n (Value.slice none 0 0)).toArray 27)) := by
  match n, h1, h8 with
  | 1, _, _ => exact make_sets1 w
  | 2, _, _ => exact make_sets2 w
  | 3, _, _ => exact make_sets3 w
  | 4, _, _ => exact make_sets4 w
  | 5, _, _ => exact make_sets5 w
  | 6, _, _ => exact make_sets6 w
  | 7, _, _ => exact make_sets7 w
  | 8, _, _ => exact make_sets8 w

def newSets (n ways : Nat) : List (List Ent) := List.replicate n (List.replicate ways Ent.zero)

/-- What New leaves. -/
def NewPost (n ways : Nat) (w : World) (e : Ending) (w' : World) : Prop :=
  ∃ p S bs, e = .returned (.tuple #[.pointer (some ⟨p, 0, none⟩), .int .i64 0]) ∧ bs.length = n ∧ CacheAt w' p S bs ways (newSets n ways) 0 ∧ Below w.heap.size w w' ∧ w.heap.size ≤ p ∧ w.heap.size ≤ S ∧ ∀ b ∈ bs, w.heap.size ≤ b

/-- Between two rounds of New. -/
structure NewI (n ways k : Nat) (w W : World) (bs : List Nat) : Prop where
  upto : k ≤ n
  many : bs.length = k
  sets : Holds W w.heap.size 27 (bs.map (fun b => .slice (some ⟨b, 0, none⟩) ways ways) ++ List.replicate (n - k) (.slice none 0 0))
  head : Holds W (w.heap.size + 1) 87 [.slice (some ⟨w.heap.size, 0, none⟩) n n, .int .i64 0]
  rows : ∀ b ∈ bs, Holds W b 42 ((List.replicate ways Ent.zero).flatMap Ent.cells)
  low : ∀ b ∈ bs, w.heap.size + 1 < b ∧ b < W.heap.size
  nd : bs.Nodup
  bel : Below w.heap.size w W

theorem NewI.next {n ways k : Nat} {w W : World} {bs : List Nat} (h : NewI n ways k w W bs) (hk : k < n) :
    NewI n ways (k + 1) w (((W.setCell ⟨w.heap.size, k, none⟩ (.slice (some ⟨W.heap.size, 0, none⟩) ways ways)).alloc (.cells ((List.replicate ways Ent.zero).flatMap Ent.cells).toArray 42)).drew) (bs ++ [W.heap.size]) := by
  have hS := h.sets.lt
  have hp := h.head.lt
  have hn : Holds ((W.setCell ⟨w.heap.size, k, none⟩ (.slice (some ⟨W.heap.size, 0, none⟩) ways ways)).alloc (.cells ((List.replicate ways Ent.zero).flatMap Ent.cells).toArray 42)) W.heap.size 42 ((List.replicate ways Ent.zero).flatMap Ent.cells) := by
    have := Holds.new (W.setCell ⟨w.heap.size, k, none⟩ (.slice (some ⟨W.heap.size, 0, none⟩) ways ways)) 42 ((List.replicate ways Ent.zero).flatMap Ent.cells)
    rwa [World.size_setCell] at this
  refine ⟨hk, by simp [h.many], ?_, ?_, ?_, ?_, ?_, ?_⟩
  · have := (h.sets.set k (.slice (some ⟨W.heap.size, 0, none⟩) ways ways)).alloc (.cells ((List.replicate ways Ent.zero).flatMap Ent.cells).toArray 42)
    rw [List.set_append_right _ _ (by simp [h.many]), List.length_map, h.many, Nat.sub_self, show n - k = (n - (k + 1)) + 1 from by omega, List.replicate_succ, List.set_cons_zero] at this
    rw [List.map_append, List.append_assoc]
    exact this
  · exact (h.head.other (by simp) _).alloc _
  · intro b hb
    rcases List.mem_append.1 hb with hb | hb
    · exact ((h.rows b hb).other (by have := (h.low b hb).1; show b ≠ w.heap.size; omega) _).alloc _
    · obtain rfl : b = W.heap.size := by simpa using hb
      exact hn
  · intro b hb
    have hsz : (((W.setCell ⟨w.heap.size, k, none⟩ (.slice (some ⟨W.heap.size, 0, none⟩) ways ways)).alloc (.cells ((List.replicate ways Ent.zero).flatMap Ent.cells).toArray 42)).drew).heap.size = W.heap.size + 1 := by simp
    rw [hsz]
    rcases List.mem_append.1 hb with hb | hb
    · have := h.low b hb; omega
    · obtain rfl : b = W.heap.size := by simpa using hb
      omega
  · rw [List.nodup_append]
    refine ⟨h.nd, by simp, fun a ha b hb => ?_⟩
    obtain rfl : b = W.heap.size := by simpa using hb
    have := (h.low a ha).2
    omega
  · exact ((h.bel.setCell (Nat.le_refl _) _).alloc (by rw [World.size_setCell]; exact h.bel.size) _).drew

theorem NewI.done {n ways : Nat} {w W : World} {bs : List Nat} (h : NewI n ways n w W bs) (h1 : 1 ≤ n) (h8 : n ≤ 8) (w1 : 1 ≤ ways) (w4 : ways ≤ 4) : NewPost n ways w (.returned (.tuple #[.pointer (some ⟨w.heap.size + 1, 0, none⟩), .int .i64 0])) W := by
  refine ⟨_, w.heap.size, bs, rfl, h.many, ⟨?_, ?_, ?_, by simp [newSets, h.many], ?_, by rw [h.many]; exact h1, by rw [h.many]; exact h8, w1, w4, ?_⟩, h.bel, by omega, Nat.le_refl _, fun b hb => by have := (h.low b hb).1; omega⟩
  · rw [h.many]; exact h.head
  · have := h.sets
    rw [Nat.sub_self, List.replicate_zero, List.append_nil] at this
    exact this
  · intro i b s hb hs
    have : s = List.replicate ways Ent.zero := by
      have := List.mem_of_getElem? hs
      simp only [newSets, List.mem_replicate] at this
      exact this.2
    rw [this]
    exact h.rows b (List.mem_of_getElem? hb)
  · intro s hs
    simp only [newSets, List.mem_replicate] at hs
    rw [hs.2]; simp
  · simp only [List.nodup_cons, List.mem_cons, not_or]
    exact ⟨⟨by omega, fun hb => by have := (h.low _ hb).1; omega⟩, fun hb => by have := (h.low _ hb).1; omega, h.nd⟩

set_option maxHeartbeats 1000000 in
theorem new_ok (n ways : Nat) (w : World) (h1 : 1 ≤ n) (h8 : n ≤ 8) (hw1 : 1 ≤ ways) (hw4 : ways ≤ 4) : Calls Try.prog 7 #[.int .i64 n, .int .i64 ways] w (NewPost n ways w) := by
  have hm := make_sets n h1 h8
  have hr := make_rows ways hw1 hw4
  have g1 : decide ((n : Int) < 1) = false := by simp; omega
  have g2 : decide ((8 : Int) < n) = false := by simp; omega
  have g3 : decide ((ways : Int) < 1) = false := by simp; omega
  have g4 : decide ((4 : Int) < ways) = false := by simp; omega
  have h0 : NewI n ways 0 w ((w.alloc (.cells (List.replicate n (Value.slice none 0 0)).toArray 27)).alloc (.cells #[.slice (some ⟨w.heap.size, 0, none⟩) n n, .int .i64 0] 87)) [] := by
    refine ⟨Nat.zero_le _, rfl, (Holds.new w 27 _).alloc _, ?_, fun b hb => (by cases hb), fun b hb => (by cases hb), List.nodup_nil, ((Below.refl _ w).alloc (Nat.le_refl _) _).alloc (by simp) _⟩
    have := Holds.new (w.alloc (.cells (List.replicate n (Value.slice none 0 0)).toArray 27)) 87 [.slice (some ⟨w.heap.size, 0, none⟩) n n, .int .i64 0]
    rwa [World.size_alloc] at this
  have H0 := Lib.hid h0; clear h0
  go_enter Try.func7, Try.ntmps7
  go_wp2
  go_loopw [31] (fun i wr => ∃ (k : Nat) (bs : List Nat), i = .int .i64 k ∧ NewI n ways k w wr bs) (fun i _ => n - (intOf i).toNat)
  case atStart => exact ⟨0, [], rfl, by simpa using H0.out⟩
  case round =>
    obtain ⟨k, bs, rfl, hi⟩ := hrel
    by_cases hk : k < n
    · have c1 : wr.cell? ⟨w.heap.size + 1, 0, none⟩ = some (.slice (some ⟨w.heap.size, 0, none⟩) n n) := hi.head.cell (i := 0) rfl
      have cS : wr.cell? ⟨w.heap.size, k, none⟩ = some (.slice none 0 0) := hi.sets.cell (by rw [List.getElem?_append_right (by simp [hi.many])]; rw [List.length_map, hi.many, Nat.sub_self, show n - k = (n - k - 1) + 1 from by omega]; rfl)
      have fS := hi.sets.free k
      have hS := hi.sets.lt
      have hp := hi.head.lt
      have HI := Lib.hid hi; clear hi
      go_wp2
      go_region
      all_goals
        go_wp2
        go_roundw
        case rel => exact ⟨k + 1, _, by go_num, HI.out.next hk⟩
        case measure => simp [intOf]; omega
    · obtain rfl : k = n := by have := hi.upto; omega
      have HD := Lib.hid (hi.done h1 h8 hw1 hw4); clear hi
      go_wp2
      go_ret2
      exact HD.out

set_option maxHeartbeats 400000 in
theorem new_bad (n ways : Int) (w : World) (h : n < 1 ∨ 8 < n ∨ ways < 1 ∨ 4 < ways) : Calls Try.prog 7 #[.int .i64 n, .int .i64 ways] w fun e w' => e = .returned (.tuple #[.pointer none, .int .i64 2]) ∧ w = w' := by
  by_cases h1 : n < 1
  · go_enter Try.func7, Try.ntmps7
    go_wp2
    go_ret2
    exact ⟨rfl, rfl⟩
  · by_cases h2 : 8 < n
    · go_enter Try.func7, Try.ntmps7
      go_wp2
      go_ret2
      exact ⟨rfl, rfl⟩
    · by_cases h3 : ways < 1
      · go_enter Try.func7, Try.ntmps7
        go_wp2
        go_ret2
        exact ⟨rfl, rfl⟩
      · have h4 : 4 < ways := by omega
        go_enter Try.func7, Try.ntmps7
        go_wp2
        go_ret2
        exact ⟨rfl, rfl⟩

end Go.Proofs.Ytddajnpichchfaa
