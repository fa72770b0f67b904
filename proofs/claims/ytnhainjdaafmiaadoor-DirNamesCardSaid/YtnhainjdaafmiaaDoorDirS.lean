/- The directory: slices.Delete of one message. Conditions: those stated in each theorem. -/
import Derived.Test.YtnhainjdaafmiaaDoorDirR
namespace Go.Proofs.YtnhainjdaafmiaaDoor
open Go.RowKit Go.BigFrame

/-- A clear. -/
noncomputable def clrS (ty : TypeId) (xs : Array Value) : Sem Value := Builtin.clear_ #[24] ty xs
theorem clrS_eq (ty : TypeId) (xs : Array Value) : Builtin.clear_ #[24] ty xs = clrS ty xs := rfl
theorem clear_one (ty : TypeId) (W : World) (g q c : Nat) (hth : W.there g q 11) : (clrS ty #[.slice (some ⟨g, q, none⟩) 1 c]).run Tryd.prog W = .ok (.tuple #[]) (W.setCells g q MsgV.zero.cells) := by
  have hst := run_storeCells_cells (P := Tryd.prog) g q MsgV.zero.cells 0 W (by rw [Nat.add_zero]; exact fun j hj => (hth j (by rw [MsgV.len] at hj; exact hj)).1) (by rw [Nat.add_zero]; exact fun j hj => (hth j (by rw [MsgV.len] at hj; exact hj)).2) (fun u hu => by simp only [MsgV.cells, List.mem_cons, List.not_mem_nil, or_false] at hu; rcases hu with rfl | rfl | rfl | rfl | rfl | rfl | rfl | rfl | rfl | rfl | rfl <;> rfl)
  rw [Nat.add_zero] at hst
  have hz : (Builtin.zeroCells (Value.agg #[.int .i64 0, .int .i64 0, .int .i64 0, .int .u64 0, .int .u64 0, .int .u64 0, .int .u64 0, .int .u64 0, .int .u64 0, .int .u64 0, .int .u64 0]).cells 1).toList = MsgV.zero.cells := by kernel_rfl
  unfold clrS
  simp [Builtin.clear_, run_underlying Tryd.underlying24, hz, hst]

/-- Stores behind a row. -/
theorem owns_tail {lo : Nat} {e : TypeId} {size g cap n : Nat} {xs : List Value} : ∀ (vs : List Value) (q : Nat) {w : World}, n * size ≤ q → w.ownsRow lo e size (.slice (some ⟨g, 0, none⟩) n cap) n xs → (w.setCells g q vs).ownsRow lo e size (.slice (some ⟨g, 0, none⟩) n cap) n xs
  | [], _, _, _, h => h
  | v :: r, q, w, hq, h => by
    refine owns_tail r (q + 1) (by omega) ?_
    refine ⟨h.1, ?_⟩
    rcases h.2 with ⟨h0, _⟩ | ⟨g', cap', cur, h0, h1, h2, h3, h4, h5, h6⟩
    · cases h0
    · cases h0
      exact .inr ⟨g, cap, cur.setIfInBounds q v, rfl, h1, row_setCell w g q v cur e (0, 0) h2, h3, h4, by simpa using h5, by rw [Array.toList_setIfInBounds, List.take_set_of_le hq]; exact h6⟩
/-- A shorter view of a row. -/
theorem owns_take {lo : Nat} {e : TypeId} {size g cap n k : Nat} {xs : List Value} {w : World} (h : w.ownsRow lo e size (.slice (some ⟨g, 0, none⟩) n cap) n xs) (hk : k ≤ n) : w.ownsRow lo e size (.slice (some ⟨g, 0, none⟩) k cap) k (xs.take (k * size)) := by
  have hle : k * size ≤ n * size := Nat.mul_le_mul_right _ hk
  refine ⟨by rw [List.length_take, h.1]; omega, ?_⟩
  rcases h.2 with ⟨h0, _⟩ | ⟨g', cap', cur, h0, h1, h2, h3, h4, h5, h6⟩
  · cases h0
  · cases h0
    exact .inr ⟨g, cap, cur, rfl, h1, h2, by omega, h4, h5, by rw [← h6, List.take_take]; congr 1; omega⟩
theorem flat_take (ms : List MsgV) (k : Nat) : (ms.flatMap MsgV.cells).take (k * 11) = (ms.take k).flatMap MsgV.cells := by
  induction ms generalizing k with
  | nil => simp
  | cons m r ih =>
    cases k with
    | zero => simp
    | succ k =>
      rw [List.flatMap_cons, List.take_succ_cons, List.flatMap_cons, List.take_append, MsgV.len, List.take_of_length_le (by rw [MsgV.len]; omega), ← ih k]
      congr 2
      omega
theorem flat_drop (ms : List MsgV) (k : Nat) : (ms.flatMap MsgV.cells).drop (k * 11) = (ms.drop k).flatMap MsgV.cells := by
  induction ms generalizing k with
  | nil => simp
  | cons m r ih =>
    cases k with
    | zero => simp
    | succ k =>
      rw [List.flatMap_cons, List.drop_succ_cons, List.drop_append, MsgV.len, List.drop_of_length_le (by rw [MsgV.len]; omega), ← ih k, List.nil_append]
      congr 1
      omega
theorem flat_length (ms : List MsgV) : (ms.flatMap MsgV.cells).length = ms.length * 11 := by
  induction ms with
  | nil => rfl
  | cons m r ih => rw [List.flatMap_cons, List.length_append, ih, MsgV.len, List.length_cons]; omega
theorem owns_there {lo : Nat} {e : TypeId} {size g cap n q k : Nat} {xs : List Value} {w : World} (h : w.ownsRow lo e size (.slice (some ⟨g, 0, none⟩) n cap) n xs) (hq : q + k ≤ cap * size) : w.there g q k := fun j hj => by
  rcases h.2 with ⟨h0, _⟩ | ⟨g', cap', cur, h0, h1, h2, h3, h4, h5, h6⟩
  · cases h0
  · cases h0
    have hlt : q + j < cur.size := by omega
    exact ⟨by simp [World.cell?, h2, Array.getElem?_eq_getElem hlt], by simp [World.frozen?, h2]⟩
attribute [local go_sem ↓ high] appS_eq clrS_eq

set_option maxRecDepth 100000 in
set_option maxHeartbeats 2000000 in
theorem delete_any (lo g cap i : Nat) (ms : List MsgV) (w : World) (hi : i < ms.length) (hl : ms.length ≤ 1000000) (hown : w.ownsRow lo 45 11 (.slice (some ⟨g, 0, none⟩) ms.length cap) ms.length (ms.flatMap MsgV.cells)) :
    Calls Tryd.prog 64 #[.slice (some ⟨g, 0, none⟩) ms.length cap, .int .i64 i, .int .i64 ((i : Int) + 1)] w fun e w' =>
      e = .returned (.slice (some ⟨g, 0, none⟩) (ms.eraseIdx i).length cap) ∧ w'.ownsRow lo 45 11 (.slice (some ⟨g, 0, none⟩) (ms.eraseIdx i).length cap) (ms.eraseIdx i).length ((ms.eraseIdx i).flatMap MsgV.cells) ∧ Tch (· = g) w w' := by
  have hcap : ms.length ≤ cap ∧ cap ≤ maxLen := by
    rcases hown.2 with ⟨h0, _⟩ | ⟨g', cap', cur, h0, h1, h2, h3, h4, h5, h6⟩
    · cases h0
    · cases h0; exact ⟨h3, h4⟩
  obtain ⟨hc1, hc2⟩ := hcap
  unfold maxLen at hc2
  have hown1 := owns_take hown (show i ≤ ms.length by omega)
  rw [flat_take] at hown1
  obtain ⟨i0, hi0, hz0, hz1, hz2⟩ := info_parts Tryd.infoMsg
  obtain ⟨A, hA, hsrc⟩ : ∃ A : Addr, (if cap = i + 1 then (⟨g, 0, none⟩ : Addr) else ⟨g, (i + 1) * 11, none⟩) = A ∧ ∀ t u, ((ms.drop (i + 1)).flatMap MsgV.cells)[t]? = some u → w.drew.cell? (A.add t) = some u := by
    by_cases h : cap = i + 1
    · refine ⟨⟨g, 0, none⟩, by simp [h], fun t u hu => ?_⟩
      have : (ms.drop (i + 1)) = [] := List.drop_of_length_le (by omega)
      rw [this] at hu; simp at hu
    · refine ⟨⟨g, (i + 1) * 11, none⟩, by simp [h], fun t u hu => ?_⟩
      rw [← flat_drop, List.getElem?_drop] at hu
      rw [Addr.add_lit]
      exact (owns_cell hown rfl hu).1
  obtain ⟨w1, hap, hown2, hgr⟩ := run_append_fits (P := Tryd.prog) (w := w.drew) lo 24 24 45 i0 11 Tryd.underlying24 hi0 hz1 g i cap _ (show w.drew.ownsRow _ _ _ _ _ _ from hown1) A (ms.length - (i + 1)) (cap - (i + 1)) ((ms.drop (i + 1)).flatMap MsgV.cells) (by rw [flat_length, List.length_drop]) hsrc (fun u hu => by
    obtain ⟨m, _, hu⟩ := List.mem_flatMap.1 hu
    simp only [MsgV.cells, List.mem_cons, List.not_mem_nil, or_false] at hu; rcases hu with rfl | rfl | rfl | rfl | rfl | rfl | rfl | rfl | rfl | rfl | rfl <;> rfl) (by omega)
  have hap' : (appS #[.slice (some ⟨g, 0, none⟩) i cap, .slice (some A) (ms.length - (i + 1)) (cap - (i + 1))]).run Tryd.prog w.drew = .ok (.slice (some ⟨g, 0, none⟩) (i + (ms.length - (i + 1))) cap) w1 := hap
  obtain ⟨k, hk⟩ : ∃ k, ms.length = k + 1 := ⟨ms.length - 1, by omega⟩
  have hlen : i + (ms.length - (i + 1)) = k := by omega
  have hel : (ms.eraseIdx i).length = k := by rw [List.length_eraseIdx_of_lt hi]; omega
  have hee : (ms.eraseIdx i).flatMap MsgV.cells = (ms.take i).flatMap MsgV.cells ++ (ms.drop (i + 1)).flatMap MsgV.cells := by rw [List.eraseIdx_eq_take_drop_succ, List.flatMap_append]
  rw [← hee, hlen] at hown2
  rw [hlen] at hap'
  have hth := owns_there (q := k * 11) (k := 11) hown2 (by omega)
  have hclr := fun ty c => clear_one ty w1 g (k * 11) c hth
  have hT : Tch (· = g) w w1 := (Tch.refl _ w).drew.grown hgr (fun k e => by cases e; exact .inl rfl)
  have Hf := Lib.hid (show (w1.setCells g (k * 11) MsgV.zero.cells).ownsRow lo 45 11 (.slice (some ⟨g, 0, none⟩) (ms.eraseIdx i).length cap) (ms.eraseIdx i).length ((ms.eraseIdx i).flatMap MsgV.cells) ∧ Tch (· = g) w (w1.setCells g (k * 11) MsgV.zero.cells) from by
    rw [hel]
    exact ⟨owns_tail _ _ (Nat.le_refl _) hown2, Tch.setCells (C := (· = g)) (.inl rfl) _ _ hT⟩)
  have HE := Lib.hid (And.intro hel hee)
  have HA := Lib.hid hA; clear hA hsrc hown1 hown2 hown hT hgr hap hth hel hee hi0 hz0 hz1 hz2
  rw [hk] at hap' hi hl hc1 ⊢
  have HK := Lib.hid hk; clear hk hlen
  by_cases hcj : cap = i + 1
  · have hA' : A = ⟨g, 0, none⟩ := by rw [← HA.out, if_pos hcj]
    subst hA' hcj
    obtain rfl : i = k := by omega
    simp only [Nat.sub_self] at hap'
    go_enter Tryd.func64, Tryd.ntmps64
    go_wp2
    go_region
    all_goals
      go_wp2
      go_ret
      exact ⟨by rw [HE.out.1]; rfl, Hf.out⟩
  · have hA' : A = ⟨g, (i + 1) * 11, none⟩ := by rw [← HA.out, if_neg hcj]
    subst hA'
    simp only [Nat.add_sub_add_right] at hap'
    go_enter Tryd.func64, Tryd.ntmps64
    go_wp2
    go_region
    all_goals
      go_wp2
      go_ret
      exact ⟨by rw [HE.out.1]; rfl, Hf.out⟩

end Go.Proofs.YtnhainjdaafmiaaDoor
