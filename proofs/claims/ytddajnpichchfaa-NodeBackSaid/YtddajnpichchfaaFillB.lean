/- Fill. Conditions: those stated in each theorem. -/
import Derived.Test.YtddajnpichchfaaFillE
namespace Go.Proofs.Ytddajnpichchfaa
open Go.RowKit

theorem toGo_at {w : World} {p S : Nat} {bs : List Nat} {ways : Nat} {ss : List (List Ent)} {u : Int} (h : CacheAt w p S bs ways ss u) (k : Nat) :
    ∃ b, bs[k % bs.length]? = some b ∧ Calls Try.prog 70 #[.pointer (some ⟨p, 0, none⟩), .int .i64 k] w (GoAns b (ss.getD (k % ss.length) []) w) := by
  have hn := h.n1
  have hi : k % bs.length < bs.length := Nat.mod_lt _ hn
  obtain ⟨s, hs, hl, hr⟩ := h.at (List.getElem?_eq_getElem hi)
  refine ⟨bs[k % bs.length], List.getElem?_eq_getElem hi, ?_⟩
  have e1 : ss.getD (k % ss.length) [] = s := by rw [h.many]; simp [List.getD_eq_getElem?_getD, hs]
  rw [e1]
  exact toGo_row p S k bs.length _ ways _ _ s w h.head h.sets (by rw [List.getElem?_map, List.getElem?_eq_getElem hi]; rfl) hn h.n8 hr hl h.w4

/-- The way that a line gets. -/
def Goes (ss : List (List Ent)) (k : Nat) : Option (Nat × Nat) := ((ss.getD (k % ss.length) []).findIdx? (goes (ss.getD (k % ss.length) []))).map fun j => (k % ss.length, j)
theorem Goes.facts {w : World} {p S : Nat} {bs : List Nat} {ways : Nat} {ss : List (List Ent)} {u : Int} (h : CacheAt w p S bs ways ss u) {k i j : Nat} (hf : Goes ss k = some (i, j)) : i = k % bs.length ∧ i < bs.length ∧ j < ways := by
  unfold Goes at hf
  rw [Option.map_eq_some_iff] at hf
  obtain ⟨j', hj, he⟩ := hf
  simp only [Prod.mk.injEq] at he
  obtain ⟨rfl, rfl⟩ := he
  have hil : k % ss.length < ss.length := Nat.mod_lt _ (by rw [h.many]; exact h.n1)
  rw [List.findIdx?_eq_some_iff_getElem] at hj
  obtain ⟨hjl, _⟩ := hj
  have hw : (ss.getD (k % ss.length) []).length = ways := by
    simp only [List.getD_eq_getElem?_getD, List.getElem?_eq_getElem hil, Option.getD_some]; exact h.wide _ (List.getElem_mem hil)
  exact ⟨by rw [h.many], by rw [← h.many]; exact hil, by omega⟩
theorem toGo_some {w : World} {p S : Nat} {bs : List Nat} {ways : Nat} {ss : List (List Ent)} {u : Int} (h : CacheAt w p S bs ways ss u) {k i j b : Nat} (hf : Goes ss k = some (i, j)) (hb : bs[i]? = some b) :
    Calls Try.prog 70 #[.pointer (some ⟨p, 0, none⟩), .int .i64 k] w fun e w' => e = .returned (.pointer (some ⟨b, j * 21, none⟩)) ∧ Below w.heap.size w w' := by
  obtain ⟨hi, _⟩ := Goes.facts h hf
  obtain ⟨b', hb', hc⟩ := toGo_at h k
  subst hi
  rw [hb'] at hb; cases hb
  refine hc.mono ?_
  rintro e w' ⟨hbel, hm⟩
  unfold Goes at hf
  rw [Option.map_eq_some_iff] at hf
  obtain ⟨j', hj, he⟩ := hf
  simp only [Prod.mk.injEq] at he
  obtain ⟨_, rfl⟩ := he
  rw [hj] at hm
  exact ⟨hm, hbel⟩
theorem toGo_none {w : World} {p S : Nat} {bs : List Nat} {ways : Nat} {ss : List (List Ent)} {u : Int} (h : CacheAt w p S bs ways ss u) {k : Nat} (hf : Goes ss k = none) :
    Calls Try.prog 70 #[.pointer (some ⟨p, 0, none⟩), .int .i64 k] w fun e w' => e = .returned (.pointer none) ∧ Below w.heap.size w w' := by
  obtain ⟨b', hb', hc⟩ := toGo_at h k
  refine hc.mono ?_
  rintro e w' ⟨hbel, hm⟩
  unfold Goes at hf
  rw [Option.map_eq_none_iff] at hf
  rw [hf] at hm
  exact ⟨hm, hbel⟩

theorem there_res (w : World) (o : Obj) : ((w.alloc o).alloc (.cells Ent.zero.cells.toArray 42)).there (w.heap.size + 1) 0 21 := by
  have := there_new (w.alloc o) Ent.zero.cells 42 21 rfl
  rwa [World.size_alloc] at this
theorem below_two (w : World) (o o' : Obj) : Below w.heap.size w ((w.alloc o).alloc o') := ((Below.refl _ w).alloc (Nat.le_refl _) _).alloc (by simp) _

set_option maxRecDepth 100000 in
set_option maxHeartbeats 1000000 in
theorem fill_nil (k st : Int) (d : L8) (w : World) : Calls Try.prog 32 #[.pointer none, .int .i64 k, .int .i64 st, .agg #[.int .u64 d.x0, .int .u64 d.x1, .int .u64 d.x2, .int .u64 d.x3, .int .u64 d.x4, .int .u64 d.x5, .int .u64 d.x6, .int .u64 d.x7]] w fun e w' => e = .returned (.tuple #[.agg Ent.zero.cells.toArray, .bool false, .int .i64 1]) ∧ Below w.heap.size w w' := by
  have Hn := Lib.hid (there_res w (.cells #[.int .u64 d.x0, .int .u64 d.x1, .int .u64 d.x2, .int .u64 d.x3, .int .u64 d.x4, .int .u64 d.x5, .int .u64 d.x6, .int .u64 d.x7] 36))
  have HB0 := Lib.hid (below_two w (.cells #[.int .u64 d.x0, .int .u64 d.x1, .int .u64 d.x2, .int .u64 d.x3, .int .u64 d.x4, .int .u64 d.x5, .int .u64 d.x6, .int .u64 d.x7] 36) (.cells Ent.zero.cells.toArray 42))
  have Hs0 : Hid (((w.alloc (.cells #[.int .u64 d.x0, .int .u64 d.x1, .int .u64 d.x2, .int .u64 d.x3, .int .u64 d.x4, .int .u64 d.x5, .int .u64 d.x6, .int .u64 d.x7] 36)).alloc (.cells Ent.zero.cells.toArray 42)).heap.size = w.heap.size + 2) := Lib.hid (by simp)
  go_enter Try.func32, Try.ntmps32
  go_wp2_with (refine wpList_store_mid rfl 42 (.tmp 8) (.tmp 17) rfl (w.heap.size + 1) 0 Ent.zero.cells.toArray rfl rfl ?_ Try.size42 (oneEnt _) ?_; exact Hn.out)
  have hl := Try.load42 Ent.zero (range_set (w := (w.alloc (.cells #[.int .u64 d.x0, .int .u64 d.x1, .int .u64 d.x2, .int .u64 d.x3, .int .u64 d.x4, .int .u64 d.x5, .int .u64 d.x6, .int .u64 d.x7] 36)).alloc (.cells Ent.zero.cells.toArray 42)) (b := w.heap.size + 1) (o := 0) Ent.zero.cells (by rw [Ent.len]; exact Hn.out))
  exact bodyPost_ret (results_ctt rfl rfl hl rfl rfl) rfl ⟨rfl, below_setCells (by omega) _ _ HB0.out⟩

set_option maxRecDepth 100000 in
set_option maxHeartbeats 1000000 in
theorem fill_arg (p : Nat) (k st : Int) (d : L8) (w : World) (h : k < 0 ∨ (st ≠ 1 ∧ st ≠ 2)) : Calls Try.prog 32 #[.pointer (some ⟨p, 0, none⟩), .int .i64 k, .int .i64 st, .agg #[.int .u64 d.x0, .int .u64 d.x1, .int .u64 d.x2, .int .u64 d.x3, .int .u64 d.x4, .int .u64 d.x5, .int .u64 d.x6, .int .u64 d.x7]] w fun e w' => e = .returned (.tuple #[.agg Ent.zero.cells.toArray, .bool false, .int .i64 2]) ∧ Below w.heap.size w w' := by
  have Hn := Lib.hid (there_res w (.cells #[.int .u64 d.x0, .int .u64 d.x1, .int .u64 d.x2, .int .u64 d.x3, .int .u64 d.x4, .int .u64 d.x5, .int .u64 d.x6, .int .u64 d.x7] 36))
  have HB0 := Lib.hid (below_two w (.cells #[.int .u64 d.x0, .int .u64 d.x1, .int .u64 d.x2, .int .u64 d.x3, .int .u64 d.x4, .int .u64 d.x5, .int .u64 d.x6, .int .u64 d.x7] 36) (.cells Ent.zero.cells.toArray 42))
  have Hs0 : Hid (((w.alloc (.cells #[.int .u64 d.x0, .int .u64 d.x1, .int .u64 d.x2, .int .u64 d.x3, .int .u64 d.x4, .int .u64 d.x5, .int .u64 d.x6, .int .u64 d.x7] 36)).alloc (.cells Ent.zero.cells.toArray 42)).heap.size = w.heap.size + 2) := Lib.hid (by simp)
  by_cases hk : k < 0
  · have g1 : decide (k < 0) = true := by simp [hk]
    clear h hk
    go_enter Try.func32, Try.ntmps32
    go_wp2_with (refine wpList_store_mid rfl 42 (.tmp 8) (.tmp 28) rfl (w.heap.size + 1) 0 Ent.zero.cells.toArray rfl rfl ?_ Try.size42 (oneEnt _) ?_; exact Hn.out)
    have hl := Try.load42 Ent.zero (range_set (w := (w.alloc (.cells #[.int .u64 d.x0, .int .u64 d.x1, .int .u64 d.x2, .int .u64 d.x3, .int .u64 d.x4, .int .u64 d.x5, .int .u64 d.x6, .int .u64 d.x7] 36)).alloc (.cells Ent.zero.cells.toArray 42)) (b := w.heap.size + 1) (o := 0) Ent.zero.cells (by rw [Ent.len]; exact Hn.out))
    exact bodyPost_ret (results_ctt rfl rfl hl rfl rfl) rfl ⟨rfl, below_setCells (by omega) _ _ HB0.out⟩
  · have g1 : decide (k < 0) = false := by simp; omega
    have hst := h.resolve_left hk
    have g2 : (st != 1) = true := by simpa using hst.1
    have g3 : (st != 2) = true := by simpa using hst.2
    clear h hk hst
    go_enter Try.func32, Try.ntmps32
    go_wp2_with (refine wpList_store_mid rfl 42 (.tmp 8) (.tmp 28) rfl (w.heap.size + 1) 0 Ent.zero.cells.toArray rfl rfl ?_ Try.size42 (oneEnt _) ?_; exact Hn.out)
    have hl := Try.load42 Ent.zero (range_set (w := (w.alloc (.cells #[.int .u64 d.x0, .int .u64 d.x1, .int .u64 d.x2, .int .u64 d.x3, .int .u64 d.x4, .int .u64 d.x5, .int .u64 d.x6, .int .u64 d.x7] 36)).alloc (.cells Ent.zero.cells.toArray 42)) (b := w.heap.size + 1) (o := 0) Ent.zero.cells (by rw [Ent.len]; exact Hn.out))
    exact bodyPost_ret (results_ctt rfl rfl hl rfl rfl) rfl ⟨rfl, below_setCells (by omega) _ _ HB0.out⟩

set_option maxRecDepth 100000 in
set_option maxHeartbeats 1000000 in
theorem fill_twice {w : World} {p S : Nat} {bs : List Nat} {ways : Nat} {ss : List (List Ent)} {u : Int} (h : CacheAt w p S bs ways ss u) (k : Nat) (st : Int) (d : L8) (hst : st = 1 ∨ st = 2) {x : Nat × Nat} (hf : Finds ss k = some x) : Calls Try.prog 32 #[.pointer (some ⟨p, 0, none⟩), .int .i64 k, .int .i64 st, .agg #[.int .u64 d.x0, .int .u64 d.x1, .int .u64 d.x2, .int .u64 d.x3, .int .u64 d.x4, .int .u64 d.x5, .int .u64 d.x6, .int .u64 d.x7]] w fun e w' => e = .returned (.tuple #[.agg Ent.zero.cells.toArray, .bool false, .int .i64 21]) ∧ Below w.heap.size w w' := by
  have Hn := Lib.hid (there_res w (.cells #[.int .u64 d.x0, .int .u64 d.x1, .int .u64 d.x2, .int .u64 d.x3, .int .u64 d.x4, .int .u64 d.x5, .int .u64 d.x6, .int .u64 d.x7] 36))
  have HB0 := Lib.hid (below_two w (.cells #[.int .u64 d.x0, .int .u64 d.x1, .int .u64 d.x2, .int .u64 d.x3, .int .u64 d.x4, .int .u64 d.x5, .int .u64 d.x6, .int .u64 d.x7] 36) (.cells Ent.zero.cells.toArray 42))
  have Hs0 : Hid (((w.alloc (.cells #[.int .u64 d.x0, .int .u64 d.x1, .int .u64 d.x2, .int .u64 d.x3, .int .u64 d.x4, .int .u64 d.x5, .int .u64 d.x6, .int .u64 d.x7] 36)).alloc (.cells Ent.zero.cells.toArray 42)).heap.size = w.heap.size + 2) := Lib.hid (by simp)
  obtain ⟨i, j⟩ := x
  obtain ⟨b, hbx, hjl⟩ := Finds.bk h hf
  have H := Lib.hid (held_some ((h.alloc (.cells #[.int .u64 d.x0, .int .u64 d.x1, .int .u64 d.x2, .int .u64 d.x3, .int .u64 d.x4, .int .u64 d.x5, .int .u64 d.x6, .int .u64 d.x7] 36)).alloc (.cells Ent.zero.cells.toArray 42)) hf hbx)
  clear h hf hbx hjl
  have g1 : decide ((k : Int) < 0) = false := by simp
  rcases hst with rfl | rfl
  all_goals
    go_enter Try.func32, Try.ntmps32
    go_wp2_with fail
    refine H.out.mono ?_
    rintro e w1 ⟨rfl, hb⟩
    have ht := there_later Hn.out (hb.block (w.heap.size + 1) (by rw [Hs0.out]; omega))
    have hB := HB0.out.trans (hb.mono (by rw [Hs0.out]; omega))
    have Ht := Lib.hid ht; clear ht
    have HB := Lib.hid hB; clear hB
    clear hb
    go_wp2_with (refine wpList_store_mid rfl 42 (.tmp 8) (.tmp 37) rfl (w.heap.size + 1) 0 Ent.zero.cells.toArray rfl rfl ?_ Try.size42 (oneEnt _) ?_; exact Ht.out)
    have hl := Try.load42 Ent.zero (range_set (w := w1) (b := w.heap.size + 1) (o := 0) Ent.zero.cells (by rw [Ent.len]; exact Ht.out))
    exact bodyPost_ret (results_ctt rfl rfl hl rfl rfl) rfl ⟨rfl, below_setCells (by omega) _ _ HB.out⟩

set_option maxRecDepth 100000 in
set_option maxHeartbeats 1000000 in
theorem fill_marked {w : World} {p S : Nat} {bs : List Nat} {ways : Nat} {ss : List (List Ent)} {u : Int} (h : CacheAt w p S bs ways ss u) (k : Nat) (st : Int) (d : L8) (hst : st = 1 ∨ st = 2) (hf : Finds ss k = none) (hg : Goes ss k = none) : Calls Try.prog 32 #[.pointer (some ⟨p, 0, none⟩), .int .i64 k, .int .i64 st, .agg #[.int .u64 d.x0, .int .u64 d.x1, .int .u64 d.x2, .int .u64 d.x3, .int .u64 d.x4, .int .u64 d.x5, .int .u64 d.x6, .int .u64 d.x7]] w fun e w' => e = .returned (.tuple #[.agg Ent.zero.cells.toArray, .bool false, .int .i64 22]) ∧ Below w.heap.size w w' := by
  have Hn := Lib.hid (there_res w (.cells #[.int .u64 d.x0, .int .u64 d.x1, .int .u64 d.x2, .int .u64 d.x3, .int .u64 d.x4, .int .u64 d.x5, .int .u64 d.x6, .int .u64 d.x7] 36))
  have HB0 := Lib.hid (below_two w (.cells #[.int .u64 d.x0, .int .u64 d.x1, .int .u64 d.x2, .int .u64 d.x3, .int .u64 d.x4, .int .u64 d.x5, .int .u64 d.x6, .int .u64 d.x7] 36) (.cells Ent.zero.cells.toArray 42))
  have Hs0 : Hid (((w.alloc (.cells #[.int .u64 d.x0, .int .u64 d.x1, .int .u64 d.x2, .int .u64 d.x3, .int .u64 d.x4, .int .u64 d.x5, .int .u64 d.x6, .int .u64 d.x7] 36)).alloc (.cells Ent.zero.cells.toArray 42)).heap.size = w.heap.size + 2) := Lib.hid (by simp)
  have h0 := (h.alloc (.cells #[.int .u64 d.x0, .int .u64 d.x1, .int .u64 d.x2, .int .u64 d.x3, .int .u64 d.x4, .int .u64 d.x5, .int .u64 d.x6, .int .u64 d.x7] 36)).alloc (.cells Ent.zero.cells.toArray 42)
  have H := Lib.hid (held_none h0 hf)
  have H0 := Lib.hid h0
  clear h hf h0
  have g1 : decide ((k : Int) < 0) = false := by simp
  rcases hst with rfl | rfl
  all_goals
    go_enter Try.func32, Try.ntmps32
    go_wp2_with fail
    refine H.out.mono ?_
    rintro e w1 ⟨rfl, hb⟩
    have H1 := Lib.hid (H0.out.below hb (Nat.le_refl _))
    have Hb := Lib.hid hb; clear hb
    go_wp2_with fail
    refine (toGo_none H1.out hg).mono ?_
    rintro e w2 ⟨rfl, hb2⟩
    have hle := Hb.out.size
    have ht := there_later (there_later Hn.out (Hb.out.block (w.heap.size + 1) (by rw [Hs0.out]; omega))) (hb2.block (w.heap.size + 1) (by rw [Hs0.out] at hle; omega))
    have hB := (HB0.out.trans (Hb.out.mono (by rw [Hs0.out]; omega))).trans (hb2.mono (by rw [Hs0.out] at hle; omega))
    have Ht := Lib.hid ht; clear ht
    have HB := Lib.hid hB; clear hB
    clear hb2 hle
    go_wp2_with (refine wpList_store_mid rfl 42 (.tmp 8) (.tmp 43) rfl (w.heap.size + 1) 0 Ent.zero.cells.toArray rfl rfl ?_ Try.size42 (oneEnt _) ?_; exact Ht.out)
    have hl := Try.load42 Ent.zero (range_set (w := w2) (b := w.heap.size + 1) (o := 0) Ent.zero.cells (by rw [Ent.len]; exact Ht.out))
    exact bodyPost_ret (results_ctt rfl rfl hl rfl rfl) rfl ⟨rfl, below_setCells (by omega) _ _ HB.out⟩

end Go.Proofs.Ytddajnpichchfaa
