/- The number of the part that has a place: a binary search. Conditions: those stated in each theorem. -/
import Derived.Test.YtehnailokgoekaaDoorFlwA
import Derived.Test.YtehnailokgoekaaDoorShelf
import Derived.Deep.RegionWith
namespace Go.Proofs.YtehnailokgoekaaDoor
open Go.RowKit Go.BigFrame Go.Shelf Go.Lib Go.Sort

/-- Parts in memory, their borders alone. -/
def SpIn (W : World) (g : Nat) (sp : List (Nat × Nat)) : Prop := ∀ j x, sp[j]? = some x → ∃ a n c, W.rangeAt g (j * 3) [.int .i64 (x.1 : Nat), .int .i64 (x.2 : Nat), .slice a n c]
theorem SpIn.same {W W' : World} {g : Nat} {sp : List (Nat × Nat)} (h : SpIn W g sp) (hb : W'.heap[g]? = W.heap[g]?) : SpIn W' g sp := fun j x hx => by
  obtain ⟨a, n, c, h⟩ := h j x hx
  exact ⟨a, n, c, fun i u hi => (World.cell?_of_block (a := ⟨g, j * 3 + i, none⟩) hb).trans (h i u hi)⟩
theorem grow_heap {w : World} {os : Array Obj} {q k : Nat} (h : k < w.heap.size) : (grow (w.drewN q) os).heap[k]? = w.heap[k]? := by
  show (w.heap ++ os)[k]? = _
  rw [Array.getElem?_append_left h]

set_option maxRecDepth 100000 in
theorem num1_any (p lo hi : Int) (a : Option Addr) (n c Bp : Nat) (W : World) (h : W.cell? ⟨Bp, 0, none⟩ = some (.int .i64 p)) :
    Calls Tryd.prog 27 #[.agg #[.int .i64 lo, .int .i64 hi, .slice a n c], .pointer (some ⟨Bp, 0, none⟩)] W fun e w' => e = .returned (.bool (decide (p < hi))) ∧ w' = W.alloc (.cells #[.int .i64 lo, .int .i64 hi, .slice a n c] 32) := by
  have hlt := World.block_lt_of_cell? _ _ h
  go_enter Tryd.func27, Tryd.ntmps27
  go_wp2
  go_ret
  exact ⟨rfl, rfl⟩

set_option maxRecDepth 100000 in
set_option maxHeartbeats 1000000 in
theorem first1_any (p lo hi : Int) (a : Option Addr) (n c Bp Bi Bl g m cap j : Nat) (W : World) (h1 : W.cell? ⟨Bi, 0, none⟩ = some (.func (.func 27) #[] #[.pointer (some ⟨Bp, 0, none⟩)])) (h2 : W.cell? ⟨Bl, 0, none⟩ = some (.slice (some ⟨g, 0, none⟩) m cap)) (h3 : W.cell? ⟨Bp, 0, none⟩ = some (.int .i64 p)) (hj : j < m)
    (hr : W.rangeAt g (j * 3) [.int .i64 lo, .int .i64 hi, .slice a n c]) :
    Calls Tryd.prog 37 #[.int .i64 j, .pointer (some ⟨Bi, 0, none⟩), .pointer (some ⟨Bl, 0, none⟩)] W fun e w' => e = .returned (.bool (decide (p < hi))) ∧ ∃ q os', w' = grow (W.drewN q) os' := by
  have c0 : W.cell? ⟨g, j * 3, none⟩ = some (.int .i64 lo) := hr 0 _ rfl
  have c1 : W.cell? ⟨g, j * 3 + 1, none⟩ = some (.int .i64 hi) := hr 1 _ rfl
  have c2 : W.cell? ⟨g, j * 3 + 2, none⟩ = some (.slice a n c) := hr 2 _ rfl
  have hjm : (j : Int) < (m : Int) := by omega
  have HN := Lib.hid (num1_any p lo hi a n c Bp W.drew h3)
  clear hr hj h3
  go_enter Tryd.func37, Tryd.ntmps37
  go_wp2_with fail
  go_region_with (go_at_call 27; refine HN.out.mono ?_; rintro e w5 ⟨rfl, rfl⟩)
  all_goals
    go_wp2
    go_ret
    exact ⟨rfl, 1, #[.cells #[.int .i64 lo, .int .i64 hi, .slice a n c] 32], rfl⟩

theorem count_range (sp : List (Nat × Nat)) (p : Nat) : (List.range sp.length).countP (fun i => !decide ((p : Int) < ((sp.getD i (0, 0)).2 : Nat))) = numS sp p := by
  have h : sp = (List.range sp.length).map (fun i => sp.getD i (0, 0)) := by
    apply List.ext_getElem
    · simp
    · intro i h1 h2
      simp [List.getD, h1]
  unfold numS
  conv => rhs; rw [h]
  rw [List.countP_map]
  congr 1
  funext i
  simp only [Function.comp_apply, ← decide_not]
  rw [decide_eq_decide]; omega

set_option maxRecDepth 100000 in
set_option maxHeartbeats 1000000 in
theorem numOf_any (sp : List (Nat × Nat)) (g cap p : Nat) (W : World) (h : SpIn W g sp) (hm : sp.Pairwise (fun x y => x.2 ≤ y.2)) (hn : sp.length ≤ 1024) (h0 : 0 < sp.length) :
    Calls Tryd.prog 18 #[.slice (some ⟨g, 0, none⟩) sp.length cap, .int .i64 p] W fun e w' => e = .returned (.int .i64 (numS sp p : Nat)) ∧ Below W.heap.size W w' := by
  have hg : g < W.heap.size := by
    obtain ⟨a, n, c, h⟩ := h 0 sp[0] (List.getElem?_eq_getElem h0)
    exact World.block_lt_of_cell? _ _ (h 0 _ rfl)
  obtain ⟨W1, hW1⟩ : ∃ W1, W1 = ((W.alloc (.cells #[.int .i64 p] 3)).alloc (.cells #[.slice (some ⟨g, 0, none⟩) sp.length cap] 23)).alloc (.cells #[.func (.func 27) #[] #[.pointer (some ⟨W.heap.size, 0, none⟩)]] 63) := ⟨_, rfl⟩
  have hb : Below W.heap.size W W1 := by
    rw [hW1]; exact (((Below.refl _ W).alloc (Nat.le_refl _) _).alloc (by simp) _).alloc (by simp; omega) _
  have q1 : Holds W1 W.heap.size 3 [.int .i64 p] := by
    rw [hW1]; exact ((Holds.new W 3 [.int .i64 p]).alloc _).alloc _
  have q2 : Holds W1 (W.heap.size + 1) 23 [.slice (some ⟨g, 0, none⟩) sp.length cap] := by
    rw [hW1]
    have := (Holds.new (W.alloc (.cells #[.int .i64 p] 3)) 23 [.slice (some ⟨g, 0, none⟩) sp.length cap]).alloc (.cells #[.func (.func 27) #[] #[.pointer (some ⟨W.heap.size, 0, none⟩)]] 63)
    rwa [World.size_alloc] at this
  have q3 : Holds W1 (W.heap.size + 1 + 1) 63 [.func (.func 27) #[] #[.pointer (some ⟨W.heap.size, 0, none⟩)]] := by
    rw [hW1]
    have := Holds.new ((W.alloc (.cells #[.int .i64 p] 3)).alloc (.cells #[.slice (some ⟨g, 0, none⟩) sp.length cap] 23)) 63 [.func (.func 27) #[] #[.pointer (some ⟨W.heap.size, 0, none⟩)]]
    rwa [World.size_alloc, World.size_alloc] at this
  have h1 := h.same (hb.block g hg)
  have hS := Any.sort_Search Tryd.srcL 37 #[.pointer (some ⟨W.heap.size + 1 + 1, 0, none⟩), .pointer (some ⟨W.heap.size + 1, 0, none⟩)] sp.length (fun i => decide ((p : Int) < ((sp.getD i (0, 0)).2 : Nat))) W1 (enters_of Tryd.func37 (by kernel_rfl) rfl) (by omega)
    (fun m os i hi => by
      obtain ⟨a, n, c, hr⟩ := h1 i sp[i] (List.getElem?_eq_getElem hi)
      have e : sp.getD i (0, 0) = sp[i] := by simp [List.getD, hi]
      rw [e]
      have hsz : ∀ k, k < W1.heap.size → (grow (W1.drewN m) os).heap[k]? = W1.heap[k]? := fun k hk => grow_heap hk
      exact first1_any p sp[i].1 sp[i].2 a n c W.heap.size (W.heap.size + 1 + 1) (W.heap.size + 1) g sp.length cap i _ (((q3.same (hsz _ q3.lt)).cell (i := 0) rfl)) ((q2.same (hsz _ q2.lt)).cell (i := 0) rfl) ((q1.same (hsz _ q1.lt)).cell (i := 0) rfl) hi
        (fun k u hk => (World.cell?_of_block (a := ⟨g, i * 3 + k, none⟩) (hsz g (Nat.lt_of_lt_of_le hg hb.size))).trans (hr k u hk)))
    (fun a b hab hb' hp => by
      have ha : a < sp.length := by omega
      have e1 : sp.getD a (0, 0) = sp[a] := by simp [List.getD, ha]
      have e2 : sp.getD b (0, 0) = sp[b] := by simp [List.getD, hb']
      rw [e1] at hp; rw [e2]
      simp only [decide_eq_true_eq] at hp ⊢
      have : sp[a].2 ≤ sp[b].2 := by
        by_cases e : a = b
        · subst e; exact Nat.le_refl _
        · exact (List.pairwise_iff_getElem.1 hm) a b ha hb' (by omega)
      omega)
  change Calls Tryd.prog 36 _ _ _ at hS
  rw [count_range] at hS
  have HS := Lib.hid hS; clear hS
  have HB := Lib.hid hb; clear hb
  have c2 := q2.cell (i := 0) rfl
  rw [hW1] at c2
  have HW1 := Lib.hid hW1; clear hW1
  clear q1 q2 q3 h1 h hm
  have e := HW1.out
  subst e
  have hF : Calls Tryd.prog 26 #[.slice (some ⟨g, 0, none⟩) sp.length cap, .func (.func 27) #[] #[.pointer (some ⟨W.heap.size, 0, none⟩)]] (W.alloc (.cells #[.int .i64 p] 3)) fun e w' => e = .returned (.int .i64 (numS sp p : Nat)) ∧ Below W.heap.size W w' := by
    go_enter Tryd.func26, Tryd.ntmps26
    go_wp2_with fail
    refine HS.out.mono ?_
    rintro e w5 ⟨rfl, q, os, rfl⟩
    go_wp2
    go_ret
    exact ⟨rfl, HB.out.trans ((below_grown_sl _ _ q os (Nat.le_refl _)).mono HB.out.size)⟩
  have HF := Lib.hid hF; clear hF HS HB HW1 c2
  go_enter Tryd.func18, Tryd.ntmps18
  go_wp2_with fail
  refine HF.out.mono ?_
  rintro e w5 ⟨rfl, hb⟩
  have HB := Lib.hid hb; clear hb
  go_wp2
  go_ret
  exact ⟨rfl, HB.out⟩

end Go.Proofs.YtehnailokgoekaaDoor
