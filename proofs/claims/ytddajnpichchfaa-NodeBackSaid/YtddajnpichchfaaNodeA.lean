/- A node in memory; its small functions. Conditions: those stated in each theorem. -/
import Derived.Test.YtddajnpichchfaaNodeP
import Derived.Test.YtddajnpichchfaaStill
namespace Go.Proofs.Ytddajnpichchfaa
open Go.RowKit Go.BigFrame

theorem Try.size52 : (Try.prog.info? 52).map (·.size) = some 11 := by kernel_rfl
theorem oneMsg (m : MsgV) : (m.cells.toArray).all (·.oneCell') = true := by simp [MsgV.cells, Value.oneCell']
theorem oneL8 (d : L8) : (d.cells.toArray).all (·.oneCell') = true := by simp [L8.cells, Value.oneCell']

/-! ### A node -/
theorem owns_same {w w' : World} {lo : Nat} {e : TypeId} {size : Nat} {v : Value} {n : Nat} {xs : List Value} (h : w.ownsRow lo e size v n xs) (hb : ∀ g, v.ownBlock = some g → w'.heap[g]? = w.heap[g]?) : w'.ownsRow lo e size v n xs := by
  refine ⟨h.1, ?_⟩
  rcases h.2 with hn | ⟨g, cap, cur, hv, h1, hg, rest⟩
  · exact .inl hn
  · exact .inr ⟨g, cap, cur, hv, h1, (hb g (by subst hv; rfl)).trans hg, rest⟩
theorem owns_lt {w : World} {lo : Nat} {e : TypeId} {size : Nat} {v : Value} {n : Nat} {xs : List Value} (h : w.ownsRow lo e size v n xs) {g : Nat} (hg : v.ownBlock = some g) : lo ≤ g ∧ g < w.heap.size := by
  rcases h.2 with ⟨rfl, _⟩ | ⟨g', cap, cur, rfl, h1, h2, _⟩
  · cases hg
  · cases hg; exact ⟨h1, (Array.getElem?_eq_some_iff.1 h2).1⟩
theorem owns_mono {w : World} {lo lo' : Nat} {e : TypeId} {size : Nat} {v : Value} {n : Nat} {xs : List Value} (h : w.ownsRow lo e size v n xs) (hl : ∀ g, v.ownBlock = some g → lo' ≤ g) : w.ownsRow lo' e size v n xs := by
  refine ⟨h.1, ?_⟩
  rcases h.2 with hn | ⟨g, cap, cur, rfl, h1, rest⟩
  · exact .inl hn
  · exact .inr ⟨g, cap, cur, rfl, hl g rfl, rest⟩

structure NodeAt (w : World) (lo a p S : Nat) (bs : List Nat) (ways : Nat) (bv : Value) (n : Nd) : Prop where
  cache : CacheAt w p S bs ways n.ss n.u
  head : Holds w a 123 (n.cells p bv)
  own : w.ownsRow lo 3 1 bv n.backs.length (n.backs.map (Value.int .i64))
  apart : a ∉ p :: S :: bs
  loose : ∀ g, bv.ownBlock = some g → g ∉ a :: p :: S :: bs
  above : ∀ k ∈ a :: p :: bs, lo ≤ k

/-- The blocks that a node's calls may turn. -/
def Own (a p : Nat) (bs : List Nat) (bv : Value) (k : Nat) : Prop := k = a ∨ Turns p bs k ∨ bv.ownBlock = some k

section
variable {w w' : World} {lo a p S : Nat} {bs : List Nat} {ways : Nat} {bv : Value} {n : Nd}
theorem NodeAt.frame (h : NodeAt w lo a p S bs ways bv n) {C : Nat → Prop} (ht : Tch C w w') (ha : ¬ C a) (hp : ¬ C p) (hS : ¬ C S) (hb : ∀ b ∈ bs, ¬ C b) (hg : ∀ g, bv.ownBlock = some g → ¬ C g) : NodeAt w' lo a p S bs ways bv n :=
  ⟨h.cache.frame ht hp hS hb, ht.holds ha h.head, owns_same h.own (fun g e => ht.block g (owns_lt h.own e).2 (hg g e)), h.apart, h.loose, h.above⟩
theorem NodeAt.below (h : NodeAt w lo a p S bs ways bv n) {B : Nat} (hb : Below B w w') (hB : w.heap.size ≤ B) : NodeAt w' lo a p S bs ways bv n := by
  have hl := h.cache.lt
  have ha := h.head.lt
  exact h.frame (C := (B ≤ ·)) (Tch.of_below hb) (by omega) (by omega) (by omega) (fun b hbm => by have := hl.2.2 b hbm; omega) (fun g e => by have := (owns_lt h.own e).2; omega)
theorem NodeAt.not_turns (h : NodeAt w lo a p S bs ways bv n) : ¬ Turns p bs a ∧ ∀ g, bv.ownBlock = some g → ¬ Turns p bs g := by
  have ha := h.apart
  simp only [List.mem_cons, not_or] at ha
  refine ⟨fun hk => hk.elim ha.1 ha.2.2, fun g hg hk => ?_⟩
  have hl := h.loose g hg
  simp only [List.mem_cons, not_or] at hl
  exact hk.elim hl.2.1 hl.2.2.2
/-- Behind a call of its cache. -/
theorem NodeAt.turn (h : NodeAt w lo a p S bs ways bv n) {ss : Sets} {u : Int} (hc : CacheAt w' p S bs ways ss u) (hT : Tch (Turns p bs) w w') : NodeAt w' lo a p S bs ways bv { n with ss := ss, u := u } :=
  ⟨hc, hT.holds h.not_turns.1 h.head, owns_same h.own (fun g e => hT.block g (owns_lt h.own e).2 (h.not_turns.2 g e)), h.apart, h.loose, h.above⟩
/-- A store into it. -/
theorem NodeAt.set (h : NodeAt w lo a p S bs ways bv n) (j : Nat) (v : Value) (n' : Nd) (h1 : n'.ss = n.ss) (h2 : n'.u = n.u) (h3 : n'.backs = n.backs) (hk : n'.cells p bv = (n.cells p bv).set j v) : NodeAt (w.setCell ⟨a, j, none⟩ v) lo a p S bs ways bv n' := by
  have ha := h.apart
  simp only [List.mem_cons, not_or] at ha
  have hT : Tch (· = a) w (w.setCell ⟨a, j, none⟩ v) := Tch.setCell (C := (· = a)) (Tch.refl _ w) (p := ⟨a, j, none⟩) (.inl rfl) v
  refine ⟨?_, ?_, ?_, h.apart, h.loose, h.above⟩
  · rw [h1, h2]
    exact h.cache.frame hT (fun e => ha.1 e.symm) (fun e => ha.2.1 e.symm) (fun b hb e => ha.2.2 (e ▸ hb))
  · rw [hk]; exact h.head.set j v
  · rw [h3]
    refine owns_same h.own (fun g e => hT.block g (owns_lt h.own e).2 (fun hc => ?_))
    have hl := h.loose g e
    simp only [List.mem_cons, not_or] at hl
    exact hl.1 hc
theorem NodeAt.c (h : NodeAt w lo a p S bs ways bv n) (j : Nat) {v : Value} (hv : (n.cells p bv)[j]? = some v) : w.cell? ⟨a, j, none⟩ = some v := h.head.cell hv
theorem NodeAt.lo_le (h : NodeAt w lo a p S bs ways bv n) : lo ≤ w.heap.size := by have := h.above a (List.mem_cons_self ..); have := h.head.lt; omega
theorem tch_own (h : Tch (Turns p bs) w w') : Tch (Own a p bs bv) w w' := h.mono (fun _ _ hk => .inr (.inl hk))
theorem below_own (h : Below w.heap.size w w') : Tch (Own a p bs bv) w w' := ⟨h.os, h.tape, h.output, h.size, fun k hk _ => h.block k hk⟩
theorem NodeAt.belowLo (h : NodeAt w lo a p S bs ways bv n) (hT : Tch (Own a p bs bv) w w') : Below lo w w' := hT.below h.lo_le (fun k hk => by
  rcases hk with rfl | hk | hk
  · exact h.above _ (List.mem_cons_self ..)
  · rcases hk with rfl | hk
    · exact h.above _ (by simp)
    · exact h.above _ (by simp [hk])
  · exact (owns_lt h.own hk).1)
end

/-! ### Boxes -/
theorem ebox (w : World) (e : Ent) : ∃ W, W = (w.alloc (.cells Ent.zero.cells.toArray 42)).setCells w.heap.size 0 e.cells ∧ Below w.heap.size w W ∧ (w.alloc (.cells Ent.zero.cells.toArray 42)).there w.heap.size 0 21 ∧ W.rangeAt w.heap.size 0 e.cells ∧ w.heap.size < W.heap.size := by
  have hn := there_new w Ent.zero.cells 42 21 rfl
  have hb : Below (w.alloc (.cells Ent.zero.cells.toArray 42)).heap.size (w.alloc (.cells Ent.zero.cells.toArray 42)) ((w.alloc (.cells Ent.zero.cells.toArray 42))) := Below.refl _ _
  have hT : Tch (· = w.heap.size) (w.alloc (.cells Ent.zero.cells.toArray 42)) ((w.alloc (.cells Ent.zero.cells.toArray 42)).setCells w.heap.size 0 e.cells) := Tch.setCells (C := (· = w.heap.size)) (.inl rfl) _ _ (Tch.refl _ _)
  have hs := hT.size
  rw [World.size_alloc] at hs
  exact ⟨_, rfl, below_setCells (Nat.le_refl _) _ _ ((Below.refl _ w).alloc (Nat.le_refl _) _), hn, range_set e.cells (by rw [Ent.len]; exact hn), by omega⟩
theorem mbox (w : World) (e : MsgV) : ∃ W, W = (w.alloc (.cells MsgV.zero.cells.toArray 52)).setCells w.heap.size 0 e.cells ∧ Below w.heap.size w W ∧ (w.alloc (.cells MsgV.zero.cells.toArray 52)).there w.heap.size 0 11 ∧ W.rangeAt w.heap.size 0 e.cells ∧ w.heap.size < W.heap.size := by
  have hn := there_new w MsgV.zero.cells 52 11 rfl
  have hT : Tch (· = w.heap.size) (w.alloc (.cells MsgV.zero.cells.toArray 52)) ((w.alloc (.cells MsgV.zero.cells.toArray 52)).setCells w.heap.size 0 e.cells) := Tch.setCells (C := (· = w.heap.size)) (.inl rfl) _ _ (Tch.refl _ _)
  have hs := hT.size
  rw [World.size_alloc] at hs
  exact ⟨_, rfl, below_setCells (Nat.le_refl _) _ _ ((Below.refl _ w).alloc (Nat.le_refl _) _), hn, range_set e.cells (by rw [MsgV.len]; exact hn), by omega⟩
theorem Try.load52 {w : World} {b : Nat} (e : MsgV) (h : w.rangeAt b 0 e.cells) : (loadVar 52 ⟨b, 0, none⟩).run Try.prog w = .ok (.agg e.cells.toArray) w :=
  run_loadVar_mid w b 0 52 e.cells _ h Try.underlying52 rfl Try.size52

section
variable {w : World} {lo a p S : Nat} {bs : List Nat} {ways : Nat} {bv : Value} {n : Nd}
theorem find_x {ss : Sets} {u : Int} (h : CacheAt w p S bs ways ss u) (k : Int) :
    Calls Try.prog 50 #[.pointer (some ⟨p, 0, none⟩), .int .i64 k] w fun e w' => e = .returned (.tuple #[.agg (findX ss k).1.cells.toArray, .bool (findX ss k).2]) ∧ Below w.heap.size w w' := by
  unfold findX
  split
  next hf => exact find_bad k (.inr rfl) (fun W hW => held_none (hW ▸ h.alloc _) hf)
  next i j hf => exact find_some h k hf

set_option maxRecDepth 100000 in
set_option maxHeartbeats 1000000 in
theorem state_any (h : NodeAt w lo a p S bs ways bv n) (k : Int) :
    Calls Try.prog 57 #[.pointer (some ⟨a, 0, none⟩), .int .i64 k] w fun e w' => e = .returned (.int .i64 (stateL n.ss k)) ∧ Below w.heap.size w w' := by
  have c2 := h.c 2 rfl
  have H := Lib.hid (find_x h.cache k)
  unfold stateL
  generalize findX n.ss k = fx at *
  clear h
  go_enter Try.func57, Try.ntmps57
  go_wp2_with fail
  refine H.out.mono ?_
  rintro e w1 ⟨rfl, hb⟩
  obtain ⟨W, eW, bW, hn, hr, -⟩ := ebox w1 fx.1
  have EW := Lib.hid eW; clear eW
  have Hn := Lib.hid hn; clear hn
  have Hb := Lib.hid (hb.trans (bW.mono hb.size)); clear hb bW
  have c : W.cell? ⟨w1.heap.size, 1, none⟩ = some (.int .i64 fx.1.state) := hr 1 _ rfl
  clear hr
  go_wp2_with (refine wpList_store_mid rfl 42 (.tmp 5) (.tmp 14) rfl w1.heap.size 0 fx.1.cells.toArray rfl rfl ?_ Try.size42 (oneEnt _) ?_; exact Hn.out; change wpList _ _ _ _ _ ((w1.alloc (.cells Ent.zero.cells.toArray 42)).setCells w1.heap.size 0 fx.1.cells); rw [← EW.out])
  go_ret
  exact ⟨rfl, Hb.out⟩

set_option maxHeartbeats 400000 in
theorem isLine_any (h : NodeAt w lo a p S bs ways bv n) (k : Int) :
    Calls Try.prog 60 #[.pointer (some ⟨a, 0, none⟩), .int .i64 k] w fun e w' => e = .returned (.bool (n.isLine k)) ∧ w = w' := by
  have c1 := h.c 1 rfl
  clear h
  unfold Nd.isLine
  by_cases h0 : 0 ≤ k
  · have hd : decide (0 ≤ k) = true := by simpa using h0
    go_enter Try.func60, Try.ntmps60
    go_wp2
    go_ret
    exact ⟨by simp [hd], rfl⟩
  · have hd : decide (0 ≤ k) = false := by simpa using h0
    go_enter Try.func60, Try.ntmps60
    go_wp2
    go_ret
    exact ⟨by simp, rfl⟩

set_option maxHeartbeats 400000 in
theorem live_any (h : NodeAt w lo a p S bs ways bv n) : Calls Try.prog 18 #[.pointer (some ⟨a, 0, none⟩)] w fun e w' => e = .returned (.bool n.live) ∧ w = w' := by
  have c15 := h.c 15 rfl
  clear h
  go_enter Try.func18, Try.ntmps18
  go_wp2
  go_ret
  exact ⟨rfl, rfl⟩
set_option maxHeartbeats 400000 in
theorem code_any (h : NodeAt w lo a p S bs ways bv n) : Calls Try.prog 17 #[.pointer (some ⟨a, 0, none⟩)] w fun e w' => e = .returned (.int .i64 n.code) ∧ w = w' := by
  have c16 := h.c 16 rfl
  clear h
  go_enter Try.func17, Try.ntmps17
  go_wp2
  go_ret
  exact ⟨rfl, rfl⟩

set_option maxHeartbeats 400000 in
theorem begin_any (h : NodeAt w lo a p S bs ways bv n) : Calls Try.prog 15 #[.pointer (some ⟨a, 0, none⟩)] w fun e w' => e = .returned (.int .i64 n.begin.2) ∧ NodeAt w' lo a p S bs ways bv n.begin.1 ∧ Tch (Own a p bs bv) w w' := by
  have c15 := h.c 15 rfl
  have c16 := h.c 16 rfl
  have f15 := h.head.free 15
  have f16 := h.head.free 16
  unfold Nd.begin
  by_cases hl : n.live = true
  · rw [hl] at c15
    rw [if_pos hl]
    have H := Lib.hid h; clear h
    go_enter Try.func15, Try.ntmps15
    go_wp2
    go_ret
    exact ⟨rfl, H.out, Tch.refl _ _⟩
  · have hl' : n.live = false := by simpa using hl
    rw [hl'] at c15
    rw [if_neg hl]
    have h1 := (h.set 15 (.bool true) { n with live := true } rfl rfl rfl rfl).set 16 (.int .i64 0) { n with live := true, code := 0 } rfl rfl rfl rfl
    have hT : Tch (Own a p bs bv) w ((w.setCell ⟨a, 15, none⟩ (.bool true)).setCell ⟨a, 16, none⟩ (.int .i64 0)) := ((Tch.refl _ w).setCell (p := ⟨a, 15, none⟩) (.inl (.inl rfl)) _).setCell (p := ⟨a, 16, none⟩) (.inl (.inl rfl)) _
    have H := Lib.hid (And.intro h1 hT)
    clear h h1 hT hl hl'
    go_enter Try.func15, Try.ntmps15
    go_wp2
    go_ret
    exact ⟨rfl, H.out⟩
end

end Go.Proofs.Ytddajnpichchfaa
