/- A node: what is let go. Conditions: those stated in each theorem. -/
import Derived.Test.YtddajnpichchfaaNodeD
namespace Go.Proofs.Ytddajnpichchfaa
open Go.RowKit Go.BigFrame Go.Sort

theorem owns_put {w : World} {lo : Nat} {e : TypeId} {g cap n : Nat} {xs : List Value} (h : w.ownsRow lo e 1 (.slice (some ⟨g, 0, none⟩) n cap) n xs) (ys : List Int) (hy : ys.length = n) (m : Nat) (hm : m ≤ n) (os : Array Obj) (q : Nat) :
    (grow (putRow (Value.int .i64) (Sort.ahead w q) g 0 ys.toArray) os).ownsRow lo e 1 (.slice (some ⟨g, 0, none⟩) m cap) m ((ys.take m).map (Value.int .i64)) := by
  rcases h.2 with ⟨h1, _⟩ | ⟨g', cap', cur, hv, h1, h2, h3, h4, h5, h6⟩
  · cases h1
  · simp only [Value.slice.injEq, Option.some.injEq, Addr.mk.injEq, and_true, true_and] at hv
    obtain ⟨rfl, rfl⟩ := hv
    have hlt := (Array.getElem?_eq_some_iff.1 h2).1
    have hgh : (grow (putRow (Value.int .i64) (Sort.ahead w q) g 0 ys.toArray) os).heap[g]? = some (.cells (putCells (Value.int .i64) 0 ys.toArray cur) e (0, 0)) := by
      rw [heap_grow_old _ _ (by rw [size_putRow]; exact hlt)]
      unfold putRow mapBlock
      show (w.heap.modify g _)[g]? = _
      rw [Array.getElem?_modify, if_pos rfl, h2]
      rfl
    refine ⟨by simp; omega, .inr ⟨g, cap, _, rfl, h1, hgh, by omega, h4, by simpa [putCells] using h5, ?_⟩⟩
    apply List.ext_getElem?
    intro i
    rw [List.getElem?_take, Nat.mul_one, List.getElem?_map, List.getElem?_take]
    split
    · rename_i hi
      have hc : i < cur.size := by omega
      have hyi : i < ys.length := by omega
      simp [putCells, Array.getElem?_eq_getElem hc, hyi]
    · rfl
theorem tch_put (w : World) (g q : Nat) (d : Array Int) (os : Array Obj) : Tch (fun k => k = g) w (grow (putRow (Value.int .i64) (Sort.ahead w q) g 0 d) os) := by
  refine ⟨rfl, rfl, rfl, ?_, ?_⟩
  · simp [grow, putRow, mapBlock, Go.Sort.ahead]
  · intro k hk hc
    rw [heap_grow_old _ _ (by rw [size_putRow]; exact hk)]
    unfold putRow mapBlock
    show (w.heap.modify g _)[k]? = _
    rw [Array.getElem?_modify, if_neg (fun e => hc e.symm)]

theorem Try.infoI : (Try.prog.info? 3).map (fun i => (i.zero, i.size, i.bytes)) = some (some (.int .i64 0), 1, 8) := by kernel_rfl

section
variable {w w' : World} {lo a p S : Nat} {bs : List Nat} {ways : Nat} {bv : Value} {n : Nd}

/-- Another row of lines given back. -/
theorem NodeAt.backs (h : NodeAt w lo a p S bs ways bv n) {bv' : Value} {l : List Int} {W : World} (hT : Tch (fun k => bv.ownBlock = some k) w W) (ho : W.ownsRow lo 3 1 bv' l.length (l.map (Value.int .i64))) (hg : ∀ g, bv'.ownBlock = some g → bv.ownBlock = some g ∨ w.heap.size ≤ g) :
    NodeAt (W.setCell ⟨a, 14, none⟩ bv') lo a p S bs ways bv' { n with backs := l } := by
  have hl := h.cache.lt
  have hal := h.head.lt
  have hne : ∀ g, bv.ownBlock = some g → g ≠ a ∧ g ≠ p ∧ g ≠ S ∧ g ∉ bs := fun g e => by
    have := h.loose g e
    simpa only [List.mem_cons, not_or] using this
  have ha := h.apart
  simp only [List.mem_cons, not_or] at ha
  have hT2 : Tch (· = a) W (W.setCell ⟨a, 14, none⟩ bv') := Tch.setCell (C := (· = a)) (Tch.refl _ W) (p := ⟨a, 14, none⟩) (.inl rfl) bv'
  have hcW := h.cache.frame hT (fun e => (hne _ e).2.1 rfl) (fun e => (hne _ e).2.2.1 rfl) (fun b hb e => (hne _ e).2.2.2 hb)
  have hhW := hT.holds (fun e => (hne _ e).1 rfl) h.head
  have hlo : ∀ g, bv'.ownBlock = some g → g ∉ a :: p :: S :: bs := fun g e => by
    rcases hg g e with h1 | h1
    · exact h.loose g h1
    · simp only [List.mem_cons, not_or]
      exact ⟨by omega, by omega, by omega, fun hm => by have := hl.2.2 g hm; omega⟩
  refine ⟨hcW.frame hT2 (fun e => ha.1 e.symm) (fun e => ha.2.1 e.symm) (fun b hb e => ha.2.2 (e ▸ hb)), ?_, ?_, h.apart, hlo, h.above⟩
  · exact hhW.set 14 bv'
  · refine owns_same ho (fun g e => hT2.block g (owns_lt ho e).2 (fun hc => ?_))
    have := hlo g e
    simp only [List.mem_cons, not_or] at this
    exact this.1 hc

set_option maxRecDepth 100000 in
set_option maxHeartbeats 1000000 in
theorem withWords_any (h : NodeAt w lo a p S bs ways bv n) (kind line : Int) (d : L8) :
    Calls Try.prog 92 #[.pointer (some ⟨a, 0, none⟩), .int .i64 kind, .int .i64 line, .agg d.cells.toArray] w fun e w' => e = .returned (.agg (MsgV.cells ⟨kind, n.core, line, d⟩).toArray) ∧ Below w.heap.size w w' := by
  have hb0 : Below w.heap.size w ((w.alloc (.cells d.cells.toArray 36)).alloc (.cells MsgV.zero.cells.toArray 52)) := ((Below.refl _ w).alloc (Nat.le_refl _) _).alloc (by simp) _
  have h0 := h.below hb0 (Nat.le_refl _)
  have h7 : Holds ((w.alloc (.cells d.cells.toArray 36)).alloc (.cells MsgV.zero.cells.toArray 52)) w.heap.size 36 d.cells := (Holds.new w 36 d.cells).alloc _
  have h8 : Holds ((w.alloc (.cells d.cells.toArray 36)).alloc (.cells MsgV.zero.cells.toArray 52)) (w.heap.size + 1) 52 MsgV.zero.cells := by
    have := Holds.new (w.alloc (.cells d.cells.toArray 36)) 52 MsgV.zero.cells
    rwa [World.size_alloc] at this
  have HM := Lib.hid (message_any h0 kind line)
  have Hb0 := Lib.hid hb0
  have H7 := Lib.hid h7
  have H8 := Lib.hid h8
  have Hsz := Lib.hid (show ((w.alloc (.cells d.cells.toArray 36)).alloc (.cells MsgV.zero.cells.toArray 52)).heap.size = w.heap.size + 2 by simp)
  clear h h0 h7 h8 hb0
  obtain ⟨x0, x1, x2, x3, x4, x5, x6, x7⟩ := d
  simp only [L8.cells, MsgV.cells, MsgV.zero, L8.zero] at HM Hb0 H7 H8 Hsz
  go_enter Try.func92, Try.ntmps92
  go_wp2_with fail
  refine HM.out.mono ?_
  rintro e w1 ⟨rfl, hb⟩
  obtain ⟨W, eW, bW, hn, -, hlW⟩ := mbox w1 (n.msg kind line)
  have hsz1 := hb.size
  rw [Hsz.out] at hsz1
  have h7 := H7.out.same (hb.block w.heap.size (by rw [Hsz.out]; omega))
  have h8 := H8.out.same (hb.block (w.heap.size + 1) (by rw [Hsz.out]; omega))
  have h7W := h7.same (bW.block w.heap.size h7.lt)
  have h8W := h8.same (bW.block (w.heap.size + 1) h8.lt)
  have h9 : Holds W w1.heap.size 52 (n.msg kind line).cells := by
    rw [eW]
    have := (Holds.new w1 52 MsgV.zero.cells).sets (n.msg kind line).cells 0
    rwa [show splice MsgV.zero.cells 0 (n.msg kind line).cells = (n.msg kind line).cells from rfl] at this
  have h9' : Holds (W.setCells w1.heap.size 3 (L8.cells ⟨x0, x1, x2, x3, x4, x5, x6, x7⟩)) w1.heap.size 52 (MsgV.cells ⟨kind, n.core, line, ⟨x0, x1, x2, x3, x4, x5, x6, x7⟩⟩) := h9.sets (L8.cells ⟨x0, x1, x2, x3, x4, x5, x6, x7⟩) 3
  have hT3 : Tch (· = w1.heap.size) W (W.setCells w1.heap.size 3 (L8.cells ⟨x0, x1, x2, x3, x4, x5, x6, x7⟩)) := Tch.setCells (C := (· = w1.heap.size)) (.inl rfl) _ _ (Tch.refl _ W)
  have h8' := hT3.holds (by show ¬ (w.heap.size + 1 = w1.heap.size); omega) h8W
  have h8f : Holds ((W.setCells w1.heap.size 3 (L8.cells ⟨x0, x1, x2, x3, x4, x5, x6, x7⟩)).setCells (w.heap.size + 1) 0 (MsgV.cells ⟨kind, n.core, line, ⟨x0, x1, x2, x3, x4, x5, x6, x7⟩⟩)) (w.heap.size + 1) 52 (MsgV.cells ⟨kind, n.core, line, ⟨x0, x1, x2, x3, x4, x5, x6, x7⟩⟩) := h8'.sets _ 0
  have hbf : Below w.heap.size w ((W.setCells w1.heap.size 3 (L8.cells ⟨x0, x1, x2, x3, x4, x5, x6, x7⟩)).setCells (w.heap.size + 1) 0 (MsgV.cells ⟨kind, n.core, line, ⟨x0, x1, x2, x3, x4, x5, x6, x7⟩⟩)) :=
    below_setCells (by omega) _ _ (below_setCells (by omega) _ _ ((Hb0.out.trans (hb.mono (by rw [Hsz.out]; omega))).trans (bW.mono (by omega))))
  have EW := Lib.hid eW
  have Hn := Lib.hid hn
  have R7 := Lib.hid h7W.range0
  have T9 := Lib.hid (h9.there' 3 8 (by rw [MsgV.len]; omega))
  have R9 := Lib.hid h9'.range0
  have T8 := Lib.hid (h8'.there' 0 11 (by show 11 ≤ 11; omega))
  have Hld := Lib.hid (Try.load52 _ h8f.range0)
  have Hbf := Lib.hid hbf
  clear hb eW bW hn hlW hsz1 h7 h8 h7W h8W h9 h9' hT3 h8' h8f hbf HM Hb0 H7 H8 Hsz
  go_wp2_with (first | (refine wpList_store_mid rfl 52 (.tmp 9) (.tmp 13) rfl w1.heap.size 0 (n.msg kind line).cells.toArray rfl rfl ?_ Try.size52 (oneMsg _) ?_; exact Hn.out; change wpList _ _ _ _ _ ((w1.alloc (.cells MsgV.zero.cells.toArray 52)).setCells w1.heap.size 0 (n.msg kind line).cells); rw [← EW.out]) | (refine wpList_load_mid rfl 36 (.tmp 7) rfl w.heap.size 0 rfl (L8.cells ⟨x0, x1, x2, x3, x4, x5, x6, x7⟩) _ ?_ Try.underlying36 rfl Try.size36 ?_; exact R7.out) | (refine wpList_store_mid rfl 36 (.tmp 15) (.tmp 14) rfl w1.heap.size 3 (L8.cells ⟨x0, x1, x2, x3, x4, x5, x6, x7⟩).toArray rfl rfl ?_ Try.size36 (oneL8 _) ?_; exact T9.out; change wpList _ _ _ _ _ (W.setCells w1.heap.size 3 (L8.cells ⟨x0, x1, x2, x3, x4, x5, x6, x7⟩))) | (refine wpList_load_mid rfl 52 (.tmp 9) rfl w1.heap.size 0 rfl (MsgV.cells ⟨kind, n.core, line, ⟨x0, x1, x2, x3, x4, x5, x6, x7⟩⟩) _ ?_ Try.underlying52 rfl Try.size52 ?_; exact R9.out) | (refine wpList_store_mid rfl 52 (.tmp 8) (.tmp 16) rfl (w.heap.size + 1) 0 (MsgV.cells ⟨kind, n.core, line, ⟨x0, x1, x2, x3, x4, x5, x6, x7⟩⟩).toArray rfl rfl ?_ Try.size52 (oneMsg _) ?_; exact T8.out; change wpList _ _ _ _ _ ((W.setCells w1.heap.size 3 (L8.cells ⟨x0, x1, x2, x3, x4, x5, x6, x7⟩)).setCells (w.heap.size + 1) 0 (MsgV.cells ⟨kind, n.core, line, ⟨x0, x1, x2, x3, x4, x5, x6, x7⟩⟩))))
  exact bodyPost_ret (results_c rfl rfl Hld.out) rfl ⟨rfl, Hbf.out⟩
end

end Go.Proofs.Ytddajnpichchfaa
