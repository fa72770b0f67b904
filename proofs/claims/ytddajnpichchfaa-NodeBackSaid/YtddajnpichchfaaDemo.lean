/- Demote. Conditions: those stated in each theorem. -/
import Derived.Test.YtddajnpichchfaaFillO
namespace Go.Proofs.Ytddajnpichchfaa
open Go.RowKit

theorem Try.load36 {w : World} {b : Nat} (e : L8) (h : w.rangeAt b 0 e.cells) : (loadVar 36 ⟨b, 0, none⟩).run Try.prog w = .ok (.agg e.cells.toArray) w :=
  run_loadVar_mid (P := Try.prog) w b 0 36 e.cells _ h Try.underlying36 rfl Try.size36

theorem L8.len (d : L8) : d.cells.length = 8 := rfl

set_option maxRecDepth 100000 in
set_option maxHeartbeats 1000000 in
theorem demote_bad {w : World} {q : Value} {v : Int} (k : Int) (hv : v = 1 ∨ v = 20) (h : ∀ W, W = w.alloc (.cells L8.zero.cells.toArray 36) → Calls Try.prog 77 #[q, .int .i64 k, .int .i64 2] W fun e w' => e = .returned (.tuple #[.pointer none, .int .i64 v]) ∧ Below W.heap.size W w') :
    Calls Try.prog 40 #[q, .int .i64 k] w fun e w' => e = .returned (.tuple #[.agg L8.zero.cells.toArray, .int .i64 v]) ∧ Below w.heap.size w w' := by
  have H := Lib.hid (h _ rfl)
  have Hn := Lib.hid (there_new w L8.zero.cells 36 8 rfl)
  have hB0 : Below w.heap.size w (w.alloc (.cells L8.zero.cells.toArray 36)) := (Below.refl _ w).alloc (Nat.le_refl _) _
  have hs0 : (w.alloc (.cells L8.zero.cells.toArray 36)).heap.size = w.heap.size + 1 := by simp
  have HB0 := Lib.hid hB0; clear hB0
  have Hs0 := Lib.hid hs0; clear hs0
  clear h
  rcases hv with rfl | rfl
  all_goals
    go_enter Try.func40, Try.ntmps40
    go_wp2_with fail
    refine H.out.mono ?_
    rintro e w1 ⟨rfl, hb⟩
    have ht := there_later Hn.out (hb.block w.heap.size (by rw [Hs0.out]; omega))
    have hB := HB0.out.trans (hb.mono (by rw [Hs0.out]; omega))
    have Ht := Lib.hid ht; clear ht
    have HB := Lib.hid hB; clear hB
    clear hb
    go_wp2_with (refine wpList_store_mid rfl 36 (.tmp 4) (.tmp 16) rfl w.heap.size 0 L8.zero.cells.toArray rfl rfl ?_ Try.size36 (oneCells _) ?_; exact Ht.out)
    have hl := Try.load36 (w := w1.setCells w.heap.size 0 L8.zero.cells) L8.zero (range_set (w := w1) (b := w.heap.size) (o := 0) L8.zero.cells (by rw [L8.len]; exact Ht.out))
    exact bodyPost_ret (results_ct rfl rfl hl rfl) rfl ⟨rfl, below_setCells (Nat.le_refl _) _ _ HB.out⟩

def DemotePost (p S ways : Nat) (bs : List Nat) (ss : List (List Ent)) (u : Int) (i j : Nat) (w : World) (e : Ending) (w' : World) : Prop :=
  e = .returned (.tuple #[.agg (getE ss i j).data.cells.toArray, .int .i64 0]) ∧ CacheAt w' p S bs ways (upd ss i j { getE ss i j with state := 1 }) u ∧ Tch (Turns p bs) w w'

theorem range_aside {w : World} {b o q : Nat} {L : List Value} (h : w.rangeAt b o L) (hq : q < o) (v : Value) : (w.setCell ⟨b, q, none⟩ v).rangeAt b o L := fun i x hx => by
  rw [World.cell?_setCell_other _ _ _ _ (fun e => by simp at e; try omega)]
  exact h i x hx

set_option maxRecDepth 100000 in
set_option maxHeartbeats 1000000 in
theorem demote_ok {w : World} {p S : Nat} {bs : List Nat} {ways : Nat} {ss : List (List Ent)} {u : Int} (h : CacheAt w p S bs ways ss u) (k : Int) {i j : Nat} (hf : Finds ss k = some (i, j)) (ht : (getE ss i j).state = 2) :
    Calls Try.prog 40 #[.pointer (some ⟨p, 0, none⟩), .int .i64 k] w (DemotePost p S ways bs ss u i j w) := by
  obtain ⟨b, hbx, hjl⟩ := Finds.bk h hf
  have h0 := h.alloc (.cells L8.zero.cells.toArray 36)
  have H := Lib.hid (heldAs_ok h0 2 hf hbx ht)
  have H0 := Lib.hid h0
  have Hn := Lib.hid (there_new w L8.zero.cells 36 8 rfl)
  have hB0 : Below w.heap.size w (w.alloc (.cells L8.zero.cells.toArray 36)) := (Below.refl _ w).alloc (Nat.le_refl _) _
  have hs0 : (w.alloc (.cells L8.zero.cells.toArray 36)).heap.size = w.heap.size + 1 := by simp
  have HB0 := Lib.hid hB0; clear hB0
  have Hs0 := Lib.hid hs0; clear hs0
  have Hlt := Lib.hid h.lt
  clear h h0 hf ht
  have Hbx := Lib.hid hbx; clear hbx
  go_enter Try.func40, Try.ntmps40
  go_wp2_with fail
  refine H.out.mono ?_
  rintro e w1 ⟨rfl, hb⟩
  have h1 := H0.out.below hb (Nat.le_refl _)
  obtain ⟨s, hs, he, hr⟩ := h1.ent Hbx.out hjl
  have c1 := hr.ent he (k := 1) (by omega) rfl
  have f1 := hr.free (j * 21 + 1)
  have hg := range_aside (q := j * 21 + 1) (hr.words he) (by omega) (.int .i64 1)
  have ht := there_set (there_later Hn.out (hb.block w.heap.size (by rw [Hs0.out]; omega))) ⟨b, j * 21 + 1, none⟩ (.int .i64 1)
  have hB := HB0.out.trans (hb.mono (by rw [Hs0.out]; omega))
  have h3 := h1.puts Hbx.out hs he (e' := { getE ss i j with state := 1 }) [(1, [.int .i64 1])] (by simp) rfl
  have hT3 : Tch (Turns p bs) w (wr w1 b (j * 21) [(1, [.int .i64 1])]) := Tch.wrs (.inl (.inr (List.mem_of_getElem? Hbx.out))) _ (turns_of_below hB)
  have h5 : CacheAt ((w1.setCell ⟨b, j * 21 + 1, none⟩ (.int .i64 1)).setCells w.heap.size 0 (getE ss i j).data.cells) p S bs ways (upd ss i j { getE ss i j with state := 1 }) u :=
    h3.frame (Tch.setCells (C := (· = w.heap.size)) (.inl rfl) (getE ss i j).data.cells 0 (Tch.refl _ _)) (by have := Hlt.out.1; omega) (by have := Hlt.out.2.1; omega) (fun b hb => by have := Hlt.out.2.2 b hb; omega)
  have hT5 : Tch (Turns p bs) w ((w1.setCell ⟨b, j * 21 + 1, none⟩ (.int .i64 1)).setCells w.heap.size 0 (getE ss i j).data.cells) :=
    Tch.setCells (.inr (Nat.le_refl _)) _ _ hT3
  have Hg := Lib.hid hg; clear hg
  have Ht := Lib.hid ht; clear ht
  have H5 := Lib.hid h5; clear h5
  have HT5 := Lib.hid hT5; clear hT5
  clear hs he hr h1 hb hB h3 hT3
  generalize (getE ss i j).state = x at c1
  go_wp2_with (first | (refine wpList_load_mid rfl 36 (.tmp 23) rfl b (j * 21 + 4) rfl (getE ss i j).data.cells _ ?_ Try.underlying36 rfl Try.size36 ?_; exact Hg.out) | (refine wpList_store_mid rfl 36 (.tmp 4) (.tmp 24) rfl w.heap.size 0 (getE ss i j).data.cells.toArray rfl rfl ?_ Try.size36 (oneCells _) ?_; exact Ht.out))
  have hl := Try.load36 (w := (w1.setCell ⟨b, j * 21 + 1, none⟩ (.int .i64 1)).setCells w.heap.size 0 (getE ss i j).data.cells) (getE ss i j).data (range_set (b := w.heap.size) (o := 0) (getE ss i j).data.cells (by rw [L8.len]; exact Ht.out))
  exact bodyPost_ret (results_ct rfl rfl hl rfl) rfl ⟨rfl, H5.out, HT5.out⟩

end Go.Proofs.Ytddajnpichchfaa
