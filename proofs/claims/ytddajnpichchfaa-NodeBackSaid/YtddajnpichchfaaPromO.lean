/- Promote, where it holds the line Shared. Conditions: those stated in each theorem. -/
import Derived.Test.YtddajnpichchfaaPromR
namespace Go.Proofs.Ytddajnpichchfaa
open Go.RowKit

set_option maxRecDepth 100000 in
set_option maxHeartbeats 1000000 in
theorem promote_ok {w : World} {p S : Nat} {bs : List Nat} {ways : Nat} {ss : List (List Ent)} {u : Int} (h : CacheAt w p S bs ways ss u) (k : Int) (d : L8) {i j : Nat} (hf : Finds ss k = some (i, j)) (ht : (getE ss i j).state = 1) :
    Calls Try.prog 42 #[.pointer (some ⟨p, 0, none⟩), .int .i64 k, .agg #[.int .u64 d.x0, .int .u64 d.x1, .int .u64 d.x2, .int .u64 d.x3, .int .u64 d.x4, .int .u64 d.x5, .int .u64 d.x6, .int .u64 d.x7]] w (PromotePost p S ways bs ss u i j d w) := by
  obtain ⟨b, hbx, hjl⟩ := Finds.bk h hf
  have h0 := h.alloc (.cells #[.int .u64 d.x0, .int .u64 d.x1, .int .u64 d.x2, .int .u64 d.x3, .int .u64 d.x4, .int .u64 d.x5, .int .u64 d.x6, .int .u64 d.x7] 36)
  have H := Lib.hid (heldAs_ok h0 1 hf hbx ht)
  have H0 := Lib.hid h0
  have Hbox : Hid (Holds (w.alloc (.cells #[.int .u64 d.x0, .int .u64 d.x1, .int .u64 d.x2, .int .u64 d.x3, .int .u64 d.x4, .int .u64 d.x5, .int .u64 d.x6, .int .u64 d.x7] 36)) w.heap.size 36 d.cells) := Lib.hid (Holds.new w 36 d.cells)
  have HB0 : Hid (Below w.heap.size w (w.alloc (.cells #[.int .u64 d.x0, .int .u64 d.x1, .int .u64 d.x2, .int .u64 d.x3, .int .u64 d.x4, .int .u64 d.x5, .int .u64 d.x6, .int .u64 d.x7] 36))) := Lib.hid ((Below.refl _ w).alloc (Nat.le_refl _) _)
  have Hs0 : Hid ((w.alloc (.cells #[.int .u64 d.x0, .int .u64 d.x1, .int .u64 d.x2, .int .u64 d.x3, .int .u64 d.x4, .int .u64 d.x5, .int .u64 d.x6, .int .u64 d.x7] 36)).heap.size = w.heap.size + 1) := Lib.hid (by simp)
  have Hlt := Lib.hid h.lt
  clear h h0 hf ht
  have Hbx := Lib.hid hbx; clear hbx
  go_enter Try.func42, Try.ntmps42
  go_wp2_with fail
  refine H.out.mono ?_
  rintro e w1 ⟨rfl, hb⟩
  have h1 := H0.out.below hb (Nat.le_refl _)
  obtain ⟨s, hs, he, hr⟩ := h1.ent Hbx.out hjl
  have c1 := hr.ent he (k := 1) (by omega) rfl
  have f1 := hr.free (j * 21 + 1)
  have hbox1 := Hbox.out.same (hb.block w.heap.size (by rw [Hs0.out]; omega))
  have hbl := Hlt.out.2.2 b (List.mem_of_getElem? Hbx.out)
  have hB := HB0.out.trans (hb.mono (by rw [Hs0.out]; omega))
  have hE : PromAt w1.drew b j w.heap.size d (getE ss i j).state := ⟨c1, f1, hbox1.rangeAll, fun x v hx => by
    rw [World.cell?_setCell_other _ _ _ _ (fun e => by simp at e; try omega)]; exact hbox1.rangeAll x v hx,
    there_set (w := w1.drew) (hr.there he (k := 4) (n := 8) (by omega)) _ _⟩
  have h3 := h1.puts Hbx.out hs he (e' := { getE ss i j with state := 2, data := d }) [(1, [.int .i64 2]), (4, d.cells)] (by simp [L8.cells]) rfl
  have hT3 : Tch (Turns p bs) w (wr w1 b (j * 21) [(1, [.int .i64 2]), (4, d.cells)]) := Tch.wrs (.inl (.inr (List.mem_of_getElem? Hbx.out))) _ (turns_of_below hB)
  have e1 : (w1.drew.setCell ⟨b, j * 21 + 1, none⟩ (.int .i64 2)).setCells b (j * 21 + 4) d.cells = (wr w1 b (j * 21) [(1, [.int .i64 2]), (4, d.cells)]).drew := setCells_drew d.cells (j * 21 + 4) (w1.setCell ⟨b, j * 21 + 1, none⟩ (.int .i64 2))
  have H3 : Hid (CacheAt ((w1.drew.setCell ⟨b, j * 21 + 1, none⟩ (.int .i64 2)).setCells b (j * 21 + 4) d.cells) p S bs ways (upd ss i j { getE ss i j with state := 2, data := d }) u) := Lib.hid (by
    rw [e1]; exact h3.frame (C := fun _ => False) (Tch.refl _ _).drew (fun h => h) (fun h => h) (fun _ _ h => h))
  have HT3 : Hid (Tch (Turns p bs) w ((w1.drew.setCell ⟨b, j * 21 + 1, none⟩ (.int .i64 2)).setCells b (j * 21 + 4) d.cells)) := Lib.hid (by
    rw [e1]; exact hT3.drew)
  have HE := Lib.hid hE; clear hE
  clear hs he hr h1 hb hB h3 hT3 c1 f1 hbox1 hbl e1
  go_wp2_with fail
  refine (wpIn_wide (n := 9)).1 ?_
  refine prom_region 9 w.heap.size b j d _ _ _ _ _ _ _ _ _ _ _ _ _ _ _ _ _ _ _ _ _ _ _ _ _ w1 HE.out ?_
  go_wp2
  go_ret
  exact ⟨rfl, H3.out, HT3.out⟩

end Go.Proofs.Ytddajnpichchfaa
