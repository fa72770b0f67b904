/- The directory: stores into what is known of a line; recallOwner. Conditions: those stated in each theorem. -/
import Derived.Test.YtnhainjdaafmiaaDoorDirF
namespace Go.Proofs.YtnhainjdaafmiaaDoor
open Go.RowKit

theorem known.set {w : World} {L o : Nat} {k : KnV} (h : known w L o k) (j : Nat) (v : Value) (k' : KnV) (hj : j < 16) (hk : k'.cells = k.cells.set j v) : known (w.setCell ⟨L, o + j, none⟩ v) L o k' := by
  refine ⟨fun i u hu => ?_, fun i => by rw [World.frozen?_setCell]; exact h.2 i⟩
  rw [hk] at hu
  by_cases hij : i = j
  · subst hij
    rw [List.getElem?_set_self (by rw [KnV.len]; exact hj)] at hu
    cases hu
    exact World.cell?_setCell_same _ _ _ (h.1 i _ (List.getElem?_eq_getElem (by rw [KnV.len]; exact hj)))
  · rw [List.getElem?_set_ne (Ne.symm hij)] at hu
    rw [World.cell?_setCell_other _ _ _ _ (by simp only [ne_eq, Addr.mk.injEq, not_and]; omega)]
    exact h.1 i u hu

/-- What is answered: messages in new memory. -/
def DOut (lo : Nat) (w : World) (v : Value) (ms : List MsgV) : Prop := w.ownsRow lo 45 11 v ms.length (ms.flatMap MsgV.cells)
theorem dout_none (lo : Nat) (w : World) : DOut lo w (.slice none 0 0) [] := ⟨rfl, .inl ⟨rfl, rfl⟩⟩
theorem dout_one {lo : Nat} {w : World} {v : Value} {m : MsgV} (h : w.ownsRow lo 45 11 v 1 m.cells) : DOut lo w v [m] := by
  unfold DOut; simpa using h

theorem row_setCell (w : World) (L j : Nat) (v : Value) (vs : Array Value) (T : TypeId) (r : Nat × Nat) (h : w.heap[L]? = some (.cells vs T r)) : (w.setCell ⟨L, j, none⟩ v).heap[L]? = some (.cells (vs.setIfInBounds j v) T r) := by
  simp only [World.setCell, Array.getElem?_modify]
  simp [h]

/-- What turned, of what was there, lies in C, or in the sixteen cells at o of L. -/
structure Only (C : Nat → Prop) (L o : Nat) (w w' : World) : Prop where
  tch : Tch (fun k => C k ∨ k = L) w w'
  row : ∀ vs T r, w.heap[L]? = some (.cells vs T r) → ∃ vs', w'.heap[L]? = some (.cells vs' T r) ∧ vs'.size = vs.size ∧ ∀ j, j < o ∨ o + 16 ≤ j → vs'[j]? = vs[j]?
section
variable {C D : Nat → Prop} {L o : Nat} {a b c w w' : World}
theorem Only.refl (C : Nat → Prop) (L o : Nat) (w : World) : Only C L o w w := ⟨Tch.refl _ w, fun vs _ _ h => ⟨vs, h, rfl, fun _ _ => rfl⟩⟩
theorem Only.trans (h : Only C L o a b) (k : Only C L o b c) : Only C L o a c :=
  ⟨h.tch.trans k.tch, fun vs T r hr => by
    obtain ⟨v1, h1, h2, h3⟩ := h.row vs T r hr
    obtain ⟨v2, k1, k2, k3⟩ := k.row v1 T r h1
    exact ⟨v2, k1, k2.trans h2, fun j hj => (k3 j hj).trans (h3 j hj)⟩⟩
theorem Only.mono (h : Only C L o a b) (hCD : ∀ k, C k → D k) : Only D L o a b := ⟨h.tch.mono (fun k _ hk => hk.imp_left (hCD k)), h.row⟩
theorem Only.of_tch (h : Tch C a b) (hL : ¬ C L) : Only C L o a b :=
  ⟨h.mono (fun _ _ hk => .inl hk), fun vs T r hr => ⟨vs, by rw [h.block L (Array.getElem?_eq_some_iff.1 hr).1 hL]; exact hr, rfl, fun _ _ => rfl⟩⟩
theorem Only.of_below (h : Below a.heap.size a b) : Only C L o a b :=
  ⟨⟨h.os, h.tape, h.output, h.size, fun k hk _ => h.block k hk⟩, fun vs T r hr => ⟨vs, by rw [h.block L (Array.getElem?_eq_some_iff.1 hr).1]; exact hr, rfl, fun _ _ => rfl⟩⟩
theorem Only.set (h : Only C L o a w) (j : Nat) (hj : j < 16) (v : Value) : Only C L o a (w.setCell ⟨L, o + j, none⟩ v) :=
  ⟨h.tch.setCell (.inl (.inr rfl)) v, fun vs T r hr => by
    obtain ⟨v1, h1, h2, h3⟩ := h.row vs T r hr
    refine ⟨_, row_setCell w L (o + j) v v1 T r h1, by simpa using h2, fun i hi => ?_⟩
    rw [Array.getElem?_setIfInBounds_ne (by omega)]
    exact h3 i hi⟩
theorem Only.alloc (h : Only C L o a w) (x : Obj) : Only C L o a (w.alloc x) :=
  ⟨h.tch.alloc x, fun vs T r hr => by
    obtain ⟨v1, h1, h2, h3⟩ := h.row vs T r hr
    exact ⟨v1, by rw [Below.heap_alloc w x L (Array.getElem?_eq_some_iff.1 h1).1]; exact h1, h2, h3⟩⟩
theorem Only.drew (h : Only C L o a w) : Only C L o a w.drew := ⟨h.tch.drew, h.row⟩
theorem Only.cells (h : Only C L o a w) {b : Nat} (hb : a.heap.size ≤ b) (hL : L < a.heap.size) (vs : List Value) (j : Nat) : Only C L o a (w.setCells b j vs) :=
  ⟨Tch.setCells (.inr hb) vs j h.tch, fun v0 T r hr => by
    obtain ⟨v1, h1, h2, h3⟩ := h.row v0 T r hr
    refine ⟨v1, ?_, h2, h3⟩
    rw [(Tch.setCells (C := (· = b)) (.inl rfl) vs j (Tch.refl _ w)).block L (Array.getElem?_eq_some_iff.1 h1).1 (by omega)]
    exact h1⟩
theorem known.tch {k : KnV} (h : known w L o k) (ht : Tch C w w') (hL : ¬ C L) : known w' L o k := by
  have hb := ht.block L (World.block_lt_of_cell? _ _ h.c0) hL
  exact ⟨fun j v hv => by rw [World.cell?_of_block (a := ⟨L, o + j, none⟩) hb]; exact h.1 j v hv, fun j => by rw [World.frozen?_of_block (a := ⟨L, o + j, none⟩) hb]; exact h.2 j⟩
end

def recallMsg (k : KnV) : MsgV := ⟨if k.under.kind = 2 then 13 else 12, k.owner, k.under.line, L8.zero⟩

set_option maxRecDepth 100000 in
set_option maxHeartbeats 1000000 in
theorem recallOwner_any (L o : Nat) (k : KnV) (c : Nat) (w : World) (h : known w L o k) (hc : k.owner = c) (hc4 : c < 4) :
    Calls Tryd.prog 69 #[.pointer (some ⟨L, o, none⟩)] w fun e w' => ∃ v, e = .returned v ∧ DOut w.heap.size w' v [recallMsg k] ∧ known w' L o { k with phase := 1, asked := withS 0 c } ∧ Only (fun _ => False) L o w w' := by
  have hlt := World.block_lt_of_cell? _ _ h.c0
  have h1 := h.set 13 (.int .i64 1) { k with phase := 1 } (by omega) rfl
  have h2 := h1.set 14 (.int .u64 (withS 0 c)) { k with phase := 1, asked := withS 0 c } (by omega) rfl
  have o2 : Only (fun _ => False) L o w ((w.setCell ⟨L, o + 13, none⟩ (.int .i64 1)).setCell ⟨L, o + 14, none⟩ (.int .u64 (withS 0 c))) := ((Only.refl _ L o w).set 13 (by omega) _).set 14 (by omega) _
  have c0 := h.c0
  rw [hc] at c0
  have c13 := h.c13
  have f13 := h.2 13
  have c14 := h1.c14
  have f14 := h1.2 14
  have d0 := h2.c0
  have d2 := h2.c2
  have d4 := h2.c4
  simp only [hc] at d0
  have H2 := Lib.hid h2; clear h2
  have O2 := Lib.hid o2; clear o2
  have Hc := Lib.hid hc; clear hc
  clear h h1
  by_cases hk : k.under.kind = 2
  · have hm : recallMsg k = ⟨13, c, k.under.line, L8.zero⟩ := by simp [recallMsg, hk, Hc.out]
    rw [hm]
    have hk' : (k.under.kind == 2) = true := by simpa using hk
    clear hk hm
    go_enter Tryd.func69, Tryd.ntmps69
    go_wp2_with fail
    refine (with_any 0 c _ (by omega) hc4).mono ?_
    rintro e w' ⟨rfl, rfl⟩
    go_wp2
    generalize ((w.setCell ⟨L, o + 13, none⟩ (.int .i64 1)).setCell ⟨L, o + 14, none⟩ (.int .u64 (withS 0 c))) = W2 at *
    go_still_tail 11, (by kernel_rfl)
    change wpList _ _ _ _ _ W2.drew
    go_wp2
    have hb : Below W2.heap.size W2 (W2.alloc (.cells (MsgV.cells ⟨13, c, k.under.line, L8.zero⟩).toArray 45)).drew := below_drew ((Below.refl _ W2).alloc (Nat.le_refl _) _)
    have hfin : DOut w.heap.size (W2.alloc (.cells (MsgV.cells ⟨13, c, k.under.line, L8.zero⟩).toArray 45)).drew (.slice (some ⟨W2.heap.size, 0, none⟩) 1 1) [⟨13, c, k.under.line, L8.zero⟩] ∧ known (W2.alloc (.cells (MsgV.cells ⟨13, c, k.under.line, L8.zero⟩).toArray 45)).drew L o { k with phase := 1, asked := withS 0 c } ∧ Only (fun _ => False) L o w (W2.alloc (.cells (MsgV.cells ⟨13, c, k.under.line, L8.zero⟩).toArray 45)).drew :=
      ⟨dout_one (owns_mono (owns_new W2 45 11 (MsgV.cells ⟨13, c, k.under.line, L8.zero⟩) rfl) (fun g hg => by cases hg; exact O2.out.tch.size)), H2.out.below hb (Nat.le_refl _), (O2.out.alloc _).drew⟩
    have Hfin := Lib.hid hfin; clear hfin hb
    go_ret
    exact ⟨_, rfl, Hfin.out⟩
  · have hm : recallMsg k = ⟨12, c, k.under.line, L8.zero⟩ := by simp [recallMsg, hk, Hc.out]
    rw [hm]
    have hk' : (k.under.kind == 2) = false := by simpa using hk
    clear hk hm
    go_enter Tryd.func69, Tryd.ntmps69
    go_wp2_with fail
    refine (with_any 0 c _ (by omega) hc4).mono ?_
    rintro e w' ⟨rfl, rfl⟩
    go_wp2
    generalize ((w.setCell ⟨L, o + 13, none⟩ (.int .i64 1)).setCell ⟨L, o + 14, none⟩ (.int .u64 (withS 0 c))) = W2 at *
    go_still_tail 11, (by kernel_rfl)
    change wpList _ _ _ _ _ W2.drew
    go_wp2
    have hb : Below W2.heap.size W2 (W2.alloc (.cells (MsgV.cells ⟨12, c, k.under.line, L8.zero⟩).toArray 45)).drew := below_drew ((Below.refl _ W2).alloc (Nat.le_refl _) _)
    have hfin : DOut w.heap.size (W2.alloc (.cells (MsgV.cells ⟨12, c, k.under.line, L8.zero⟩).toArray 45)).drew (.slice (some ⟨W2.heap.size, 0, none⟩) 1 1) [⟨12, c, k.under.line, L8.zero⟩] ∧ known (W2.alloc (.cells (MsgV.cells ⟨12, c, k.under.line, L8.zero⟩).toArray 45)).drew L o { k with phase := 1, asked := withS 0 c } ∧ Only (fun _ => False) L o w (W2.alloc (.cells (MsgV.cells ⟨12, c, k.under.line, L8.zero⟩).toArray 45)).drew :=
      ⟨dout_one (owns_mono (owns_new W2 45 11 (MsgV.cells ⟨12, c, k.under.line, L8.zero⟩) rfl) (fun g hg => by cases hg; exact O2.out.tch.size)), H2.out.below hb (Nat.le_refl _), (O2.out.alloc _).drew⟩
    have Hfin := Lib.hid hfin; clear hfin hb
    go_ret
    exact ⟨_, rfl, Hfin.out⟩

end Go.Proofs.YtnhainjdaafmiaaDoor
