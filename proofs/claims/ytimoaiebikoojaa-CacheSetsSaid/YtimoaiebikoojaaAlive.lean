/- CacheNames: the example that it calls. Conditions: those stated in each theorem. -/
import Derived.Test.YtimoaiebikoojaaPromO
import Derived.BigFrame
namespace Go.Proofs.Ytimoaiebikoojaa
open Go.RowKit Go.BigFrame

theorem wpList_load_want {P : Program} {w : World} {ops : Array Oper} {rest : List Oper} {op : Oper} {a : Act} {Q : Exit → Act → World → Prop} (hw : Region.wanted op (yielded ops a.tmps) = true) (ty : TypeId) (x : Operand) (ho : op.op = .load ty x)
    (b o : Nat) (hx : a.eval x = .pointer (some ⟨b, o, none⟩)) (cs : List Value) (d : TypeDesc) (hc : w.rangeAt b o cs)
    (hu : P.underlying ty = some d) (hd : d.isRow = true) (hi : (P.info? ty).map (·.size) = some cs.length)
    (h : wpList P ops Q rest (a.put op.dst (.agg cs.toArray)) w) : wpList P ops Q (op :: rest) a w :=
  wpList_want hw fun _ hK => wp_load_mid ty x ho b o hx cs d hc hu hd hi (hK _ _ h)

def d1 : L8 := ⟨1, 0, 0, 0, 0, 0, 0, 0⟩
def A0 : List (List Ent) := newSets 1 2
def A1 : List (List Ent) := upd A0 0 0 (Ent.fresh (0 : Nat) 1 L8.zero (0 + 1))
def A2 : List (List Ent) := upd A1 0 1 (Ent.fresh (5 : Nat) 2 d1 (0 + 1 + 1))
def A3 : List (List Ent) := upd A2 0 0 { getE A2 0 0 with used := 0 + 1 + 1 + 1 }
def A4 : List (List Ent) := upd A3 0 1 (Ent.fresh (7 : Nat) 1 L8.zero (0 + 1 + 1 + 1 + 1))
def A5 : List (List Ent) := upd A4 0 0 { getE A4 0 0 with read := true }
def A6 : List (List Ent) := upd A5 0 1 { getE A5 0 1 with read := true }
theorem a_f1 : Finds A0 (0 : Nat) = none := by kernel_rfl
theorem a_g1 : Goes A0 0 = some (0, 0) := by kernel_rfl
theorem a_f2 : Finds A1 (5 : Nat) = none := by kernel_rfl
theorem a_g2 : Goes A1 5 = some (0, 1) := by kernel_rfl
theorem a_f3 : Finds A2 ((0 / 8 : Nat) : Int) = some (0, 0) := by kernel_rfl
theorem a_f4 : Finds A3 (7 : Nat) = none := by kernel_rfl
theorem a_g4 : Goes A3 7 = some (0, 1) := by kernel_rfl
theorem a_f5 : Finds A4 0 = some (0, 0) := by kernel_rfl
theorem a_f6 : Finds A5 7 = some (0, 1) := by kernel_rfl
theorem a_f7 : Finds A6 (9 : Nat) = none := by kernel_rfl
theorem a_g7 : Goes A6 9 = none := by kernel_rfl
theorem a_s4 : ((getE A3 0 1).state != 0) = true := by kernel_rfl
theorem a_e4 : (getE A3 0 1).cells = (Ent.fresh 5 2 d1 2).cells := by kernel_rfl

@[go_sem ↓ high] theorem alive_eq (w : World) : (Op.equalIn 10000 42 (.agg (Ent.fresh 5 2 d1 2).cells.toArray) (.agg #[.int .i64 5, .int .i64 2, .bool false, .bool false, .int .u64 1, .int .u64 0, .int .u64 0, .int .u64 0, .int .u64 0, .int .u64 0, .int .u64 0, .int .u64 0, .int .u64 0, .int .u64 0, .int .u64 0, .int .u64 0, .int .u64 0, .int .u64 0, .int .u64 0, .int .u64 0, .int .i64 2])).run Try.prog w = .ok true w := by
  kernel_rfl

set_option maxRecDepth 100000 in
set_option maxHeartbeats 1000000 in
theorem alive_ok (w : World) : Calls Try.prog 22 #[] w fun e w' => e = .returned (.bool true) ∧ Below w.heap.size w w' := by
  go_enter Try.func22, Try.ntmps22
  go_wp2_with fail
  refine (new_ok 1 2 w (by omega) (by omega) (by omega) (by omega)).mono ?_
  rintro e w0 ⟨p, S, bs, rfl, -, h0, hb0, hp, hS, hbs⟩
  have hC : ∀ k, Turns p bs k → w.heap.size ≤ k := fun k hk => hk.elim (fun e => e ▸ hp) (hbs k)
  have hw0 := hb0.size
  have H0 := Lib.hid h0; clear h0
  have HB0 := Lib.hid hb0; clear hb0
  have HC := Lib.hid hC; clear hC
  have Hw0 := Lib.hid hw0; clear hw0
  clear hp hS hbs
  go_wp2_with fail
  refine (fill_ok (k := 0) (st := 1) (d := L8.zero) (ss := A0) (u := 0) H0.out (.inl rfl) a_f1 a_g1 (by omega) (by omega)).mono ?_
  rintro e w1 ⟨rfl, h1, hT1⟩
  have HB1 := Lib.hid (HB0.out.trans (hT1.below Hw0.out HC.out))
  have Hw1 := Lib.hid (Nat.le_trans Hw0.out hT1.size)
  have H1 : Hid (CacheAt w1 p S bs 2 A1 (0 + 1)) := Lib.hid h1
  clear h1 hT1
  go_wp2_with fail
  refine (fill_ok (k := 5) (st := 2) (d := d1) (ss := A1) (u := 0 + 1) H1.out (.inr rfl) a_f2 a_g2 (by omega) (by omega)).mono ?_
  rintro e w2 ⟨rfl, h2, hT2⟩
  have HB2 := Lib.hid (HB1.out.trans (hT2.below Hw1.out HC.out))
  have Hw2 := Lib.hid (Nat.le_trans Hw1.out hT2.size)
  have H2 : Hid (CacheAt w2 p S bs 2 A2 (0 + 1 + 1)) := Lib.hid h2
  clear h2 hT2
  go_wp2_with fail
  refine (word_ok (a := 0) (ss := A2) (u := 0 + 1 + 1) H2.out (by omega) a_f3 (by omega) (by omega)).mono ?_
  rintro e w3 ⟨rfl, h3, hT3⟩
  have HB3 := Lib.hid (HB2.out.trans (hT3.below Hw2.out HC.out))
  have Hw3 := Lib.hid (Nat.le_trans Hw2.out hT3.size)
  have H3 : Hid (CacheAt w3 p S bs 2 A3 (0 + 1 + 1 + 1)) := Lib.hid h3
  clear h3 hT3
  go_wp2_with fail
  refine (fill_ok (k := 7) (st := 1) (d := L8.zero) (ss := A3) (u := 0 + 1 + 1 + 1) H3.out (.inl rfl) a_f4 a_g4 (by omega) (by omega)).mono ?_
  rintro e w4 ⟨rfl, h4, hT4⟩
  have HB4 := Lib.hid (HB3.out.trans (hT4.below Hw3.out HC.out))
  have Hw4 := Lib.hid (Nat.le_trans Hw3.out hT4.size)
  have H4 : Hid (CacheAt w4 p S bs 2 A4 (0 + 1 + 1 + 1 + 1)) := Lib.hid h4
  clear h4 hT4
  rw [a_e4]
  obtain ⟨W5, eW5⟩ : ∃ W5, W5 = (w4.alloc (.cells Ent.zero.cells.toArray 42)).setCells w4.heap.size 0 (Ent.fresh 5 2 d1 2).cells := ⟨_, rfl⟩
  have hn4 := there_new w4 Ent.zero.cells 42 21 rfl
  have hT5 : Tch (fun k => k = w4.heap.size) w4 W5 := eW5 ▸ Tch.setCells (C := fun k => k = w4.heap.size) (.inl rfl) _ _ ((Tch.refl _ w4).alloc _)
  have hr5 : W5.rangeAt w4.heap.size 0 (Ent.fresh 5 2 d1 2).cells := eW5 ▸ range_set (Ent.fresh 5 2 d1 2).cells (by rw [Ent.len]; exact hn4)
  have hl4 := H4.out.lt
  have hsz5 : w4.heap.size < W5.heap.size := by
    rw [eW5]
    have := (Tch.setCells (C := fun k => k = w4.heap.size) (.inl rfl) (Ent.fresh 5 2 d1 2).cells 0 (Tch.refl _ (w4.alloc (.cells Ent.zero.cells.toArray 42)))).size
    rw [World.size_alloc] at this
    omega
  have H5 := Lib.hid (H4.out.frame hT5 (by omega) (by omega) (fun b hb => by have := hl4.2.2 b hb; omega))
  have HB5 := Lib.hid (HB4.out.trans (hT5.below (B := w.heap.size) Hw4.out (fun k hk => hk ▸ Hw4.out)))
  have Hw5 := Lib.hid (Nat.le_trans Hw4.out hT5.size)
  have Hn4 := Lib.hid hn4; clear hn4
  have Hr5 := Lib.hid hr5; clear hr5
  have Hsz5 := Lib.hid hsz5; clear hsz5
  have Hl4 := Lib.hid hl4; clear hl4
  have EW5 := Lib.hid eW5; clear eW5 hT5
  go_wp2_with (refine wpList_store_mid rfl 42 (.tmp 5) (.tmp 30) rfl w4.heap.size 0 (Ent.fresh 5 2 d1 2).cells.toArray rfl rfl ?_ Try.size42 (oneEnt _) ?_; exact Hn4.out; change wpList _ _ _ _ _ ((w4.alloc (.cells Ent.zero.cells.toArray 42)).setCells w4.heap.size 0 (Ent.fresh 5 2 d1 2).cells); rw [← EW5.out])
  refine (mark_read (ss := A4) H5.out 0 a_f5).mono ?_
  rintro e w6 ⟨rfl, h6, hT6⟩
  have hnb : ¬ Turns p bs w4.heap.size := fun hk => hk.elim (fun e => by have := Hl4.out.1; omega) (fun h => by have := Hl4.out.2.2 _ h; omega)
  have HN := Lib.hid hnb; clear hnb
  have HR6 := Lib.hid (show w6.rangeAt w4.heap.size 0 (Ent.fresh 5 2 d1 2).cells from fun x v hx => by rw [World.cell?_of_block (a := ⟨w4.heap.size, 0 + x, none⟩) (hT6.block _ Hsz5.out HN.out)]; exact Hr5.out x v hx)
  have HB6 := Lib.hid (HB5.out.trans (hT6.below Hw5.out HC.out))
  have Hw6 := Lib.hid (Nat.le_trans Hw5.out hT6.size)
  have Hsz6 := Lib.hid (Nat.lt_of_lt_of_le Hsz5.out hT6.size)
  have H6 : Hid (CacheAt w6 p S bs 2 A5 (0 + 1 + 1 + 1 + 1)) := Lib.hid h6
  clear h6 hT6
  go_wp2_with fail
  refine (mark_read (ss := A5) H6.out 7 a_f6).mono ?_
  rintro e w7 ⟨rfl, h7, hT7⟩
  have HR7 := Lib.hid (show w7.rangeAt w4.heap.size 0 (Ent.fresh 5 2 d1 2).cells from fun x v hx => by rw [World.cell?_of_block (a := ⟨w4.heap.size, 0 + x, none⟩) (hT7.block _ Hsz6.out HN.out)]; exact HR6.out x v hx)
  have HB7 := Lib.hid (HB6.out.trans (hT7.below Hw6.out HC.out))
  have Hw7 := Lib.hid (Nat.le_trans Hw6.out hT7.size)
  have Hsz7 := Lib.hid (Nat.lt_of_lt_of_le Hsz6.out hT7.size)
  have H7 : Hid (CacheAt w7 p S bs 2 A6 (0 + 1 + 1 + 1 + 1)) := Lib.hid h7
  clear h7 hT7
  go_wp2_with fail
  refine (fill_marked (ss := A6) H7.out 9 1 L8.zero (.inl rfl) a_f7 a_g7).mono ?_
  rintro e w8 ⟨rfl, hb8⟩
  have HR8 := Lib.hid (show w8.rangeAt w4.heap.size 0 (Ent.fresh 5 2 d1 2).cells from fun x v hx => by rw [World.cell?_of_block (a := ⟨w4.heap.size, 0 + x, none⟩) (hb8.block _ Hsz7.out)]; exact HR7.out x v hx)
  have HB8 := Lib.hid (HB7.out.trans (hb8.mono Hw7.out))
  have Hw8 := Lib.hid (Nat.le_trans Hw7.out hb8.size)
  have Hsz8 := Lib.hid (Nat.lt_of_lt_of_le Hsz7.out hb8.size)
  clear hb8
  rw [a_s4]
  obtain ⟨W9, eW9⟩ : ∃ W9, W9 = (w8.alloc (.cells Ent.zero.cells.toArray 42)).setCells w8.heap.size 0 Ent.zero.cells := ⟨_, rfl⟩
  have hn8 := there_new w8 Ent.zero.cells 42 21 rfl
  have hT9 : Tch (fun k => k = w8.heap.size) w8 W9 := eW9 ▸ Tch.setCells (C := fun k => k = w8.heap.size) (.inl rfl) _ _ ((Tch.refl _ w8).alloc _)
  have HR9 := Lib.hid (show W9.rangeAt w4.heap.size 0 (Ent.fresh 5 2 d1 2).cells from fun x v hx => by rw [World.cell?_of_block (a := ⟨w4.heap.size, 0 + x, none⟩) (hT9.block _ Hsz8.out (Nat.ne_of_lt Hsz8.out))]; exact HR8.out x v hx)
  have HB9 := Lib.hid (HB8.out.trans (hT9.below (B := w.heap.size) Hw8.out (fun k hk => hk ▸ Hw8.out)))
  have Hn8 := Lib.hid hn8; clear hn8
  have EW9 := Lib.hid eW9; clear eW9 hT9
  go_wp2_with (first | (refine wpList_store_mid rfl 42 (.tmp 8) (.tmp 41) rfl w8.heap.size 0 Ent.zero.cells.toArray rfl rfl ?_ Try.size42 (oneEnt _) ?_; exact Hn8.out; change wpList _ _ _ _ _ ((w8.alloc (.cells Ent.zero.cells.toArray 42)).setCells w8.heap.size 0 Ent.zero.cells); rw [← EW9.out]) | (refine wpList_load_want (by rfl) 42 (.tmp 5) rfl w4.heap.size 0 rfl (Ent.fresh 5 2 d1 2).cells _ ?_ Try.underlying42 rfl Try.size42 ?_; exact HR9.out))
  go_ret
  exact ⟨rfl, HB9.out⟩

end Go.Proofs.Ytimoaiebikoojaa
