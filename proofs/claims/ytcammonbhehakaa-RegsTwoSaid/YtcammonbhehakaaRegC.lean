/- A file of registers: All, Point, Restore, Save. Conditions: those stated in each theorem. -/
import Derived.Test.YtcammonbhehakaaRegB
namespace Go.Proofs.Ytcammonbhehakaa
open Go.RowKit Go.BigFrame

theorem eqItems_step (d i : Nat) (is : List Nat) (xs ys : Array Value) (a b : Int) (w : World) (h1 : (part 26 xs (i * 1)).run Try.prog w = .ok (.int .u64 a) w) (h2 : (part 26 ys (i * 1)).run Try.prog w = .ok (.int .u64 b) w) :
    (Op.eqItems (d + 1) 26 1 xs ys (i :: is)).run Try.prog w = if a == b then (Op.eqItems (d + 1) 26 1 xs ys is).run Try.prog w else .ok false w := by
  simp only [Op.eqItems, Sem.run_bind, h1, h2, Result.andThen_ok, run_equalIn_int w d 26 .u64 .u64 a b Try.underlying26]
  cases a == b <;> simp

theorem L8.eqb (x y : L8) : (x.x0 == y.x0 && x.x1 == y.x1 && x.x2 == y.x2 && x.x3 == y.x3 && x.x4 == y.x4 && x.x5 == y.x5 && x.x6 == y.x6 && x.x7 == y.x7) = decide (x = y) := by
  obtain ⟨x0, x1, x2, x3, x4, x5, x6, x7⟩ := x
  obtain ⟨y0, y1, y2, y3, y4, y5, y6, y7⟩ := y
  rw [Bool.eq_iff_iff]; simp [and_assoc]

@[go_sem] theorem eq_lines (x0 x1 x2 x3 x4 x5 x6 x7 y0 y1 y2 y3 y4 y5 y6 y7 : Int) (w : World) :
    (Op.equalIn 10000 27 (.agg #[.int .u64 x0, .int .u64 x1, .int .u64 x2, .int .u64 x3, .int .u64 x4, .int .u64 x5, .int .u64 x6, .int .u64 x7])
      (.agg #[.int .u64 y0, .int .u64 y1, .int .u64 y2, .int .u64 y3, .int .u64 y4, .int .u64 y5, .int .u64 y6, .int .u64 y7])).run Try.prog w =
      .ok (decide ((⟨x0, x1, x2, x3, x4, x5, x6, x7⟩ : L8) = ⟨y0, y1, y2, y3, y4, y5, y6, y7⟩)) w := by
  rw [run_equalIn_array w 9999 _ _ Try.underlying27 (show Try.prog.info? 26 = some (Try.prog.info? 26).get! from by kernel_rfl), show Try.prog.cellsOf 26 = 1 from by kernel_rfl, show List.range 8 = [0, 1, 2, 3, 4, 5, 6, 7] from rfl]
  rw [eqItems_step 9998 0 _ _ _ x0 y0 w (by kernel_rfl) (by kernel_rfl), eqItems_step 9998 1 _ _ _ x1 y1 w (by kernel_rfl) (by kernel_rfl), eqItems_step 9998 2 _ _ _ x2 y2 w (by kernel_rfl) (by kernel_rfl),
    eqItems_step 9998 3 _ _ _ x3 y3 w (by kernel_rfl) (by kernel_rfl), eqItems_step 9998 4 _ _ _ x4 y4 w (by kernel_rfl) (by kernel_rfl), eqItems_step 9998 5 _ _ _ x5 y5 w (by kernel_rfl) (by kernel_rfl),
    eqItems_step 9998 6 _ _ _ x6 y6 w (by kernel_rfl) (by kernel_rfl), eqItems_step 9998 7 _ _ _ x7 y7 w (by kernel_rfl) (by kernel_rfl)]
  rw [← L8.eqb]
  cases x0 == y0 <;> cases x1 == y1 <;> cases x2 == y2 <;> cases x3 == y3 <;> cases x4 == y4 <;> cases x5 == y5 <;> cases x6 == y6 <;> cases x7 == y7 <;> simp [Op.eqItems]

theorem Try.sizeRegs : (Try.prog.info? 27).map (·.size) = some 8 := by kernel_rfl
theorem Try.sizeMo : (Try.prog.info? 46).map (·.size) = some 9 := by kernel_rfl

section
variable {w w' : World} {a : Nat} {f : Fl}

theorem oneMo (m : Mo) : (m.cells.toArray).all (·.oneCell') = true := by simp [Mo.cells, Value.oneCell']
theorem Try.loadRegs {w : World} {b o : Nat} (e : L8) (h : w.rangeAt b o e.cells) : (loadVar 27 ⟨b, o, none⟩).run Try.prog w = .ok (.agg e.cells.toArray) w :=
  run_loadVar_mid w b o 27 e.cells _ h Try.underlying27 rfl Try.sizeRegs

/-- A fresh box of eight words, with words in it. -/
theorem lbox (w : World) (e : L8) : ∃ W, W = (w.alloc (.cells L8.zero.cells.toArray 27)).setCells w.heap.size 0 e.cells ∧ Below w.heap.size w W ∧ (w.alloc (.cells L8.zero.cells.toArray 27)).there w.heap.size 0 8 ∧ W.rangeAt w.heap.size 0 e.cells :=
  ⟨_, rfl, below_cells (Nat.le_refl _) _ _ _ ((Below.refl _ w).alloc (Nat.le_refl _) _), there_new w L8.zero.cells 27 8 rfl, range_set e.cells (there_new w L8.zero.cells 27 8 rfl)⟩

set_option maxRecDepth 100000 in
set_option maxHeartbeats 1000000 in
theorem all_any (h : FlAt w a f) : Calls Try.prog 19 #[.pointer (some ⟨a, 0, none⟩)] w fun e w' => e = .returned (.agg f.m.r.cells.toArray) ∧ Below w.heap.size w w' := by
  obtain ⟨pv, h⟩ := h
  have hr : (w.alloc (.cells L8.zero.cells.toArray 27)).rangeAt a 0 f.m.r.cells := fun i v hi => by
    rw [Nat.zero_add]
    refine (h.head.alloc _).cell ?_
    match i, (List.getElem?_eq_some_iff.1 hi).1 with
    | 0, _ => exact hi | 1, _ => exact hi | 2, _ => exact hi | 3, _ => exact hi | 4, _ => exact hi | 5, _ => exact hi | 6, _ => exact hi | 7, _ => exact hi
  clear h
  generalize f.m.r = x at *
  obtain ⟨W, eW, hb, ht, hl⟩ := lbox w x
  have HR := Lib.hid hr; clear hr
  have HT := Lib.hid ht; clear ht
  have HE := Lib.hid eW; clear eW
  have HB := Lib.hid hb; clear hb
  have HL := Lib.hid hl; clear hl
  go_enter Try.func19, Try.ntmps19
  go_wp2_with (first | (refine wpList_load_mid rfl 27 (.tmp 9) rfl a 0 rfl x.cells _ ?_ Try.underlying27 rfl Try.sizeRegs ?_; exact HR.out) | (refine wpList_store_mid rfl 27 (.tmp 2) (.tmp 10) rfl w.heap.size 0 x.cells.toArray rfl rfl ?_ Try.sizeRegs (oneL8 _) ?_; exact HT.out; change wpList _ _ _ _ _ ((w.alloc (.cells L8.zero.cells.toArray 27)).setCells w.heap.size 0 x.cells); rw [← HE.out]))
  exact bodyPost_ret (results_c rfl rfl (Try.loadRegs x HL.out) ) rfl ⟨rfl, HB.out⟩

set_option maxRecDepth 100000 in
set_option maxHeartbeats 1000000 in
theorem all_nil (w : World) : Calls Try.prog 19 #[.pointer none] w fun e w' => e = .returned (.agg L8.zero.cells.toArray) ∧ Below w.heap.size w w' := by
  obtain ⟨W, eW, hb, ht, hl⟩ := lbox w L8.zero
  have HT := Lib.hid ht; clear ht
  have HE := Lib.hid eW; clear eW
  have HB := Lib.hid hb; clear hb
  have HL := Lib.hid hl; clear hl
  go_enter Try.func19, Try.ntmps19
  go_wp2_with (refine wpList_store_mid rfl 27 (.tmp 2) (.tmp 5) rfl w.heap.size 0 L8.zero.cells.toArray rfl rfl ?_ Try.sizeRegs (oneL8 _) ?_; exact HT.out; change wpList _ _ _ _ _ ((w.alloc (.cells L8.zero.cells.toArray 27)).setCells w.heap.size 0 L8.zero.cells); rw [← HE.out])
  exact bodyPost_ret (results_c rfl rfl (Try.loadRegs L8.zero HL.out) ) rfl ⟨rfl, HB.out⟩

set_option maxRecDepth 100000 in
set_option maxHeartbeats 1000000 in
theorem restore_any (h : FlAt w a f) : Calls Try.prog 12 #[.pointer (some ⟨a, 0, none⟩)] w fun e w' => e = .returned (.int .i64 f.errP) ∧ FlAt w' a f.restore ∧ Tch (· = a) w w' := by
  have HQ := Lib.hid (pointed_any h)
  unfold Fl.restore
  cases hq : f.pt with
  | none =>
    have he : f.errP = 60 := by simp [Fl.errP, hq]
    have HE := Lib.hid (And.intro h (Tch.refl (· = a) w))
    clear h
    rw [he] at HQ ⊢
    go_enter Try.func12, Try.ntmps12
    go_wp2_with (go_at_call 29; refine HQ.out.mono ?_; rintro e w' ⟨rfl, rfl⟩)
    go_ret
    exact ⟨rfl, HE.out⟩
  | some m =>
    have he : f.errP = 0 := by simp [Fl.errP, hq]
    obtain ⟨pv, h⟩ := h
    have hp := h.point
    rw [hq] at hp
    obtain ⟨b, rfl, hb⟩ := hp
    have c := h.c 9 rfl
    have HR := Lib.hid (hb.range (o := 0) (cs := m.cells) (fun i v hi => by rw [Nat.zero_add]; exact hi))
    have HT := Lib.hid (h.head.there (o := 0) (n := 9) (by show 9 ≤ 11; omega))
    have hT : Tch (· = a) w (w.setCells a 0 m.cells) := Tch.setCells (C := (· = a)) (.inl rfl) _ _ (Tch.refl _ w)
    have HE := Lib.hid (show FlAt (w.setCells a 0 m.cells) a { f with m := m } ∧ Tch (· = a) w (w.setCells a 0 m.cells) from
      ⟨⟨.pointer (some ⟨b, 0, none⟩), h.head.sets m.cells 0, by rw [hq]; exact ⟨b, rfl, hT.holds (hb.ne h.head (by decide)) hb⟩⟩, hT⟩)
    clear h hb hT
    rw [he] at HQ ⊢
    rw [hq] at HE
    go_enter Try.func12, Try.ntmps12
    go_wp2_with (first | (go_at_call 29; refine HQ.out.mono ?_; rintro e w' ⟨rfl, rfl⟩) | (refine wpList_load_mid rfl 46 (.tmp 14) rfl b 0 rfl m.cells _ ?_ Try.underlying46 rfl Try.sizeMo ?_; exact HR.out) | (refine wpList_store_mid rfl 46 (.tmp 17) (.tmp 15) rfl a 0 m.cells.toArray rfl rfl ?_ Try.sizeMo (oneMo _) ?_; exact HT.out; change wpList _ _ _ _ _ (w.setCells a 0 m.cells)))
    go_ret
    exact ⟨rfl, HE.out⟩
end

end Go.Proofs.Ytcammonbhehakaa
