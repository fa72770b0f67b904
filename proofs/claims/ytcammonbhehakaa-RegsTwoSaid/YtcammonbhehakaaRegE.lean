/- Registers in a law's walk; the example alive. Conditions: those stated in each theorem. -/
import Derived.Test.YtcammonbhehakaaRegD
namespace Go.Proofs.Ytcammonbhehakaa
open Go.RowKit Go.BigFrame

/-- Where a law's walk with one file stands; boxes of eight words lie aside. -/
structure FSt (w0 w : World) (a : Nat) (f : Fl) (G : List (Nat × L8)) : Prop where
  file : FlAt w a f
  lo : w0.heap.size ≤ a
  below : Below w0.heap.size w0 w
  rows : ∀ x ∈ G, Holds w x.1 27 x.2.cells

section
variable {w0 w w' : World} {a : Nat} {f f' : Fl} {G : List (Nat × L8)}
theorem FSt.idle (h : FSt w0 w a f G) (hb : Below w.heap.size w w') : FSt w0 w' a f G :=
  ⟨h.file.below hb, h.lo, h.below.trans (hb.mono h.below.size), fun x hx => (h.rows x hx).below hb⟩
theorem FSt.turn (h : FSt w0 w a f G) (k : FlAt w' a f' ∧ Tch (· = a) w w') : FSt w0 w' a f' G := by
  obtain ⟨L, hL⟩ := h.file.typed
  exact ⟨k.1, h.lo, h.below.trans (k.2.below h.below.size (fun c e => e ▸ h.lo)), fun x hx => k.2.holds (fun e => ((h.rows x hx).ne hL (by decide)) e) (h.rows x hx)⟩
theorem FSt.drop (h : FSt w0 w a f G) (G' : List (Nat × L8)) (hG : ∀ x ∈ G', x ∈ G) : FSt w0 w a f G' := ⟨h.file, h.lo, h.below, fun x hx => h.rows x (hG x hx)⟩
/-- Words laid aside in a fresh box. -/
theorem FSt.box (h : FSt w0 w a f G) (e : L8) : ∃ W, W = (w.alloc (.cells L8.zero.cells.toArray 27)).setCells w.heap.size 0 e.cells ∧ (w.alloc (.cells L8.zero.cells.toArray 27)).there w.heap.size 0 8 ∧ FSt w0 W a f ((w.heap.size, e) :: G) := by
  obtain ⟨W, eW, hb, ht, hr⟩ := lbox w e
  refine ⟨W, eW, ht, ?_⟩
  have k := h.idle hb
  refine ⟨k.file, k.lo, k.below, fun x hx => ?_⟩
  rcases List.mem_cons.1 hx with rfl | hx
  · rw [eW]; exact (Holds.new w 27 L8.zero.cells).sets e.cells 0
  · exact k.rows x hx
theorem FSt.range (h : FSt w0 w a f G) {x : Nat × L8} (hx : x ∈ G) : w.rangeAt x.1 0 x.2.cells := fun i v hi => by rw [Nat.zero_add]; exact (h.rows x hx).cell hi

theorem set_st (h : FSt w0 w a f G) (i v : Int) : Calls Try.prog 15 #[.pointer (some ⟨a, 0, none⟩), .int .i64 i, .int .u64 v] w fun e w' => e = .returned (.int .i64 (errR i)) ∧ FSt w0 w' a (f.set i v) G :=
  (set_any h.file i v).mono fun _ _ ⟨h1, h2⟩ => ⟨h1, h.turn h2⟩
theorem jump_st (h : FSt w0 w a f G) (k : Int) : Calls Try.prog 17 #[.pointer (some ⟨a, 0, none⟩), .int .i64 k] w fun e w' => e = .returned (.int .i64 (errJ k)) ∧ FSt w0 w' a (f.jump k) G :=
  (jump_any h.file k).mono fun _ _ ⟨h1, h2⟩ => ⟨h1, h.turn h2⟩
theorem save_st (h : FSt w0 w a f G) : Calls Try.prog 18 #[.pointer (some ⟨a, 0, none⟩)] w fun e w' => e = .returned (.int .i64 0) ∧ FSt w0 w' a f.save G :=
  (save_any h.file).mono fun _ _ ⟨h1, h2⟩ => ⟨h1, h.turn h2⟩
theorem restore_st (h : FSt w0 w a f G) : Calls Try.prog 12 #[.pointer (some ⟨a, 0, none⟩)] w fun e w' => e = .returned (.int .i64 f.errP) ∧ FSt w0 w' a f.restore G :=
  (restore_any h.file).mono fun _ _ ⟨h1, h2⟩ => ⟨h1, h.turn h2⟩
theorem drop_st (h : FSt w0 w a f G) : Calls Try.prog 13 #[.pointer (some ⟨a, 0, none⟩)] w fun e w' => e = .returned (.int .i64 f.errP) ∧ FSt w0 w' a f.drop G :=
  (drop_any h.file).mono fun _ _ ⟨h1, h2⟩ => ⟨h1, h.turn h2⟩
theorem get_st (h : FSt w0 w a f G) (i : Int) : Calls Try.prog 16 #[.pointer (some ⟨a, 0, none⟩), .int .i64 i] w fun e w' => e = .returned (.tuple #[.int .u64 (f.get i), .int .i64 (errR i)]) ∧ w = w' := get_any h.file i
theorem pc_st (h : FSt w0 w a f G) : Calls Try.prog 20 #[.pointer (some ⟨a, 0, none⟩)] w fun e w' => e = .returned (.int .i64 f.m.pc) ∧ w = w' := pc_any h.file
theorem all_st (h : FSt w0 w a f G) : Calls Try.prog 19 #[.pointer (some ⟨a, 0, none⟩)] w fun e w' => e = .returned (.agg f.m.r.cells.toArray) ∧ FSt w0 w' a f G :=
  (all_any h.file).mono fun _ _ ⟨h1, h2⟩ => ⟨h1, h.idle h2⟩
theorem point_st (h : FSt w0 w a f G) : Calls Try.prog 14 #[.pointer (some ⟨a, 0, none⟩)] w fun e w' => e = .returned (.tuple #[.agg f.point.r.cells.toArray, .int .i64 f.point.pc, .bool f.pt.isSome]) ∧ FSt w0 w' a f G :=
  (point_any h.file).mono fun _ _ ⟨h1, h2⟩ => ⟨h1, h.idle h2⟩
theorem new_st (hb : Below w0.heap.size w0 w) : Calls Try.prog 9 #[] w fun e w' => ∃ a, e = .returned (.pointer (some ⟨a, 0, none⟩)) ∧ FSt w0 w' a Fl.zero [] :=
  (new_any w).mono fun _ _ ⟨a, h1, h2, h3, h4⟩ => ⟨a, h1, h3, Nat.le_trans hb.size h2, hb.trans (h4.mono hb.size), by simp⟩
end

set_option maxRecDepth 100000 in
set_option maxHeartbeats 1000000 in
theorem alive_ok (w : World) : Calls Try.prog 21 #[] w fun e w' => e = .returned (.bool true) ∧ Below w.heap.size w w' := by
  have H0 := Lib.hid (Below.refl w.heap.size w)
  go_enter Try.func21, Try.ntmps21
  go_wp2_with fail
  refine (new_st H0.out).mono ?_
  rintro e w1 ⟨a, rfl, h⟩
  have H := Lib.hid h; clear h H0
  go_wp2_with fail
  refine (set_st H.out 0 5).mono ?_
  rintro e w2 ⟨rfl, h⟩
  rw [show errR 0 = 0 from rfl]
  clear H; have H := Lib.hid h; clear h
  go_wp2_with fail
  refine (jump_st H.out 3).mono ?_
  rintro e w3 ⟨rfl, h⟩
  rw [show errJ 3 = 0 from rfl]
  clear H; have H := Lib.hid h; clear h
  go_wp2_with fail
  refine (save_st H.out).mono ?_
  rintro e w4 ⟨rfl, h⟩
  clear H; have H := Lib.hid h; clear h
  go_wp2_with fail
  refine (set_st H.out 7 9).mono ?_
  rintro e w5 ⟨rfl, h⟩
  rw [show errR 7 = 0 from rfl]
  clear H; have H := Lib.hid h; clear h
  go_wp2_with fail
  refine (jump_st H.out 8).mono ?_
  rintro e w6 ⟨rfl, h⟩
  rw [show errJ 8 = 0 from rfl]
  clear H; have H := Lib.hid h; clear h
  go_wp2_with fail
  refine (get_st H.out 7).mono ?_
  rintro e w' ⟨rfl, rfl⟩
  rw [show errR 7 = 0 from rfl, show (((((Fl.zero.set 0 5).jump 3).save).set 7 9).jump 8).get 7 = 9 from rfl]
  go_wp2_with fail
  refine (restore_st H.out).mono ?_
  rintro e w7 ⟨rfl, h⟩
  rw [show (((((Fl.zero.set 0 5).jump 3).save).set 7 9).jump 8).errP = 0 from rfl]
  clear H; have H := Lib.hid h; clear h
  go_wp2_with fail
  refine (pc_st H.out).mono ?_
  rintro e w' ⟨rfl, rfl⟩
  rw [show ((((((Fl.zero.set 0 5).jump 3).save).set 7 9).jump 8).restore).m.pc = 3 from rfl]
  go_wp2_with fail
  refine (all_st H.out).mono ?_
  rintro e w8 ⟨rfl, h⟩
  rw [show ((((((Fl.zero.set 0 5).jump 3).save).set 7 9).jump 8).restore).m.r.cells.toArray = #[.int .u64 5, .int .u64 0, .int .u64 0, .int .u64 0, .int .u64 0, .int .u64 0, .int .u64 0, .int .u64 0] from rfl]
  have HB := Lib.hid h.below; clear H h
  go_wp2
  go_ret
  exact ⟨rfl, HB.out⟩

end Go.Proofs.Ytcammonbhehakaa
