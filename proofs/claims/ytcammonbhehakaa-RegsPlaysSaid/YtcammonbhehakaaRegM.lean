/- do: a call on a file, and on the document's own: they answer alike. Conditions: those stated in each theorem. -/
import Derived.Test.YtcammonbhehakaaRegL
import Derived.Deep.RegionHeld3
namespace Go.Proofs.Ytcammonbhehakaa
open Go.RowKit Go.BigFrame

def stepF (f : Fl) (x : OpV) : Fl :=
  if x.kind = 0 then f.set x.n x.v else if x.kind = 1 then f.jump x.n else if x.kind = 2 then f.save else if x.kind = 3 then f.restore else if x.kind = 4 then f.drop else f

/-- A file and the document's, and a call that came in, in its box. -/
structure DSt (w0 w : World) (a q X : Nat) (f g : Fl) (x : OpV) : Prop where
  file : FlAt w a f
  ref : RfAt w q g
  box : Holds w X 32 x.cells
  tch : Tch (fun c => c = a ∨ c = q) w0 w

section
variable {w0 w w' : World} {a q X : Nat} {f f' g g' : Fl} {x : OpV}
theorem DSt.idle (h : DSt w0 w a q X f g x) (hb : Below w.heap.size w w') : DSt w0 w' a q X f g x :=
  ⟨h.file.below hb, Holds.below h.ref hb, h.box.below hb, h.tch.trans (Tch.of_idle hb)⟩
theorem DSt.code (h : DSt w0 w a q X f g x) (k : FlAt w' a f' ∧ Tch (· = a) w w') : DSt w0 w' a q X f' g x := by
  obtain ⟨L, hL⟩ := h.file.typed
  exact ⟨k.1, k.2.holds (fun e => (Holds.ne h.ref hL (by decide)) e) h.ref, k.2.holds (fun e => (h.box.ne hL (by decide)) e) h.box, h.tch.trans (k.2.mono (fun _ _ e => .inl e))⟩
theorem DSt.turn (h : DSt w0 w a q X f g x) (k : RfAt w' q g' ∧ Tch (· = q) w w') : DSt w0 w' a q X f g' x := by
  obtain ⟨L, hL⟩ := h.file.typed
  exact ⟨h.file.frame k.2 (hL.ne h.ref (by decide)) (fun c M hM e => (hM.ne h.ref (by decide)) e), k.1, k.2.holds (fun e => (h.box.ne h.ref (by decide)) e) h.box, h.tch.trans (k.2.mono (fun _ _ e => .inr e))⟩
theorem DSt.cells (h : DSt w0 w a q X f g x) : w.cell? ⟨X, 0, none⟩ = some (.int .i64 x.kind) ∧ w.cell? ⟨X, 1, none⟩ = some (.int .i64 x.n) ∧ w.cell? ⟨X, 2, none⟩ = some (.int .u64 x.v) :=
  ⟨h.box.cell rfl, h.box.cell rfl, h.box.cell rfl⟩
theorem dset (h : DSt w0 w a q X f g x) (i v : Int) : Calls Try.prog 15 #[.pointer (some ⟨a, 0, none⟩), .int .i64 i, .int .u64 v] w fun e w' => e = .returned (.int .i64 (errR i)) ∧ DSt w0 w' a q X (f.set i v) g x :=
  (set_any h.file i v).mono fun _ _ ⟨h1, h2⟩ => ⟨h1, h.code h2⟩
theorem djump (h : DSt w0 w a q X f g x) (k : Int) : Calls Try.prog 17 #[.pointer (some ⟨a, 0, none⟩), .int .i64 k] w fun e w' => e = .returned (.int .i64 (errJ k)) ∧ DSt w0 w' a q X (f.jump k) g x :=
  (jump_any h.file k).mono fun _ _ ⟨h1, h2⟩ => ⟨h1, h.code h2⟩
theorem dsave (h : DSt w0 w a q X f g x) : Calls Try.prog 18 #[.pointer (some ⟨a, 0, none⟩)] w fun e w' => e = .returned (.int .i64 (0)) ∧ DSt w0 w' a q X (f.save) g x :=
  (save_any h.file).mono fun _ _ ⟨h1, h2⟩ => ⟨h1, h.code h2⟩
theorem drestore (h : DSt w0 w a q X f g x) : Calls Try.prog 12 #[.pointer (some ⟨a, 0, none⟩)] w fun e w' => e = .returned (.int .i64 (f.errP)) ∧ DSt w0 w' a q X (f.restore) g x :=
  (restore_any h.file).mono fun _ _ ⟨h1, h2⟩ => ⟨h1, h.code h2⟩
theorem ddrop (h : DSt w0 w a q X f g x) : Calls Try.prog 13 #[.pointer (some ⟨a, 0, none⟩)] w fun e w' => e = .returned (.int .i64 (f.errP)) ∧ DSt w0 w' a q X (f.drop) g x :=
  (drop_any h.file).mono fun _ _ ⟨h1, h2⟩ => ⟨h1, h.code h2⟩
theorem eset (h : DSt w0 w a q X f g x) (i v : Int) : Calls Try.prog 23 #[.pointer (some ⟨q, 0, none⟩), .int .i64 i, .int .u64 v] w fun e w' => e = .returned (.int .i64 (errR i)) ∧ DSt w0 w' a q X f (g.set i v) x :=
  (rset_any h.ref i v).mono fun _ _ ⟨h1, h2⟩ => ⟨h1, h.turn h2⟩
theorem ejump (h : DSt w0 w a q X f g x) (k : Int) : Calls Try.prog 24 #[.pointer (some ⟨q, 0, none⟩), .int .i64 k] w fun e w' => e = .returned (.int .i64 (errJ k)) ∧ DSt w0 w' a q X f (g.jump k) x :=
  (rjump_any h.ref k).mono fun _ _ ⟨h1, h2⟩ => ⟨h1, h.turn h2⟩
theorem esave (h : DSt w0 w a q X f g x) : Calls Try.prog 25 #[.pointer (some ⟨q, 0, none⟩)] w fun e w' => e = .returned (.int .i64 (0)) ∧ DSt w0 w' a q X f (g.save) x :=
  (rsave_any h.ref).mono fun _ _ ⟨h1, h2⟩ => ⟨h1, h.turn h2⟩
theorem erestore (h : DSt w0 w a q X f g x) : Calls Try.prog 26 #[.pointer (some ⟨q, 0, none⟩)] w fun e w' => e = .returned (.int .i64 (g.errP)) ∧ DSt w0 w' a q X f (g.restore) x :=
  (rrestore_any h.ref).mono fun _ _ ⟨h1, h2⟩ => ⟨h1, h.turn h2⟩
theorem edrop (h : DSt w0 w a q X f g x) : Calls Try.prog 27 #[.pointer (some ⟨q, 0, none⟩)] w fun e w' => e = .returned (.int .i64 (g.errP)) ∧ DSt w0 w' a q X f (g.drop) x :=
  (rdrop_any h.ref).mono fun _ _ ⟨h1, h2⟩ => ⟨h1, h.turn h2⟩
theorem dall (h : DSt w0 w a q X f g x) : Calls Try.prog 19 #[.pointer (some ⟨a, 0, none⟩)] w fun e w' => e = .returned (.agg #[.int .u64 f.m.r.x0, .int .u64 f.m.r.x1, .int .u64 f.m.r.x2, .int .u64 f.m.r.x3, .int .u64 f.m.r.x4, .int .u64 f.m.r.x5, .int .u64 f.m.r.x6, .int .u64 f.m.r.x7]) ∧ DSt w0 w' a q X f g x :=
  (all_any h.file).mono fun _ _ ⟨h1, h2⟩ => ⟨h1, h.idle h2⟩
theorem dpc (h : DSt w0 w a q X f g x) : Calls Try.prog 20 #[.pointer (some ⟨a, 0, none⟩)] w fun e w' => e = .returned (.int .i64 f.m.pc) ∧ w = w' := pc_any h.file
theorem dget (h : DSt w0 w a q X f g x) (i : Int) : Calls Try.prog 16 #[.pointer (some ⟨a, 0, none⟩), .int .i64 i] w fun e w' => e = .returned (.tuple #[.int .u64 (f.get i), .int .i64 (errR i)]) ∧ w = w' := get_any h.file i
theorem eget (h : DSt w0 w a q X f g x) (i : Int) : Calls Try.prog 28 #[.pointer (some ⟨q, 0, none⟩), .int .i64 i] w fun e w' => e = .returned (.tuple #[.int .u64 (g.get i), .int .i64 (errR i)]) ∧ w = w' := rget_any h.ref i
theorem dpoint (h : DSt w0 w a q X f g x) : Calls Try.prog 14 #[.pointer (some ⟨a, 0, none⟩)] w fun e w' => e = .returned (.tuple #[.agg f.point.r.cells.toArray, .int .i64 f.point.pc, .bool f.pt.isSome]) ∧ DSt w0 w' a q X f g x :=
  (point_any h.file).mono fun _ _ ⟨h1, h2⟩ => ⟨h1, h.idle h2⟩
theorem DSt.rall (h : DSt w0 w a q X f g x) : w.cell? ⟨q, 0, none⟩ = some (.int .u64 g.m.r.x0) ∧ w.cell? ⟨q, 1, none⟩ = some (.int .u64 g.m.r.x1) ∧ w.cell? ⟨q, 2, none⟩ = some (.int .u64 g.m.r.x2) ∧ w.cell? ⟨q, 3, none⟩ = some (.int .u64 g.m.r.x3) ∧ w.cell? ⟨q, 4, none⟩ = some (.int .u64 g.m.r.x4) ∧ w.cell? ⟨q, 5, none⟩ = some (.int .u64 g.m.r.x5) ∧ w.cell? ⟨q, 6, none⟩ = some (.int .u64 g.m.r.x6) ∧ w.cell? ⟨q, 7, none⟩ = some (.int .u64 g.m.r.x7) :=
  ⟨RfAt.c h.ref 0 rfl, RfAt.c h.ref 1 rfl, RfAt.c h.ref 2 rfl, RfAt.c h.ref 3 rfl, RfAt.c h.ref 4 rfl, RfAt.c h.ref 5 rfl, RfAt.c h.ref 6 rfl, RfAt.c h.ref 7 rfl⟩
theorem DSt.rpt (h : DSt w0 w a q X f g x) : w.cell? ⟨q, 10, none⟩ = some (.int .u64 g.point.r.x0) ∧ w.cell? ⟨q, 11, none⟩ = some (.int .u64 g.point.r.x1) ∧ w.cell? ⟨q, 12, none⟩ = some (.int .u64 g.point.r.x2) ∧ w.cell? ⟨q, 13, none⟩ = some (.int .u64 g.point.r.x3) ∧ w.cell? ⟨q, 14, none⟩ = some (.int .u64 g.point.r.x4) ∧ w.cell? ⟨q, 15, none⟩ = some (.int .u64 g.point.r.x5) ∧ w.cell? ⟨q, 16, none⟩ = some (.int .u64 g.point.r.x6) ∧ w.cell? ⟨q, 17, none⟩ = some (.int .u64 g.point.r.x7) ∧ w.cell? ⟨q, 18, none⟩ = some (.int .i64 g.point.pc) ∧ w.cell? ⟨q, 9, none⟩ = some (.bool g.pt.isSome) :=
  ⟨RfAt.c h.ref 10 rfl, RfAt.c h.ref 11 rfl, RfAt.c h.ref 12 rfl, RfAt.c h.ref 13 rfl, RfAt.c h.ref 14 rfl, RfAt.c h.ref 15 rfl, RfAt.c h.ref 16 rfl, RfAt.c h.ref 17 rfl, RfAt.c h.ref 18 rfl, RfAt.c h.ref 9 rfl⟩
end

/-- The call's box, at do's beginning. -/
theorem dbox {w : World} {a q : Nat} {f : Fl} (h : FlAt w a f) (k : RfAt w q f) (x : OpV) : DSt w (w.alloc (.cells #[.int .i64 x.kind, .int .i64 x.n, .int .u64 x.v] 32)) a q w.heap.size f f x :=
  ⟨h.below ((Below.refl _ w).alloc (Nat.le_refl _) _), Holds.below k ((Below.refl _ w).alloc (Nat.le_refl _) _), Holds.new w 32 x.cells, (Tch.refl _ w).alloc _⟩

def DPost (w : World) (a q : Nat) (f : Fl) (e : Ending) (w' : World) : Prop := e = .returned (.bool true) ∧ FlAt w' a f ∧ RfAt w' q f ∧ Tch (fun c => c = a ∨ c = q) w w'
theorem DSt.post {w w' : World} {a q X : Nat} {f : Fl} {x : OpV} (h : DSt w w' a q X f f x) {v : Value} (hv : v = .bool true) : DPost w a q f (.returned v) w' := ⟨by rw [hv], h.file, h.ref, h.tch⟩

set_option maxRecDepth 100000 in
set_option maxHeartbeats 2000000 in
theorem do_0 {w : World} {a q : Nat} {f : Fl} (h : FlAt w a f) (k : RfAt w q f) (x : OpV) (hk : x.kind = 0) :
    Calls Try.prog 10 #[.pointer (some ⟨a, 0, none⟩), .pointer (some ⟨q, 0, none⟩), .agg x.cells.toArray] w (DPost w a q (stepF f x)) := by
  rw [show stepF f x = f.set x.n x.v from by simp [stepF, hk]]
  have H := Lib.hid (dbox h k x)
  obtain ⟨c0, c1, c2⟩ := H.out.cells
  rw [hk] at c0
  clear h k
  obtain ⟨kd, n, v⟩ := x
  simp only at hk
  subst hk
  simp only [OpV.cells] at *
  go_enter Try.func10, Try.ntmps10
  go_wp2
  generalize w.alloc (.cells #[.int .i64 0, .int .i64 n, .int .u64 v] 32) = W at *
  generalize w.heap.size = X at *
  have hD := H.out.idle (below_drew1 (Below.refl _ W))
  have HK : Hid (∀ V g1 g2, DSt w V a q X g1 g2 ⟨0, n, v⟩ → V.cell? ⟨X, 1, none⟩ = some (.int .i64 n) ∧ V.cell? ⟨X, 2, none⟩ = some (.int .u64 v)) := Lib.hid (fun V g1 g2 h => h.cells.2)
  go_region_held3 (fun V => V.cell? ⟨X, 1, none⟩ = some (.int .i64 n) ∧ V.cell? ⟨X, 2, none⟩ = some (.int .u64 v)) (first | with_reducible exact HK.out _ _ _ hD) (first | (go_at_call 15; (with_reducible refine (dset hD n v).mono ?_); rintro e V ⟨rfl, hD⟩) | (go_at_call 23; (with_reducible refine (eset hD n v).mono ?_); rintro e V ⟨rfl, hD⟩))
  all_goals
    have HD := Lib.hid hD
    go_wp2
    go_ret
    exact HD.out.post (by simp)

set_option maxRecDepth 100000 in
set_option maxHeartbeats 2000000 in
theorem do_1 {w : World} {a q : Nat} {f : Fl} (h : FlAt w a f) (k : RfAt w q f) (x : OpV) (hk : x.kind = 1) :
    Calls Try.prog 10 #[.pointer (some ⟨a, 0, none⟩), .pointer (some ⟨q, 0, none⟩), .agg x.cells.toArray] w (DPost w a q (stepF f x)) := by
  rw [show stepF f x = f.jump x.n from by simp [stepF, hk]]
  have H := Lib.hid (dbox h k x)
  obtain ⟨c0, c1, c2⟩ := H.out.cells
  rw [hk] at c0
  clear h k
  obtain ⟨kd, n, v⟩ := x
  simp only at hk
  subst hk
  simp only [OpV.cells] at *
  go_enter Try.func10, Try.ntmps10
  go_wp2
  generalize w.alloc (.cells #[.int .i64 1, .int .i64 n, .int .u64 v] 32) = W at *
  generalize w.heap.size = X at *
  have hD := H.out.idle (below_drew1 (Below.refl _ W))
  have HK : Hid (∀ V g1 g2, DSt w V a q X g1 g2 ⟨1, n, v⟩ → V.cell? ⟨X, 1, none⟩ = some (.int .i64 n) ∧ V.cell? ⟨X, 2, none⟩ = some (.int .u64 v)) := Lib.hid (fun V g1 g2 h => h.cells.2)
  go_region_held3 (fun V => V.cell? ⟨X, 1, none⟩ = some (.int .i64 n) ∧ V.cell? ⟨X, 2, none⟩ = some (.int .u64 v)) (first | with_reducible exact HK.out _ _ _ hD) (first | (go_at_call 17; (with_reducible refine (djump hD n).mono ?_); rintro e V ⟨rfl, hD⟩) | (go_at_call 24; (with_reducible refine (ejump hD n).mono ?_); rintro e V ⟨rfl, hD⟩))
  all_goals
    have HD := Lib.hid hD
    go_wp2
    go_ret
    exact HD.out.post (by simp)

set_option maxRecDepth 100000 in
set_option maxHeartbeats 2000000 in
theorem do_2 {w : World} {a q : Nat} {f : Fl} (h : FlAt w a f) (k : RfAt w q f) (x : OpV) (hk : x.kind = 2) :
    Calls Try.prog 10 #[.pointer (some ⟨a, 0, none⟩), .pointer (some ⟨q, 0, none⟩), .agg x.cells.toArray] w (DPost w a q (stepF f x)) := by
  rw [show stepF f x = f.save from by simp [stepF, hk]]
  have H := Lib.hid (dbox h k x)
  obtain ⟨c0, c1, c2⟩ := H.out.cells
  rw [hk] at c0
  clear h k
  obtain ⟨kd, n, v⟩ := x
  simp only at hk
  subst hk
  simp only [OpV.cells] at *
  go_enter Try.func10, Try.ntmps10
  go_wp2_with fail
  refine (dsave H.out).mono ?_
  rintro e V ⟨rfl, h⟩
  have H2 := Lib.hid h; clear h H
  go_wp2_with fail
  refine (esave H2.out).mono ?_
  rintro e V ⟨rfl, h⟩
  have H3 := Lib.hid h; clear h H2
  go_wp2
  go_ret
  exact H3.out.post (by simp)

set_option maxRecDepth 100000 in
set_option maxHeartbeats 2000000 in
theorem do_3 {w : World} {a q : Nat} {f : Fl} (h : FlAt w a f) (k : RfAt w q f) (x : OpV) (hk : x.kind = 3) :
    Calls Try.prog 10 #[.pointer (some ⟨a, 0, none⟩), .pointer (some ⟨q, 0, none⟩), .agg x.cells.toArray] w (DPost w a q (stepF f x)) := by
  rw [show stepF f x = f.restore from by simp [stepF, hk]]
  have H := Lib.hid (dbox h k x)
  obtain ⟨c0, c1, c2⟩ := H.out.cells
  rw [hk] at c0
  clear h k
  obtain ⟨kd, n, v⟩ := x
  simp only at hk
  subst hk
  simp only [OpV.cells] at *
  go_enter Try.func10, Try.ntmps10
  go_wp2_with fail
  refine (drestore H.out).mono ?_
  rintro e V ⟨rfl, h⟩
  have H2 := Lib.hid h; clear h H
  go_wp2_with fail
  refine (erestore H2.out).mono ?_
  rintro e V ⟨rfl, h⟩
  have H3 := Lib.hid h; clear h H2
  go_wp2
  go_ret
  exact H3.out.post (by simp)

set_option maxRecDepth 100000 in
set_option maxHeartbeats 2000000 in
theorem do_4 {w : World} {a q : Nat} {f : Fl} (h : FlAt w a f) (k : RfAt w q f) (x : OpV) (hk : x.kind = 4) :
    Calls Try.prog 10 #[.pointer (some ⟨a, 0, none⟩), .pointer (some ⟨q, 0, none⟩), .agg x.cells.toArray] w (DPost w a q (stepF f x)) := by
  rw [show stepF f x = f.drop from by simp [stepF, hk]]
  have H := Lib.hid (dbox h k x)
  obtain ⟨c0, c1, c2⟩ := H.out.cells
  rw [hk] at c0
  clear h k
  obtain ⟨kd, n, v⟩ := x
  simp only at hk
  subst hk
  simp only [OpV.cells] at *
  go_enter Try.func10, Try.ntmps10
  go_wp2_with fail
  refine (ddrop H.out).mono ?_
  rintro e V ⟨rfl, h⟩
  have H2 := Lib.hid h; clear h H
  go_wp2_with fail
  refine (edrop H2.out).mono ?_
  rintro e V ⟨rfl, h⟩
  have H3 := Lib.hid h; clear h H2
  go_wp2
  go_ret
  exact H3.out.post (by simp)

set_option maxRecDepth 100000 in
set_option maxHeartbeats 2000000 in
theorem do_5 {w : World} {a q : Nat} {f : Fl} (h : FlAt w a f) (k : RfAt w q f) (x : OpV) (hk : x.kind = 5) :
    Calls Try.prog 10 #[.pointer (some ⟨a, 0, none⟩), .pointer (some ⟨q, 0, none⟩), .agg x.cells.toArray] w (DPost w a q (stepF f x)) := by
  rw [show stepF f x = f from by simp [stepF, hk]]
  have H := Lib.hid (dbox h k x)
  obtain ⟨c0, c1, c2⟩ := H.out.cells
  rw [hk] at c0
  clear h k
  obtain ⟨kd, n, v⟩ := x
  simp only at hk
  subst hk
  simp only [OpV.cells] at *
  go_enter Try.func10, Try.ntmps10
  go_wp2_with fail
  refine (dget H.out n).mono ?_
  rintro e V ⟨rfl, rfl⟩
  go_wp2_with fail
  refine (eget H.out n).mono ?_
  rintro e V ⟨rfl, rfl⟩
  generalize f.get n = z at *
  generalize errR n = er at *
  go_wp2
  go_ret
  exact H.out.post (by simp)

set_option maxRecDepth 100000 in
set_option maxHeartbeats 2000000 in
theorem do_6 {w : World} {a q : Nat} {f : Fl} (h : FlAt w a f) (k : RfAt w q f) (x : OpV) (hk : x.kind = 6) :
    Calls Try.prog 10 #[.pointer (some ⟨a, 0, none⟩), .pointer (some ⟨q, 0, none⟩), .agg x.cells.toArray] w (DPost w a q (stepF f x)) := by
  rw [show stepF f x = f from by simp [stepF, hk]]
  have H := Lib.hid (dbox h k x)
  obtain ⟨c0, c1, c2⟩ := H.out.cells
  rw [hk] at c0
  clear h k
  obtain ⟨kd, n, v⟩ := x
  simp only at hk
  subst hk
  simp only [OpV.cells] at *
  go_enter Try.func10, Try.ntmps10
  go_wp2
  generalize w.alloc (.cells #[.int .i64 6, .int .i64 n, .int .u64 v] 32) = W at *
  generalize w.heap.size = X at *
  have hD := H.out.idle (below_drew1 (Below.refl _ W))
  have HK : Hid (∀ V, DSt w V a q X f f ⟨6, n, v⟩ → V.cell? ⟨q, 0, none⟩ = some (.int .u64 f.m.r.x0) ∧ V.cell? ⟨q, 1, none⟩ = some (.int .u64 f.m.r.x1) ∧ V.cell? ⟨q, 2, none⟩ = some (.int .u64 f.m.r.x2) ∧ V.cell? ⟨q, 3, none⟩ = some (.int .u64 f.m.r.x3) ∧ V.cell? ⟨q, 4, none⟩ = some (.int .u64 f.m.r.x4) ∧ V.cell? ⟨q, 5, none⟩ = some (.int .u64 f.m.r.x5) ∧ V.cell? ⟨q, 6, none⟩ = some (.int .u64 f.m.r.x6) ∧ V.cell? ⟨q, 7, none⟩ = some (.int .u64 f.m.r.x7)) := Lib.hid (fun V h => h.rall)
  go_region_held3 (fun V => V.cell? ⟨q, 0, none⟩ = some (.int .u64 f.m.r.x0) ∧ V.cell? ⟨q, 1, none⟩ = some (.int .u64 f.m.r.x1) ∧ V.cell? ⟨q, 2, none⟩ = some (.int .u64 f.m.r.x2) ∧ V.cell? ⟨q, 3, none⟩ = some (.int .u64 f.m.r.x3) ∧ V.cell? ⟨q, 4, none⟩ = some (.int .u64 f.m.r.x4) ∧ V.cell? ⟨q, 5, none⟩ = some (.int .u64 f.m.r.x5) ∧ V.cell? ⟨q, 6, none⟩ = some (.int .u64 f.m.r.x6) ∧ V.cell? ⟨q, 7, none⟩ = some (.int .u64 f.m.r.x7)) (first | with_reducible exact HK.out _ hD) (first | (go_at_call 19; (with_reducible refine (dall hD).mono ?_); rintro e V ⟨rfl, hD⟩))
  all_goals
    have HD := Lib.hid hD
    go_wp2
    go_ret
    exact HD.out.post (by simp)

set_option maxRecDepth 100000 in
set_option maxHeartbeats 2000000 in
theorem do_7 {w : World} {a q : Nat} {f : Fl} (h : FlAt w a f) (k : RfAt w q f) (x : OpV) (hk : x.kind = 7) :
    Calls Try.prog 10 #[.pointer (some ⟨a, 0, none⟩), .pointer (some ⟨q, 0, none⟩), .agg x.cells.toArray] w (DPost w a q (stepF f x)) := by
  rw [show stepF f x = f from by simp [stepF, hk]]
  have H := Lib.hid (dbox h k x)
  obtain ⟨c0, c1, c2⟩ := H.out.cells
  rw [hk] at c0
  clear h k
  obtain ⟨kd, n, v⟩ := x
  simp only at hk
  subst hk
  simp only [OpV.cells] at *
  go_enter Try.func10, Try.ntmps10
  go_wp2
  generalize w.alloc (.cells #[.int .i64 7, .int .i64 n, .int .u64 v] 32) = W at *
  generalize w.heap.size = X at *
  have hD := H.out.idle (below_drew1 (Below.refl _ W))
  have HK : Hid (∀ V, DSt w V a q X f f ⟨7, n, v⟩ → V.cell? ⟨q, 8, none⟩ = some (.int .i64 f.m.pc)) := Lib.hid (fun V h => RfAt.c h.ref 8 rfl)
  go_region_held3 (fun V => V.cell? ⟨q, 8, none⟩ = some (.int .i64 f.m.pc)) (first | with_reducible exact HK.out _ hD) (first | (go_at_call 20; (with_reducible refine (dpc hD).mono ?_); rintro e V ⟨rfl, rfl⟩))
  all_goals
    have HD := Lib.hid hD
    go_wp2
    go_ret
    exact HD.out.post (by simp)

set_option maxRecDepth 100000 in
set_option maxHeartbeats 2000000 in
theorem do_8 {w : World} {a q : Nat} {f : Fl} (h : FlAt w a f) (k : RfAt w q f) (x : OpV) (hk : x.kind = 8) :
    Calls Try.prog 10 #[.pointer (some ⟨a, 0, none⟩), .pointer (some ⟨q, 0, none⟩), .agg x.cells.toArray] w (DPost w a q (stepF f x)) := by
  rw [show stepF f x = f from by simp [stepF, hk]]
  have H := Lib.hid (dbox h k x)
  obtain ⟨c0, c1, c2⟩ := H.out.cells
  rw [hk] at c0
  clear h k
  obtain ⟨kd, n, v⟩ := x
  simp only at hk
  subst hk
  simp only [OpV.cells] at *
  go_enter Try.func10, Try.ntmps10
  go_wp2_with fail
  refine (dpoint H.out).mono ?_
  rintro e V ⟨rfl, h⟩
  obtain ⟨W, eW, hb, hT, hr⟩ := lbox V f.point.r
  have HE := Lib.hid eW; clear eW
  have HT := Lib.hid hT; clear hT
  have h2 := h.idle hb
  have e0 := hr 0 _ rfl
  have e1 := hr 1 _ rfl
  have e2 := hr 2 _ rfl
  have e3 := hr 3 _ rfl
  have e4 := hr 4 _ rfl
  have e5 := hr 5 _ rfl
  have e6 := hr 6 _ rfl
  have e7 := hr 7 _ rfl
  simp only [Nat.zero_add] at e0 e1 e2 e3 e4 e5 e6 e7
  obtain ⟨p0, p1, p2, p3, p4, p5, p6, p7, p8, p9⟩ := h2.rpt
  have H2 := Lib.hid h2
  clear H h h2 hb hr c1 c2
  go_wp2_with (refine wpList_store_mid rfl 27 (.tmp 11) (.tmp 110) rfl V.heap.size 0 f.point.r.cells.toArray rfl rfl ?_ Try.sizeRegs (oneL8 _) ?_; exact HT.out; change wpList _ _ _ _ _ ((V.alloc (.cells L8.zero.cells.toArray 27)).setCells V.heap.size 0 f.point.r.cells); rw [← HE.out])
  go_quiet (fail)
  have HD := Lib.hid (H2.out.idle (below_drewN (Below.refl _ W) nq))
  go_wp2
  go_ret
  exact HD.out.post (by simp)

set_option maxRecDepth 100000 in
set_option maxHeartbeats 2000000 in
theorem do_else {w : World} {a q : Nat} {f : Fl} (h : FlAt w a f) (k : RfAt w q f) (x : OpV) (hk : x.kind ≠ 0 ∧ x.kind ≠ 1 ∧ x.kind ≠ 2 ∧ x.kind ≠ 3 ∧ x.kind ≠ 4 ∧ x.kind ≠ 5 ∧ x.kind ≠ 6 ∧ x.kind ≠ 7 ∧ x.kind ≠ 8) :
    Calls Try.prog 10 #[.pointer (some ⟨a, 0, none⟩), .pointer (some ⟨q, 0, none⟩), .agg x.cells.toArray] w (DPost w a q (stepF f x)) := by
  obtain ⟨k0, k1, k2, k3, k4, k5, k6, k7, k8⟩ := hk
  rw [show stepF f x = f from by simp [stepF, k0, k1, k2, k3, k4]]
  have H := Lib.hid (dbox h k x)
  obtain ⟨c0, c1, c2⟩ := H.out.cells
  clear h k
  obtain ⟨kd, n, v⟩ := x
  simp only at k0 k1 k2 k3 k4 k5 k6 k7 k8
  have j0 : decide (kd = 0) = false := by simpa using k0
  have j1 : decide (kd = 1) = false := by simpa using k1
  have j2 : decide (kd = 2) = false := by simpa using k2
  have j3 : decide (kd = 3) = false := by simpa using k3
  have j4 : decide (kd = 4) = false := by simpa using k4
  have j5 : decide (kd = 5) = false := by simpa using k5
  have j6 : decide (kd = 6) = false := by simpa using k6
  have j7 : decide (kd = 7) = false := by simpa using k7
  have j8 : decide (kd = 8) = false := by simpa using k8
  have i0 : (kd == 0) = false := by simpa using k0
  have i1 : (kd == 1) = false := by simpa using k1
  have i2 : (kd == 2) = false := by simpa using k2
  have i3 : (kd == 3) = false := by simpa using k3
  have i4 : (kd == 4) = false := by simpa using k4
  have i5 : (kd == 5) = false := by simpa using k5
  have i6 : (kd == 6) = false := by simpa using k6
  have i7 : (kd == 7) = false := by simpa using k7
  have i8 : (kd == 8) = false := by simpa using k8
  clear k0 k1 k2 k3 k4 k5 k6 k7 k8
  simp only [OpV.cells] at *
  go_enter Try.func10, Try.ntmps10
  go_wp2
  go_ret
  exact H.out.post (by simp)

theorem do_any {w : World} {a q : Nat} {f : Fl} (h : FlAt w a f) (k : RfAt w q f) (x : OpV) :
    Calls Try.prog 10 #[.pointer (some ⟨a, 0, none⟩), .pointer (some ⟨q, 0, none⟩), .agg x.cells.toArray] w (DPost w a q (stepF f x)) := by
  by_cases k0 : x.kind = 0
  · exact do_0 h k x k0
  by_cases k1 : x.kind = 1
  · exact do_1 h k x k1
  by_cases k2 : x.kind = 2
  · exact do_2 h k x k2
  by_cases k3 : x.kind = 3
  · exact do_3 h k x k3
  by_cases k4 : x.kind = 4
  · exact do_4 h k x k4
  by_cases k5 : x.kind = 5
  · exact do_5 h k x k5
  by_cases k6 : x.kind = 6
  · exact do_6 h k x k6
  by_cases k7 : x.kind = 7
  · exact do_7 h k x k7
  by_cases k8 : x.kind = 8
  · exact do_8 h k x k8
  exact do_else h k x ⟨k0, k1, k2, k3, k4, k5, k6, k7, k8⟩

end Go.Proofs.Ytcammonbhehakaa
