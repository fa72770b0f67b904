/- A path beside the document's own: calls on both. Conditions: those stated in each theorem. -/
import Derived.Test.YthepmejfgbfilaaSoftZ
import Derived.Test.YthepmejfgbfilaaSoftWn
namespace Go.Proofs.Ythepmejfgbfilaa
open Go.RowKit Go.BigFrame Go.Maps

section
variable {w0 w W : World} {p q b c : Nat} {y : PV} {m : Int → Int} {A B C D E F : Part}
theorem a_Begin (h : Aparts w0 w [pathP p y, B, C, D, F])  : Calls Try.prog 15 #[.pointer (some ⟨p, 0, none⟩)] w fun e w' => e = .returned (.int .i64 (y.errB)) ∧ Aparts w0 w' [pathP p (y.begin), B, C, D, F] :=
  begin_a h (i := 0) rfl  rfl
theorem r_Begin (h : Aparts w0 w [A, refP q y, C, D, F])  : Calls Try.prog 36 #[.pointer (some ⟨q, 0, none⟩)] w fun e w' => e = .returned (.int .i64 (y.errB)) ∧ Aparts w0 w' [A, refP q (y.begin), C, D, F] :=
  h.call (R := fun e => e = .returned (.int .i64 (y.errB))) (i := 1) rfl rfl (fun _ hT => rbegin hT )
theorem a_Load (h : Aparts w0 w [pathP p y, B, C, D, F]) (a : Int) (ha : I64 a) : Calls Try.prog 13 #[.pointer (some ⟨p, 0, none⟩), .int .i64 a] w fun e w' => e = .returned (.int .i64 (y.errA a)) ∧ Aparts w0 w' [pathP p (y.load a), B, C, D, F] :=
  load_a h (i := 0) rfl a ha rfl
theorem r_Load (h : Aparts w0 w [A, refP q y, C, D, F]) (a : Int) (_ha : I64 a) : Calls Try.prog 37 #[.pointer (some ⟨q, 0, none⟩), .int .i64 a] w fun e w' => e = .returned (.int .i64 (y.errA a)) ∧ Aparts w0 w' [A, refP q (y.load a), C, D, F] :=
  h.call (R := fun e => e = .returned (.int .i64 (y.errA a))) (i := 1) rfl rfl (fun _ hT => rload hT a )
theorem a_Store (h : Aparts w0 w [pathP p y, B, C, D, F]) (a v : Int) (ha : I64 a) (hv : W64 v) : Calls Try.prog 17 #[.pointer (some ⟨p, 0, none⟩), .int .i64 a, .int .u64 v] w fun e w' => e = .returned (.int .i64 (y.errA a)) ∧ Aparts w0 w' [pathP p (y.store a v), B, C, D, F] :=
  store_a h (i := 0) rfl a v ha hv rfl
theorem r_Store (h : Aparts w0 w [A, refP q y, C, D, F]) (a v : Int) (_ha : I64 a) (_hv : W64 v) : Calls Try.prog 38 #[.pointer (some ⟨q, 0, none⟩), .int .i64 a, .int .u64 v] w fun e w' => e = .returned (.int .i64 (y.errA a)) ∧ Aparts w0 w' [A, refP q (y.store a v), C, D, F] :=
  h.call (R := fun e => e = .returned (.int .i64 (y.errA a))) (i := 1) rfl rfl (fun _ hT => rstore hT a v  )
theorem a_Commit (h : Aparts w0 w [pathP p y, B, C, D, F])  : Calls Try.prog 21 #[.pointer (some ⟨p, 0, none⟩)] w fun e w' => e = .returned (.int .i64 (y.shut)) ∧ Aparts w0 w' [pathP p (y.commit), B, C, D, F] :=
  commit_a h (i := 0) rfl  rfl
theorem r_Commit (h : Aparts w0 w [A, refP q y, C, D, F])  : Calls Try.prog 39 #[.pointer (some ⟨q, 0, none⟩)] w fun e w' => e = .returned (.int .i64 (y.shut)) ∧ Aparts w0 w' [A, refP q (y.commit), C, D, F] :=
  h.call (R := fun e => e = .returned (.int .i64 (y.shut))) (i := 1) rfl rfl (fun _ hT => rcommit hT )
theorem a_Quit (h : Aparts w0 w [pathP p y, B, C, D, F])  : Calls Try.prog 22 #[.pointer (some ⟨p, 0, none⟩)] w fun e w' => e = .returned (.int .i64 (y.shut)) ∧ Aparts w0 w' [pathP p (y.quit), B, C, D, F] :=
  quit_a h (i := 0) rfl  rfl
theorem r_Quit (h : Aparts w0 w [A, refP q y, C, D, F])  : Calls Try.prog 40 #[.pointer (some ⟨q, 0, none⟩)] w fun e w' => e = .returned (.int .i64 (y.shut)) ∧ Aparts w0 w' [A, refP q (y.quit), C, D, F] :=
  h.call (R := fun e => e = .returned (.int .i64 (y.shut))) (i := 1) rfl rfl (fun _ hT => rquit hT )
theorem a_Give (h : Aparts w0 w [pathP p y, B, C, D, F]) (h0 : 0 ≤ y.pts) (h9 : y.pts ≤ 1000000) (v : Int) (ok : Bool) (hv : W64 v) : Calls Try.prog 14 #[.pointer (some ⟨p, 0, none⟩), .int .u64 v, .bool ok] w fun e w' => e = .returned (.int .i64 (y.errG)) ∧ Aparts w0 w' [pathP p (y.give v ok), B, C, D, F] :=
  give_a h (i := 0) rfl h0 h9 v ok hv rfl
theorem r_Give (h : Aparts w0 w [A, refP q y, C, D, F]) (h0 : 0 ≤ y.pts) (h9 : y.pts ≤ 1000000) (v : Int) (ok : Bool) (hv : W64 v) : Calls Try.prog 41 #[.pointer (some ⟨q, 0, none⟩), .int .u64 v, .bool ok] w fun e w' => e = .returned (.int .i64 (y.errG)) ∧ Aparts w0 w' [A, refP q (y.give v ok), C, D, F] :=
  h.call (R := fun e => e = .returned (.int .i64 (y.errG))) (i := 1) rfl rfl (fun _ hT => rgive_any hT h0 h9 v ok hv)
theorem box_cells {k i v : Int} {o : Bool} (h : Aparts w0 w [A, B, C, D, boxP b 36 (OpQ.cells ⟨k, i, v, o⟩)]) : Holds w b 36 (OpQ.cells ⟨k, i, v, o⟩) := box_a h (i := 4) rfl
theorem Aparts.four (h : Aparts w0 w [A, B, C, D, F]) : Aparts w0 w [A, B, C, D] := Aparts.init (l := [A, B, C, D]) h
end

def DP (E : Part) (w0 : World) (p q b c : Nat) (y : PV) (e : Ending) (w' : World) : Prop := e = .returned (.bool true) ∧ ∃ (y' : PV) (c' : Nat) (m' : Int → Int), c' ≤ c + 1 ∧ y'.ok ∧ y.pts ≤ y'.pts ∧ y'.pts ≤ y.pts + 1 ∧ Aparts w0 w' [pathP p y', refP q y', memP b c' m', E]
theorem Aparts.post {w0 w' : World} {p q b c : Nat} {y y' : PV} {m : Int → Int} {D E : Part} (h : Aparts w0 w' [pathP p y', refP q y', memP b c m, E, D]) (ho : y'.ok) (h1 : y.pts ≤ y'.pts) (h2 : y'.pts ≤ y.pts + 1) {v : Value} (hv : v = .bool true) : DP E w0 p q b c y (.returned v) w' := ⟨by rw [hv], y', c, m, Nat.le_succ _, ho, h1, h2, h.four⟩
theorem errB_cases (y : PV) : y.errB = 0 ∨ y.errB = 80 := by unfold PV.errB; split <;> simp
theorem shut_cases (y : PV) : y.shut = 0 ∨ y.shut = 80 := by unfold PV.shut; split <;> simp
theorem errA_cases (y : PV) (a : Int) : y.errA a = 0 ∨ y.errA a = 2 ∨ y.errA a = 80 := by
  unfold PV.errA
  rcases shut_cases y with h | h <;> rw [h] <;> simp <;> omega
theorem errG_cases (y : PV) : y.errG = 0 ∨ y.errG = 80 := by unfold PV.errG; split <;> simp

section
variable {w0 w : World} {p q b c : Nat} {y : PV} {m : Int → Int} {E : Part}

set_option maxRecDepth 100000 in
set_option maxHeartbeats 2000000 in
theorem do_0 (h : Aparts w0 w [pathP p y, refP q y, memP b c m, E]) (ho : y.ok) (_h0 : 0 ≤ y.pts) (_h9 : y.pts ≤ 1000000) (x : OpQ) (hx : x.good) (hk : x.kind = 0) :
    Calls Try.prog 11 #[.pointer (some ⟨p, 0, none⟩), .pointer (some ⟨q, 0, none⟩), .agg x.cells.toArray, .map (some b)] w (DP E w0 p q b c y) := by
  obtain ⟨kd, i, v, o⟩ := x
  simp only at hk
  subst hk
  have hA : I64 i := hx.2.1
  have hV : W64 v := hx.2.2
  have H : Hid (Aparts w0 (w.alloc (.cells (OpQ.cells ⟨0, i, v, o⟩).toArray 36)) [pathP p y, refP q y, memP b c m, E, boxP w.heap.size 36 (OpQ.cells ⟨0, i, v, o⟩)]) := Lib.hid (h.box 36 (OpQ.cells ⟨0, i, v, o⟩))
  have c0 := (box_cells H.out).cell (i := 0) rfl
  have HW : Hid (IntKind.i64.wrap (y.errB) = y.errB) := Lib.hid (by rcases errB_cases y with h | h <;> rw [h] <;> rfl)
  clear h hx
  simp only [OpQ.cells] at *
  have hw := HW.out
  go_enter Try.func11, Try.ntmps11
  go_wp2_with (first | (go_at_call 15; refine (a_Begin H.out ).mono ?_; rintro e V ⟨rfl, h⟩; have H1 := Lib.hid h; clear h) | (go_at_call 36; refine (r_Begin H1.out ).mono ?_; rintro e V2 ⟨rfl, h⟩; have H2 := Lib.hid h; clear h))
  go_ret
  exact H2.out.post (PV.begin_ok ho) (by have := PV.begin_pts y; omega) (by have := PV.begin_pts y; omega) (by simp)

set_option maxRecDepth 100000 in
set_option maxHeartbeats 2000000 in
theorem do_1 (h : Aparts w0 w [pathP p y, refP q y, memP b c m, E]) (ho : y.ok) (_h0 : 0 ≤ y.pts) (_h9 : y.pts ≤ 1000000) (x : OpQ) (hx : x.good) (hk : x.kind = 1) :
    Calls Try.prog 11 #[.pointer (some ⟨p, 0, none⟩), .pointer (some ⟨q, 0, none⟩), .agg x.cells.toArray, .map (some b)] w (DP E w0 p q b c y) := by
  obtain ⟨kd, i, v, o⟩ := x
  simp only at hk
  subst hk
  have hA : I64 i := hx.2.1
  have hV : W64 v := hx.2.2
  have H : Hid (Aparts w0 (w.alloc (.cells (OpQ.cells ⟨1, i, v, o⟩).toArray 36)) [pathP p y, refP q y, memP b c m, E, boxP w.heap.size 36 (OpQ.cells ⟨1, i, v, o⟩)]) := Lib.hid (h.box 36 (OpQ.cells ⟨1, i, v, o⟩))
  have c0 := (box_cells H.out).cell (i := 0) rfl
  have HW : Hid (IntKind.i64.wrap (y.errA i) = y.errA i) := Lib.hid (by rcases errA_cases y i with h | h | h <;> rw [h] <;> rfl)
  clear h hx
  simp only [OpQ.cells] at *
  go_enter Try.func11, Try.ntmps11
  go_wp2
  generalize w.alloc (.cells #[.int .i64 1, .int .i64 i, .int .u64 v, .bool o] 36) = W at *
  generalize w.heap.size = X at *
  have hD := H.out.idle (below_drew1 (Below.refl _ W))
  have HK : Hid (∀ V A B C D, Aparts w0 V [A, B, C, D, boxP X 36 [.int .i64 1, .int .i64 i, .int .u64 v, .bool o]] → V.cell? ⟨X, 1, none⟩ = some (.int .i64 i)) := Lib.hid (fun V A B C _ h => (box_cells h).cell (i := 1) rfl)
  go_region_held3 (fun V => V.cell? ⟨X, 1, none⟩ = some (.int .i64 i)) (first | with_reducible exact HK.out _ _ _ _ _ hD) (first | (go_at_call 13; (with_reducible refine (a_Load hD i hA).mono ?_); rintro e V ⟨rfl, hD⟩) | (go_at_call 37; (with_reducible refine (r_Load hD i hA).mono ?_); rintro e V ⟨rfl, hD⟩))
  all_goals
    have HD := Lib.hid hD
    have hw := HW.out
    go_wp2
    go_ret
    exact HD.out.post (PV.load_ok ho hA) (by have := PV.load_pts y i; omega) (by have := PV.load_pts y i; omega) (by simp)

set_option maxRecDepth 100000 in
set_option maxHeartbeats 2000000 in
theorem do_2 (h : Aparts w0 w [pathP p y, refP q y, memP b c m, E]) (ho : y.ok) (_h0 : 0 ≤ y.pts) (_h9 : y.pts ≤ 1000000) (x : OpQ) (hx : x.good) (hk : x.kind = 2) :
    Calls Try.prog 11 #[.pointer (some ⟨p, 0, none⟩), .pointer (some ⟨q, 0, none⟩), .agg x.cells.toArray, .map (some b)] w (DP E w0 p q b c y) := by
  obtain ⟨kd, i, v, o⟩ := x
  simp only at hk
  subst hk
  have hA : I64 i := hx.2.1
  have hV : W64 v := hx.2.2
  have H : Hid (Aparts w0 (w.alloc (.cells (OpQ.cells ⟨2, i, v, o⟩).toArray 36)) [pathP p y, refP q y, memP b c m, E, boxP w.heap.size 36 (OpQ.cells ⟨2, i, v, o⟩)]) := Lib.hid (h.box 36 (OpQ.cells ⟨2, i, v, o⟩))
  have c0 := (box_cells H.out).cell (i := 0) rfl
  have HW : Hid (IntKind.i64.wrap (y.errA i) = y.errA i) := Lib.hid (by rcases errA_cases y i with h | h | h <;> rw [h] <;> rfl)
  clear h hx
  simp only [OpQ.cells] at *
  go_enter Try.func11, Try.ntmps11
  go_wp2
  generalize w.alloc (.cells #[.int .i64 2, .int .i64 i, .int .u64 v, .bool o] 36) = W at *
  generalize w.heap.size = X at *
  have hD := H.out.idle (below_drew1 (Below.refl _ W))
  have HK : Hid (∀ V A B C D, Aparts w0 V [A, B, C, D, boxP X 36 [.int .i64 2, .int .i64 i, .int .u64 v, .bool o]] → V.cell? ⟨X, 1, none⟩ = some (.int .i64 i) ∧ V.cell? ⟨X, 2, none⟩ = some (.int .u64 v)) := Lib.hid (fun V A B C _ h => ⟨(box_cells h).cell (i := 1) rfl, (box_cells h).cell (i := 2) rfl⟩)
  go_region_held3 (fun V => V.cell? ⟨X, 1, none⟩ = some (.int .i64 i) ∧ V.cell? ⟨X, 2, none⟩ = some (.int .u64 v)) (first | with_reducible exact HK.out _ _ _ _ _ hD) (first | (go_at_call 17; (with_reducible refine (a_Store hD i v hA hV).mono ?_); rintro e V ⟨rfl, hD⟩) | (go_at_call 38; (with_reducible refine (r_Store hD i v hA hV).mono ?_); rintro e V ⟨rfl, hD⟩))
  all_goals
    have HD := Lib.hid hD
    have hw := HW.out
    go_wp2
    go_ret
    exact HD.out.post (PV.store_ok ho hA hV) (by have := PV.store_pts y i v; omega) (by have := PV.store_pts y i v; omega) (by simp)

set_option maxRecDepth 100000 in
set_option maxHeartbeats 2000000 in
theorem do_3 (h : Aparts w0 w [pathP p y, refP q y, memP b c m, E]) (ho : y.ok) (_h0 : 0 ≤ y.pts) (_h9 : y.pts ≤ 1000000) (x : OpQ) (hx : x.good) (hk : x.kind = 3) :
    Calls Try.prog 11 #[.pointer (some ⟨p, 0, none⟩), .pointer (some ⟨q, 0, none⟩), .agg x.cells.toArray, .map (some b)] w (DP E w0 p q b c y) := by
  obtain ⟨kd, i, v, o⟩ := x
  simp only at hk
  subst hk
  have hA : I64 i := hx.2.1
  have hV : W64 v := hx.2.2
  have H : Hid (Aparts w0 (w.alloc (.cells (OpQ.cells ⟨3, i, v, o⟩).toArray 36)) [pathP p y, refP q y, memP b c m, E, boxP w.heap.size 36 (OpQ.cells ⟨3, i, v, o⟩)]) := Lib.hid (h.box 36 (OpQ.cells ⟨3, i, v, o⟩))
  have c0 := (box_cells H.out).cell (i := 0) rfl
  have HW : Hid (IntKind.i64.wrap (y.shut) = y.shut) := Lib.hid (by rcases shut_cases y with h | h <;> rw [h] <;> rfl)
  clear h hx
  simp only [OpQ.cells] at *
  have hw := HW.out
  go_enter Try.func11, Try.ntmps11
  go_wp2_with (first | (go_at_call 21; refine (a_Commit H.out ).mono ?_; rintro e V ⟨rfl, h⟩; have H1 := Lib.hid h; clear h) | (go_at_call 39; refine (r_Commit H1.out ).mono ?_; rintro e V2 ⟨rfl, h⟩; have H2 := Lib.hid h; clear h))
  go_ret
  exact H2.out.post (PV.commit_ok ho) (by have := PV.commit_pts y; omega) (by have := PV.commit_pts y; omega) (by simp)

set_option maxRecDepth 100000 in
set_option maxHeartbeats 2000000 in
theorem do_4 (h : Aparts w0 w [pathP p y, refP q y, memP b c m, E]) (ho : y.ok) (_h0 : 0 ≤ y.pts) (_h9 : y.pts ≤ 1000000) (x : OpQ) (hx : x.good) (hk : x.kind = 4) :
    Calls Try.prog 11 #[.pointer (some ⟨p, 0, none⟩), .pointer (some ⟨q, 0, none⟩), .agg x.cells.toArray, .map (some b)] w (DP E w0 p q b c y) := by
  obtain ⟨kd, i, v, o⟩ := x
  simp only at hk
  subst hk
  have hA : I64 i := hx.2.1
  have hV : W64 v := hx.2.2
  have H : Hid (Aparts w0 (w.alloc (.cells (OpQ.cells ⟨4, i, v, o⟩).toArray 36)) [pathP p y, refP q y, memP b c m, E, boxP w.heap.size 36 (OpQ.cells ⟨4, i, v, o⟩)]) := Lib.hid (h.box 36 (OpQ.cells ⟨4, i, v, o⟩))
  have c0 := (box_cells H.out).cell (i := 0) rfl
  have HW : Hid (IntKind.i64.wrap (y.shut) = y.shut) := Lib.hid (by rcases shut_cases y with h | h <;> rw [h] <;> rfl)
  clear h hx
  simp only [OpQ.cells] at *
  have hw := HW.out
  go_enter Try.func11, Try.ntmps11
  go_wp2_with (first | (go_at_call 22; refine (a_Quit H.out ).mono ?_; rintro e V ⟨rfl, h⟩; have H1 := Lib.hid h; clear h) | (go_at_call 40; refine (r_Quit H1.out ).mono ?_; rintro e V2 ⟨rfl, h⟩; have H2 := Lib.hid h; clear h))
  go_ret
  exact H2.out.post (PV.quit_ok ho) (by have := PV.quit_pts y; omega) (by have := PV.quit_pts y; omega) (by simp)

set_option maxRecDepth 100000 in
set_option maxHeartbeats 2000000 in
theorem do_5 (h : Aparts w0 w [pathP p y, refP q y, memP b c m, E]) (ho : y.ok) (h0 : 0 ≤ y.pts) (h9 : y.pts ≤ 1000000) (x : OpQ) (hx : x.good) (hk : x.kind = 5) :
    Calls Try.prog 11 #[.pointer (some ⟨p, 0, none⟩), .pointer (some ⟨q, 0, none⟩), .agg x.cells.toArray, .map (some b)] w (DP E w0 p q b c y) := by
  obtain ⟨kd, i, v, o⟩ := x
  simp only at hk
  subst hk
  have hA : I64 i := hx.2.1
  have hV : W64 v := hx.2.2
  have H : Hid (Aparts w0 (w.alloc (.cells (OpQ.cells ⟨5, i, v, o⟩).toArray 36)) [pathP p y, refP q y, memP b c m, E, boxP w.heap.size 36 (OpQ.cells ⟨5, i, v, o⟩)]) := Lib.hid (h.box 36 (OpQ.cells ⟨5, i, v, o⟩))
  have c0 := (box_cells H.out).cell (i := 0) rfl
  have HW : Hid (IntKind.i64.wrap (y.errG) = y.errG) := Lib.hid (by rcases errG_cases y with h | h <;> rw [h] <;> rfl)
  clear h hx
  simp only [OpQ.cells] at *
  go_enter Try.func11, Try.ntmps11
  go_wp2
  generalize w.alloc (.cells #[.int .i64 5, .int .i64 i, .int .u64 v, .bool o] 36) = W at *
  generalize w.heap.size = X at *
  have hD := H.out.idle (below_drew1 (Below.refl _ W))
  have HK : Hid (∀ V A B C D, Aparts w0 V [A, B, C, D, boxP X 36 [.int .i64 5, .int .i64 i, .int .u64 v, .bool o]] → V.cell? ⟨X, 2, none⟩ = some (.int .u64 v) ∧ V.cell? ⟨X, 3, none⟩ = some (.bool o)) := Lib.hid (fun V A B C _ h => ⟨(box_cells h).cell (i := 2) rfl, (box_cells h).cell (i := 3) rfl⟩)
  go_region_held3 (fun V => V.cell? ⟨X, 2, none⟩ = some (.int .u64 v) ∧ V.cell? ⟨X, 3, none⟩ = some (.bool o)) (first | with_reducible exact HK.out _ _ _ _ _ hD) (first | (go_at_call 14; (with_reducible refine (a_Give hD h0 h9 v o hV).mono ?_); rintro e V ⟨rfl, hD⟩) | (go_at_call 41; (with_reducible refine (r_Give hD h0 h9 v o hV).mono ?_); rintro e V ⟨rfl, hD⟩))
  all_goals
    have HD := Lib.hid hD
    have hw := HW.out
    go_wp2
    go_ret
    exact HD.out.post (PV.give_ok ho hV o) (by have := PV.give_pts y v o; omega) (by have := PV.give_pts y v o; omega) (by simp)
end

end Go.Proofs.Ythepmejfgbfilaa
