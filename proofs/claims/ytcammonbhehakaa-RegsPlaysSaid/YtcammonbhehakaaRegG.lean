/- Calls that came in; play. Conditions: those stated in each theorem. -/
import Derived.Test.YtcammonbhehakaaRegE
import Derived.Test.YtcammonbhehakaaCame
namespace Go.Proofs.Ytcammonbhehakaa
open Go.RowKit Go.BigFrame

/-- A call that came in. -/
structure OpV where
  kind : Int
  n : Int
  v : Int
def OpV.cells (x : OpV) : List Value := [.int .i64 x.kind, .int .i64 x.n, .int .u64 x.v]
def OpV.zero : OpV := ⟨0, 0, 0⟩
def opKinds : List CK := [⟨0, .i64⟩, ⟨0, .i64⟩, ⟨0, .u64⟩]
theorem oneOp (x : OpV) : (x.cells.toArray).all (·.oneCell') = true := by simp [OpV.cells, Value.oneCell']
theorem Try.sizeOp : (Try.prog.info? 32).map (·.size) = some 3 := by kernel_rfl
theorem op_mk (vs : List Value) (h : Fit opKinds vs) : ∃ x : OpV, x.cells = vs ∧ True := by
  obtain ⟨h1, h2⟩ := h
  match vs, h1 with
  | [a, b, c], _ =>
    obtain ⟨n0, rfl, _⟩ := h2 0 _ _ rfl rfl
    obtain ⟨n1, rfl, _⟩ := h2 1 _ _ rfl rfl
    obtain ⟨n2, rfl, _⟩ := h2 2 _ _ rfl rfl
    exact ⟨⟨n0, n1, n2⟩, rfl, trivial⟩
theorem ops_in {w : World} {a : Option Addr} {len : Nat} (h : Came w a len opKinds) : ∃ xs : List OpV, xs.length = len ∧ RowsIn w a 3 OpV.cells xs := by
  obtain ⟨xs, h1, h2, _⟩ := rows_in h (by simp [opKinds]) op_mk
  exact ⟨xs, h1, h2⟩

def stepL (marks : Bool) (f : Fl) (x : OpV) : Fl :=
  if x.kind == 0 then f.set x.n x.v
  else if x.kind == 1 then f.jump x.n
  else if x.kind == 2 && marks then f.save
  else if x.kind == 3 then f.restore
  else if x.kind == 4 && marks then f.drop
  else f
def playL (marks : Bool) (f : Fl) (xs : List OpV) : Fl := xs.foldl (stepL marks) f
theorem playL_take (m : Bool) (xs : List OpV) (f : Fl) {k : Nat} {x : OpV} (h : xs[k]? = some x) : playL m f (xs.take (k + 1)) = stepL m (playL m f (xs.take k)) x := by
  simp [playL, List.take_add_one, h]

section
variable {w0 w : World} {a : Nat} {f : Fl} {G : List (Nat × L8)}
theorem FSt.opBox (h : FSt w0 w a f G) (x : OpV) : ∃ W, W = (w.alloc (.cells OpV.zero.cells.toArray 32)).setCells w.heap.size 0 x.cells ∧ FSt w0 W a f G ∧ (w.alloc (.cells OpV.zero.cells.toArray 32)).there w.heap.size 0 3 ∧ W.rangeAt w.heap.size 0 x.cells := by
  have hn := there_new w OpV.zero.cells 32 3 rfl
  exact ⟨_, rfl, h.idle (below_cells (Nat.le_refl _) _ _ _ ((Below.refl _ w).alloc (Nat.le_refl _) _)), hn, range_set x.cells hn⟩

set_option maxRecDepth 100000 in
set_option maxHeartbeats 1000000 in
theorem play_ok (h : FSt w0 w a f G) (ad : Option Addr) (cap : Nat) (xs : List OpV) (marks : Bool) (hx : RowsIn w0 ad 3 OpV.cells xs) (hl : xs.length ≤ 1000) :
    Calls Try.prog 22 #[.pointer (some ⟨a, 0, none⟩), .slice ad xs.length cap, .bool marks] w fun e w' => e = .returned (.tuple #[]) ∧ FSt w0 w' a (playL marks f xs) G := by
  have H := Lib.hid h; clear h
  have HX := Lib.hid hx; clear hx
  go_enter Try.func22, Try.ntmps22
  go_wp2
  go_loopw [6] (fun i wr => ∃ k : Nat, k ≤ xs.length ∧ i = .int .i64 k ∧ FSt w0 wr a (playL marks f (xs.take k)) G) (fun i _ => xs.length - (intOf i).toNat)
  case atStart => exact ⟨0, by omega, rfl, H.out⟩
  case round =>
    obtain ⟨k, hk, rfl, hs⟩ := hrel
    have HS := Lib.hid hs; clear hs H
    by_cases hlt : k < xs.length
    · obtain ⟨x, hxk⟩ : ∃ x, xs[k]? = some x := ⟨xs[k], List.getElem?_eq_getElem hlt⟩
      obtain ⟨q, c, rfl, hq, hr⟩ := HX.out.row hxk
      have hr : wr.rangeAt q (c + k * 3) x.cells := fun i v hi => by
        rw [World.cell?_of_block (a := ⟨q, c + k * 3 + i, none⟩) (HS.out.below.block q hq)]
        exact hr i v hi
      obtain ⟨W, eW, hW, hnW, hrW⟩ := HS.out.opBox x
      have EW := Lib.hid eW; clear eW
      have HW := Lib.hid hW; clear hW
      have HnW := Lib.hid hnW; clear hnW
      have Hr := Lib.hid hr; clear hr
      have c0 : W.cell? ⟨wr.heap.size, 0, none⟩ = some (.int .i64 x.kind) := hrW 0 _ rfl
      have c1 : W.cell? ⟨wr.heap.size, 1, none⟩ = some (.int .i64 x.n) := hrW 1 _ rfl
      have c2 : W.cell? ⟨wr.heap.size, 2, none⟩ = some (.int .u64 x.v) := hrW 2 _ rfl
      clear hrW
      cases marks
      all_goals
        go_wp2_with (first | (refine wpList_load_mid rfl 32 (.tmp 16) rfl q (c + k * 3) rfl x.cells _ ?_ Try.underlying32 rfl Try.sizeOp ?_; exact Hr.out) | (refine wpList_store_mid rfl 32 (.tmp 7) (.tmp 17) rfl wr.heap.size 0 x.cells.toArray rfl rfl ?_ Try.sizeOp (oneOp x) ?_; exact HnW.out; change wpList _ _ _ _ _ ((wr.alloc (.cells OpV.zero.cells.toArray 32)).setCells wr.heap.size 0 x.cells); rw [← EW.out]))
      all_goals first
        | ((with_reducible refine (set_st HW.out x.n x.v).mono ?_); rintro e wv ⟨rfl, hs⟩; have Hs := Lib.hid hs; clear hs; go_wp2; go_roundw; (case rel => exact ⟨k + 1, by omega, by go_num, by rw [playL_take _ xs _ hxk]; simpa [stepL, *] using Hs.out⟩); (case measure => simp [intOf]; omega))
        | ((with_reducible refine (jump_st HW.out x.n).mono ?_); rintro e wv ⟨rfl, hs⟩; have Hs := Lib.hid hs; clear hs; go_wp2; go_roundw; (case rel => exact ⟨k + 1, by omega, by go_num, by rw [playL_take _ xs _ hxk]; simpa [stepL, *] using Hs.out⟩); (case measure => simp [intOf]; omega))
        | ((with_reducible refine (save_st HW.out).mono ?_); rintro e wv ⟨rfl, hs⟩; have Hs := Lib.hid hs; clear hs; go_wp2; go_roundw; (case rel => exact ⟨k + 1, by omega, by go_num, by rw [playL_take _ xs _ hxk]; simpa [stepL, *] using Hs.out⟩); (case measure => simp [intOf]; omega))
        | ((with_reducible refine (restore_st HW.out).mono ?_); rintro e wv ⟨rfl, hs⟩; have Hs := Lib.hid hs; clear hs; go_wp2; go_roundw; (case rel => exact ⟨k + 1, by omega, by go_num, by rw [playL_take _ xs _ hxk]; simpa [stepL, *] using Hs.out⟩); (case measure => simp [intOf]; omega))
        | ((with_reducible refine (drop_st HW.out).mono ?_); rintro e wv ⟨rfl, hs⟩; have Hs := Lib.hid hs; clear hs; go_wp2; go_roundw; (case rel => exact ⟨k + 1, by omega, by go_num, by rw [playL_take _ xs _ hxk]; simpa [stepL, *] using Hs.out⟩); (case measure => simp [intOf]; omega))
        | ((with_reducible refine (get_st HW.out x.n).mono ?_); rintro e wv ⟨rfl, rfl⟩; have Hs := Lib.hid HW.out; go_wp2; go_roundw; (case rel => exact ⟨k + 1, by omega, by go_num, by rw [playL_take _ xs _ hxk]; simpa [stepL, *] using Hs.out⟩); (case measure => simp [intOf]; omega))
        | (have Hs := Lib.hid HW.out; go_roundw; (case rel => exact ⟨k + 1, by omega, by go_num, by rw [playL_take _ xs _ hxk]; simpa [stepL, *] using Hs.out⟩); (case measure => simp [intOf]; omega))
    · have : k = xs.length := by omega
      subst this
      have hs := HS.out
      rw [List.take_length] at hs
      have HF := Lib.hid hs; clear hs
      go_wp2
      exact ⟨rfl, .tuple #[], (by simp [results, Try.results22, go_sem]), rfl, HF.out⟩
end

end Go.Proofs.Ytcammonbhehakaa
