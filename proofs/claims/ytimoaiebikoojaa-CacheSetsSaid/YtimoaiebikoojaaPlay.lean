/- play: steps with a cache alone. Conditions: those stated in each theorem. -/
import Derived.Test.YtimoaiebikoojaaSteps
namespace Go.Proofs.Ytimoaiebikoojaa
open Go.RowKit

/-- A step that came in. -/
structure StepV where
  kind : Int
  n : Int
  state : Int
  write : Bool
  v : Int
  l : L8
def StepV.cells (x : StepV) : List Value := [.int .i64 x.kind, .int .i64 x.n, .int .i64 x.state, .bool x.write, .int .u64 x.v, .int .u64 x.l.x0, .int .u64 x.l.x1, .int .u64 x.l.x2, .int .u64 x.l.x3, .int .u64 x.l.x4, .int .u64 x.l.x5, .int .u64 x.l.x6, .int .u64 x.l.x7]
theorem oneStep (x : StepV) : (x.cells.toArray).all (·.oneCell') = true := by simp [StepV.cells, Value.oneCell']
def StepV.zero : StepV := ⟨0, 0, 0, false, 0, L8.zero⟩
theorem StepV.len (x : StepV) : x.cells.length = 13 := rfl
theorem Try.size38 : (Try.prog.info? 38).map (·.size) = some 13 := by kernel_rfl

def stepL (s : Sets × Int) (x : StepV) : Sets × Int :=
  if x.kind == 0 then ((fillL s.1 s.2 x.n x.state x.l).1, (fillL s.1 s.2 x.n x.state x.l).2.1)
  else if x.kind == 1 then ((wordL s.1 s.2 x.n).1, (wordL s.1 s.2 x.n).2.1)
  else if x.kind == 2 then ((putL s.1 s.2 x.n x.v).1, (putL s.1 s.2 x.n x.v).2.1)
  else if x.kind == 3 then ((markL s.1 s.2 x.n x.write).1, (markL s.1 s.2 x.n x.write).2.1)
  else if x.kind == 4 then ((demoteL s.1 s.2 x.n).1, (demoteL s.1 s.2 x.n).2.1)
  else if x.kind == 5 then ((promoteL s.1 s.2 x.n x.l).1, (promoteL s.1 s.2 x.n x.l).2.1)
  else if x.kind == 6 then ((dropL s.1 s.2 x.n).1, (dropL s.1 s.2 x.n).2.1)
  else if x.kind == 7 then (turnAll Ent.clear s.1, s.2)
  else if x.kind == 8 then (turnAll Ent.clear (turnAll Ent.back s.1), s.2)
  else s
def playL (s : Sets × Int) (xs : List StepV) : Sets × Int := xs.foldl stepL s

theorem stepL_uses (s : Sets × Int) (x : StepV) : s.2 ≤ (stepL s x).2 ∧ (stepL s x).2 ≤ s.2 + 1 := by
  unfold stepL fillL wordL putL markL demoteL promoteL dropL
  repeat' split
  all_goals (simp; try omega)

theorem playL_uses : ∀ (xs : List StepV) (s : Sets × Int), s.2 ≤ (playL s xs).2 ∧ (playL s xs).2 ≤ s.2 + xs.length
  | [], s => by simp [playL]
  | x :: xs, s => by
    have h1 := stepL_uses s x
    have h2 := playL_uses xs (stepL s x)
    simp only [playL, List.foldl_cons, List.length_cons] at *
    omega
theorem playL_take (xs : List StepV) (s : Sets × Int) {k : Nat} {x : StepV} (h : xs[k]? = some x) : playL s (xs.take (k + 1)) = stepL (playL s (xs.take k)) x := by
  simp [playL, List.take_add_one, h]

section
variable {w0 w : World} {p S : Nat} {bs : List Nat} {ways : Nat} {ss : List (List Ent)} {u : Int} {G : List (Nat × List Value)}
theorem St.stashS (h : St w0 w p S bs ways ss u G) (x : StepV) : ∃ W, W = (w.alloc (.cells StepV.zero.cells.toArray 38)).setCells w.heap.size 0 x.cells ∧ St w0 W p S bs ways ss u G ∧ (w.alloc (.cells StepV.zero.cells.toArray 38)).there w.heap.size 0 13 ∧ W.rangeAt w.heap.size 0 x.cells := by
  have hn := there_new w StepV.zero.cells 38 13 rfl
  exact ⟨_, rfl, h.idle (below_setCells (Nat.le_refl _) _ _ ((Below.refl _ w).alloc (Nat.le_refl _) _)), hn, range_set x.cells (by rw [StepV.len]; exact hn)⟩
end

/-- The steps lie there. -/
def StepsAt (w : World) (q c : Nat) (xs : List StepV) : Prop := q < w.heap.size ∧ ∀ k x, xs[k]? = some x → w.rangeAt q (c + k * 13) x.cells
theorem StepsAt.below {w w' : World} {q c B : Nat} {xs : List StepV} (h : StepsAt w q c xs) (hb : Below B w w') (hB : w.heap.size ≤ B) : StepsAt w' q c xs :=
  ⟨Nat.lt_of_lt_of_le h.1 hb.size, fun k x hx i v hi => by
    rw [World.cell?_of_block (a := ⟨q, c + k * 13 + i, none⟩) (hb.block q (Nat.lt_of_lt_of_le h.1 hB))]
    exact h.2 k x hx i v hi⟩

set_option maxRecDepth 100000 in
set_option maxHeartbeats 1000000 in
theorem play_ok {w0 w : World} {p S : Nat} {bs : List Nat} {ways : Nat} {ss : Sets} {u : Int} {G : List (Nat × List Value)} (h : St w0 w p S bs ways ss u G) (q c cap : Nat) (xs : List StepV) (hx : StepsAt w0 q c xs) (h0 : 0 ≤ u) (hu : u + xs.length < 4294967296) (hn : ∀ x ∈ xs, x.n ≤ 9223372036854775807) :
    Calls Try.prog 23 #[.pointer (some ⟨p, 0, none⟩), .slice (some ⟨q, c, none⟩) xs.length cap] w fun e w' => e = .returned (.tuple #[]) ∧ St w0 w' p S bs ways (playL (ss, u) xs).1 (playL (ss, u) xs).2 G := by
  have H := Lib.hid h; clear h
  have HX := Lib.hid hx; clear hx
  have HN := Lib.hid hn; clear hn
  go_enter Try.func23, Try.ntmps23
  go_wp2
  go_loopw [4] (fun i wr => ∃ k : Nat, k ≤ xs.length ∧ i = .int .i64 k ∧ St w0 wr p S bs ways (playL (ss, u) (xs.take k)).1 (playL (ss, u) (xs.take k)).2 G) (fun i _ => xs.length - (intOf i).toNat)
  case atStart => exact ⟨0, by omega, rfl, H.out⟩
  case round =>
    obtain ⟨k, hk, rfl, hs⟩ := hrel
    have HS := Lib.hid hs; clear hs H
    by_cases hlt : k < xs.length
    · obtain ⟨x, hxk⟩ : ∃ x, xs[k]? = some x := ⟨xs[k], List.getElem?_eq_getElem hlt⟩
      have hr := (HX.out.below HS.out.below (Nat.le_refl _)).2 k x hxk
      have hu1 := playL_uses (xs.take k) (ss, u)
      rw [List.length_take, Nat.min_eq_left hk] at hu1
      obtain ⟨W, eW, hW, hnW, hrW⟩ := HS.out.stashS x
      have EW := Lib.hid eW; clear eW
      have HW := Lib.hid hW; clear hW
      have HnW := Lib.hid hnW; clear hnW
      have Hr := Lib.hid hr; clear hr
      have c0 : W.cell? ⟨wr.heap.size, 0, none⟩ = some (.int .i64 x.kind) := hrW 0 _ rfl
      have c1 : W.cell? ⟨wr.heap.size, 1, none⟩ = some (.int .i64 x.n) := hrW 1 _ rfl
      have c2 : W.cell? ⟨wr.heap.size, 2, none⟩ = some (.int .i64 x.state) := hrW 2 _ rfl
      have c3 : W.cell? ⟨wr.heap.size, 3, none⟩ = some (.bool x.write) := hrW 3 _ rfl
      have c4 : W.cell? ⟨wr.heap.size, 4, none⟩ = some (.int .u64 x.v) := hrW 4 _ rfl
      have hl : W.rangeAt wr.heap.size 5 x.l.cells := fun i v hv => by
        have hi8 : i < 8 := (List.getElem?_eq_some_iff.1 hv).1
        have := hrW (5 + i) v (by
          rw [← hv]
          match i, hi8 with
          | 0, _ | 1, _ | 2, _ | 3, _ | 4, _ | 5, _ | 6, _ | 7, _ => rfl)
        rwa [Nat.zero_add] at this
      have HL := Lib.hid hl; clear hl hrW
      go_wp2_with (first | (refine wpList_load_mid rfl 38 (.tmp 14) rfl q (c + k * 13) rfl x.cells _ ?_ Try.underlying38 rfl Try.size38 ?_; exact Hr.out) | (refine wpList_store_mid rfl 38 (.tmp 5) (.tmp 15) rfl wr.heap.size 0 x.cells.toArray rfl rfl ?_ Try.size38 (oneStep x) ?_; exact HnW.out; change wpList _ _ _ _ _ ((wr.alloc (.cells StepV.zero.cells.toArray 38)).setCells wr.heap.size 0 x.cells); rw [← EW.out]) | (refine wpList_load_mid rfl 36 (.tmp 25) rfl wr.heap.size 5 rfl x.l.cells _ ?_ Try.underlying36 rfl Try.size36 ?_; exact HL.out) | (refine wpList_load_mid rfl 36 (.tmp 61) rfl wr.heap.size 5 rfl x.l.cells _ ?_ Try.underlying36 rfl Try.size36 ?_; exact HL.out))
      · refine (fill_any HW.out x.n x.state x.l (by omega) (by omega)).mono ?_
        rintro e wv ⟨rfl, hs⟩
        have Hs := Lib.hid hs; clear hs
        go_wp2
        go_roundw
        case rel => exact ⟨k + 1, by omega, by go_num, by rw [playL_take xs _ hxk]; simpa [stepL, *] using Hs.out⟩
        case measure => simp [intOf]; omega
      · refine (word_any HW.out x.n (HN.out x (List.mem_of_getElem? hxk)) (by omega) (by omega)).mono ?_
        rintro e wv ⟨rfl, hs⟩
        have Hs := Lib.hid hs; clear hs
        go_wp2
        go_roundw
        case rel => exact ⟨k + 1, by omega, by go_num, by rw [playL_take xs _ hxk]; simpa [stepL, *] using Hs.out⟩
        case measure => simp [intOf]; omega
      · refine (put_any HW.out x.n x.v (HN.out x (List.mem_of_getElem? hxk)) (by omega) (by omega)).mono ?_
        rintro e wv ⟨rfl, hs⟩
        have Hs := Lib.hid hs; clear hs
        go_wp2
        go_roundw
        case rel => exact ⟨k + 1, by omega, by go_num, by rw [playL_take xs _ hxk]; simpa [stepL, *] using Hs.out⟩
        case measure => simp [intOf]; omega
      · refine (mark_any HW.out x.n x.write).mono ?_
        rintro e wv ⟨rfl, hs⟩
        have Hs := Lib.hid hs; clear hs
        go_wp2
        go_roundw
        case rel => exact ⟨k + 1, by omega, by go_num, by rw [playL_take xs _ hxk]; simpa [stepL, *] using Hs.out⟩
        case measure => simp [intOf]; omega
      · refine (demote_any HW.out x.n).mono ?_
        rintro e wv ⟨rfl, hs⟩
        have Hs := Lib.hid hs; clear hs
        go_wp2
        go_roundw
        case rel => exact ⟨k + 1, by omega, by go_num, by rw [playL_take xs _ hxk]; simpa [stepL, *] using Hs.out⟩
        case measure => simp [intOf]; omega
      · refine (promote_any HW.out x.n x.l).mono ?_
        rintro e wv ⟨rfl, hs⟩
        have Hs := Lib.hid hs; clear hs
        go_wp2
        go_roundw
        case rel => exact ⟨k + 1, by omega, by go_num, by rw [playL_take xs _ hxk]; simpa [stepL, *] using Hs.out⟩
        case measure => simp [intOf]; omega
      · refine (drop_any HW.out x.n).mono ?_
        rintro e wv ⟨rfl, hs⟩
        have Hs := Lib.hid hs; clear hs
        go_wp2
        go_roundw
        case rel => exact ⟨k + 1, by omega, by go_num, by rw [playL_take xs _ hxk]; simpa [stepL, *] using Hs.out⟩
        case measure => simp [intOf]; omega
      · refine (commit_st HW.out).mono ?_
        rintro e wv ⟨rfl, hs⟩
        have Hs := Lib.hid hs; clear hs
        go_wp2
        go_roundw
        case rel => exact ⟨k + 1, by omega, by go_num, by rw [playL_take xs _ hxk]; simpa [stepL, *] using Hs.out⟩
        case measure => simp [intOf]; omega
      · refine (discard_st HW.out).mono ?_
        rintro e wv ⟨rfl, hs⟩
        have Hs := Lib.hid hs; clear hs
        go_wp2
        go_roundw
        case rel => exact ⟨k + 1, by omega, by go_num, by rw [playL_take xs _ hxk]; simpa [stepL, *] using Hs.out⟩
        case measure => simp [intOf]; omega
      · have Hs := Lib.hid HW.out
        go_roundw
        case rel => exact ⟨k + 1, by omega, by go_num, by rw [playL_take xs _ hxk]; simpa [stepL, *] using Hs.out⟩
        case measure => simp [intOf]; omega
    · have : k = xs.length := by omega
      subst this
      have hs := HS.out
      rw [List.take_length] at hs
      have HF := Lib.hid hs; clear hs
      go_wp2
      exact ⟨rfl, .tuple #[], (by simp [results, Try.results23, go_sem]), rfl, HF.out⟩

end Go.Proofs.Ytimoaiebikoojaa
