/- NodeMarks: every input, and the steps that came in. Conditions: those stated in each theorem. -/
import Derived.Test.YtddajnpichchfaaNodeW
import Derived.Test.YtddajnpichchfaaDat
namespace Go.Proofs.Ytddajnpichchfaa
open Go.ChangeShapes Go.WideShapes Go.ChangeAt Go.RowKit

def stepKinds : List CK := [⟨0, .i64⟩, ⟨0, .i64⟩, ⟨0, .u64⟩, ⟨0, .u64⟩, ⟨0, .i64⟩, ⟨0, .i64⟩, ⟨0, .i64⟩, ⟨0, .u64⟩, ⟨0, .u64⟩, ⟨0, .u64⟩, ⟨0, .u64⟩, ⟨0, .u64⟩, ⟨0, .u64⟩, ⟨0, .u64⟩, ⟨0, .u64⟩]
/-- Cells that came in, as open_plain tells them. -/
def Came (w : World) (a : Option Addr) (len : Nat) (ks : List CK) : Prop := ∀ i, i < len → ∀ j c, ks[j]? = some c → ∃ b, a = some b ∧ ∃ v, w.cell? (b.add (i * ks.length + j)) = some v ∧ c.fits v

theorem Came.addr {w : World} {a : Option Addr} {len : Nat} {ks : List CK} (h : Came w a len ks) (h0 : len ≠ 0) (hk : ks ≠ []) : ∃ q c, a = some ⟨q, c, none⟩ ∧ q < w.heap.size := by
  obtain ⟨k, hk⟩ : ∃ k, ks[0]? = some k := ⟨ks[0]'(by cases ks with | nil => exact absurd rfl hk | cons _ _ => simp), List.getElem?_eq_getElem _⟩
  obtain ⟨⟨q, c, s⟩, rfl, v, hv, _⟩ := h 0 (by omega) 0 k hk
  have hs : s = none := spot_of_cell (a := ⟨q, c, s⟩) (by simpa [Addr.add] using hv)
  subst hs
  exact ⟨q, c, rfl, World.block_lt_of_cell? _ _ (spot_of_add hv)⟩
theorem came_cell {w : World} {q c n : Nat} {v : Value} (h : w.cell? ((⟨q, c, none⟩ : Addr).add n) = some v) : w.cell? ⟨q, c + n, none⟩ = some v := spot_of_add h

theorem step_in {w : World} {q c len : Nat} (h : Came w (some ⟨q, c, none⟩) len stepKinds) {i : Nat} (hi : i < len) : ∃ x : StepN, w.rangeAt q (c + i * 15) x.cells ∧ x.n ≤ 9223372036854775807 := by
  obtain ⟨_, e0, _, c0, n0, rfl, g0⟩ := h i hi 0 _ rfl
  cases e0
  obtain ⟨_, e1, _, c1, n1, rfl, g1⟩ := h i hi 1 _ rfl
  cases e1
  obtain ⟨_, e2, _, c2, n2, rfl, g2⟩ := h i hi 2 _ rfl
  cases e2
  obtain ⟨_, e3, _, c3, n3, rfl, g3⟩ := h i hi 3 _ rfl
  cases e3
  obtain ⟨_, e4, _, c4, n4, rfl, g4⟩ := h i hi 4 _ rfl
  cases e4
  obtain ⟨_, e5, _, c5, n5, rfl, g5⟩ := h i hi 5 _ rfl
  cases e5
  obtain ⟨_, e6, _, c6, n6, rfl, g6⟩ := h i hi 6 _ rfl
  cases e6
  obtain ⟨_, e7, _, c7, n7, rfl, g7⟩ := h i hi 7 _ rfl
  cases e7
  obtain ⟨_, e8, _, c8, n8, rfl, g8⟩ := h i hi 8 _ rfl
  cases e8
  obtain ⟨_, e9, _, c9, n9, rfl, g9⟩ := h i hi 9 _ rfl
  cases e9
  obtain ⟨_, e10, _, c10, n10, rfl, g10⟩ := h i hi 10 _ rfl
  cases e10
  obtain ⟨_, e11, _, c11, n11, rfl, g11⟩ := h i hi 11 _ rfl
  cases e11
  obtain ⟨_, e12, _, c12, n12, rfl, g12⟩ := h i hi 12 _ rfl
  cases e12
  obtain ⟨_, e13, _, c13, n13, rfl, g13⟩ := h i hi 13 _ rfl
  cases e13
  obtain ⟨_, e14, _, c14, n14, rfl, g14⟩ := h i hi 14 _ rfl
  cases e14
  refine ⟨⟨n0, n1, n2, n3, ⟨n4, n5, n6, ⟨n7, n8, n9, n10, n11, n12, n13, n14⟩⟩⟩, fun j v hv => ?_, (i64_le g1).2⟩
  have hj : j < 15 := (List.getElem?_eq_some_iff.1 hv).1
  rw [Nat.add_assoc]
  match j, hj with
  | 0, _ => cases hv; exact came_cell c0
  | 1, _ => cases hv; exact came_cell c1
  | 2, _ => cases hv; exact came_cell c2
  | 3, _ => cases hv; exact came_cell c3
  | 4, _ => cases hv; exact came_cell c4
  | 5, _ => cases hv; exact came_cell c5
  | 6, _ => cases hv; exact came_cell c6
  | 7, _ => cases hv; exact came_cell c7
  | 8, _ => cases hv; exact came_cell c8
  | 9, _ => cases hv; exact came_cell c9
  | 10, _ => cases hv; exact came_cell c10
  | 11, _ => cases hv; exact came_cell c11
  | 12, _ => cases hv; exact came_cell c12
  | 13, _ => cases hv; exact came_cell c13
  | 14, _ => cases hv; exact came_cell c14
theorem steps_in {w : World} {q c len : Nat} (h : Came w (some ⟨q, c, none⟩) len stepKinds) (hq : q < w.heap.size) : ∃ xs : List StepN, xs.length = len ∧ StepsAtN w q c xs ∧ ∀ x ∈ xs, x.n ≤ 9223372036854775807 := by
  have g : ∀ i, ∃ x : StepN, i < len → w.rangeAt q (c + i * 15) x.cells ∧ x.n ≤ 9223372036854775807 := fun i => by
    by_cases hi : i < len
    · obtain ⟨x, hx⟩ := step_in h hi; exact ⟨x, fun _ => hx⟩
    · exact ⟨⟨0, 0, 0, 0, MsgV.zero⟩, fun h => absurd h hi⟩
  refine ⟨(List.range len).map fun i => (g i).choose, by simp, ⟨hq, fun k x hx => ?_⟩, fun x hx => ?_⟩
  · rw [List.getElem?_map, Option.map_eq_some_iff] at hx
    obtain ⟨i, hi, rfl⟩ := hx
    obtain ⟨hlt, rfl⟩ := List.getElem?_eq_some_iff.1 hi
    rw [List.length_range] at hlt
    rw [List.getElem_range]
    exact ((g k).choose_spec hlt).1
  · rw [List.mem_map] at hx
    obtain ⟨i, hi, rfl⟩ := hx
    exact ((g i).choose_spec (List.mem_range.1 hi)).2

set_option maxHeartbeats 1000000 in
theorem nnew_bad2 (core lines cores sets ways : Int) (w : World) (h1 : 0 ≤ core) (h2 : core < cores) (h3 : cores ≤ 4) (h4 : 2 ≤ lines) (h5 : lines ≤ 64) (h : sets < 1 ∨ 8 < sets ∨ ways < 1 ∨ 4 < ways) :
    Calls Try.prog 24 #[.int .i64 core, .agg #[.int .i64 lines, .int .i64 cores, .int .i64 sets, .int .i64 ways]] w fun e w' => e = .returned (.tuple #[.pointer none, .int .i64 2]) ∧ Below w.heap.size w w' := by
  have hb : Below w.heap.size w (w.alloc (.cells #[.int .i64 lines, .int .i64 cores, .int .i64 sets, .int .i64 ways] 66)) := (Below.refl _ w).alloc (Nat.le_refl _) _
  have Hb := Lib.hid hb; clear hb
  have HN := Lib.hid (fun W => new_bad sets ways W h)
  clear h
  go_enter Try.func24, Try.ntmps24
  go_wp2_with fail
  refine (HN.out _).mono ?_
  rintro e W ⟨rfl, rfl⟩
  go_wp2
  go_ret2
  exact ⟨rfl, Hb.out⟩
/-- A setup that New refuses. -/
def SetupBad (lines cores sets ways : Int) : Prop := cores < 1 ∨ 4 < cores ∨ lines < 2 ∨ 64 < lines ∨ sets < 1 ∨ 8 < sets ∨ ways < 1 ∨ 4 < ways
theorem nnew_bad3 (lines cores sets ways : Int) (w : World) (h : SetupBad lines cores sets ways) :
    Calls Try.prog 24 #[.int .i64 0, .agg #[.int .i64 lines, .int .i64 cores, .int .i64 sets, .int .i64 ways]] w fun e w' => e = .returned (.tuple #[.pointer none, .int .i64 2]) ∧ Below w.heap.size w w' := by
  unfold SetupBad at h
  by_cases hb : cores < 1 ∨ 4 < cores ∨ lines < 2 ∨ 64 < lines
  · exact nnew_bad 0 lines cores sets ways w (by omega)
  · exact nnew_bad2 0 lines cores sets ways w (by omega) (by omega) (by omega) (by omega) (by omega) (by omega)

set_option maxRecDepth 100000 in
set_option maxHeartbeats 2000000 in
theorem marks_bad (lines cores sets ways : Int) (al : Option Addr) (ll cl : Nat) (w : World) (h : SetupBad lines cores sets ways) :
    Calls Try.prog 5 #[.agg #[.int .i64 lines, .int .i64 cores, .int .i64 sets, .int .i64 ways], .slice al ll cl] w fun e w' => e = .returned (.bool true) ∧ Below w.heap.size w w' := by
  have HN := Lib.hid (fun W => nnew_bad3 lines cores sets ways W h); clear h
  go_enter Try.func5, Try.ntmps5
  go_wp2_with fail
  refine (nalive_ok _).mono ?_
  rintro e wa ⟨rfl, hba⟩
  have c0 : wa.cell? ⟨w.heap.size, 0, none⟩ = some (.int .i64 lines) := by rw [hba.cell (p := ⟨w.heap.size, 0, none⟩) (by simp)]; simp
  have c1 : wa.cell? ⟨w.heap.size, 1, none⟩ = some (.int .i64 cores) := by rw [hba.cell (p := ⟨w.heap.size, 1, none⟩) (by simp)]; simp
  have c2 : wa.cell? ⟨w.heap.size, 2, none⟩ = some (.int .i64 sets) := by rw [hba.cell (p := ⟨w.heap.size, 2, none⟩) (by simp)]; simp
  have c3 : wa.cell? ⟨w.heap.size, 3, none⟩ = some (.int .i64 ways) := by rw [hba.cell (p := ⟨w.heap.size, 3, none⟩) (by simp)]; simp
  have hbw : Below w.heap.size w wa := ((Below.refl _ w).alloc (Nat.le_refl _) _).trans (hba.mono (by simp))
  have Hbw := Lib.hid hbw; clear hbw hba
  go_wp2_with fail
  clear c0 c1 c2 c3
  refine (HN.out wa).mono ?_
  rintro e wb ⟨rfl, hb⟩
  have Hb := Lib.hid (Hbw.out.trans (hb.mono Hbw.out.size)); clear hb
  go_wp2
  go_ret
  exact ⟨rfl, Hb.out⟩

set_option maxRecDepth 100000 in
set_option maxHeartbeats 2000000 in
theorem marks_long (lines cores : Int) (sets ways : Nat) (al : Option Addr) (ll cl : Nat) (w : World) (h2 : 0 < cores) (h3 : cores ≤ 4) (h4 : 2 ≤ lines) (h5 : lines ≤ 64) (s1 : 1 ≤ sets) (s8 : sets ≤ 8) (w1 : 1 ≤ ways) (w4 : ways ≤ 4) (hl : 400 < ll) :
    Calls Try.prog 5 #[.agg #[.int .i64 lines, .int .i64 cores, .int .i64 sets, .int .i64 ways], .slice al ll cl] w fun e w' => e = .returned (.bool true) ∧ Below w.heap.size w w' := by
  have HN := Lib.hid (fun W => nnew_ok 0 lines cores sets ways W (by omega) h2 h3 h4 h5 s1 s8 w1 w4)
  clear h2 h3 h4 h5 s1 s8 w1 w4
  go_enter Try.func5, Try.ntmps5
  go_wp2_with fail
  refine (nalive_ok _).mono ?_
  rintro e wa ⟨rfl, hba⟩
  have c0 : wa.cell? ⟨w.heap.size, 0, none⟩ = some (.int .i64 lines) := by rw [hba.cell (p := ⟨w.heap.size, 0, none⟩) (by simp)]; simp
  have c1 : wa.cell? ⟨w.heap.size, 1, none⟩ = some (.int .i64 cores) := by rw [hba.cell (p := ⟨w.heap.size, 1, none⟩) (by simp)]; simp
  have c2 : wa.cell? ⟨w.heap.size, 2, none⟩ = some (.int .i64 sets) := by rw [hba.cell (p := ⟨w.heap.size, 2, none⟩) (by simp)]; simp
  have c3 : wa.cell? ⟨w.heap.size, 3, none⟩ = some (.int .i64 ways) := by rw [hba.cell (p := ⟨w.heap.size, 3, none⟩) (by simp)]; simp
  have hbw : Below w.heap.size w wa := ((Below.refl _ w).alloc (Nat.le_refl _) _).trans (hba.mono (by simp))
  have Hbw := Lib.hid hbw; clear hbw hba
  go_wp2_with fail
  clear c0 c1 c2 c3
  refine (HN.out wa).mono ?_
  rintro e wb ⟨a, p, S, bs, rfl, -, hs⟩
  have Hb := Lib.hid (Hbw.out.trans (hs.below.mono Hbw.out.size)); clear hs
  go_wp2
  go_ret
  exact ⟨rfl, Hb.out⟩

set_option maxRecDepth 100000 in
set_option maxHeartbeats 2000000 in
theorem marks_nil (lines cores : Int) (sets ways : Nat) (al : Option Addr) (cl : Nat) (w : World) (h2 : 0 < cores) (h3 : cores ≤ 4) (h4 : 2 ≤ lines) (h5 : lines ≤ 64) (s1 : 1 ≤ sets) (s8 : sets ≤ 8) (w1 : 1 ≤ ways) (w4 : ways ≤ 4)  :
    Calls Try.prog 5 #[.agg #[.int .i64 lines, .int .i64 cores, .int .i64 sets, .int .i64 ways], .slice al 0 cl] w fun e w' => e = .returned (.bool true) ∧ Below w.heap.size w w' := by
  have HN := Lib.hid (fun W => nnew_ok 0 lines cores sets ways W (by omega) h2 h3 h4 h5 s1 s8 w1 w4)
  clear h2 h3 h4 h5 s1 s8 w1 w4
  go_enter Try.func5, Try.ntmps5
  go_wp2_with fail
  refine (nalive_ok _).mono ?_
  rintro e wa ⟨rfl, hba⟩
  have c0 : wa.cell? ⟨w.heap.size, 0, none⟩ = some (.int .i64 lines) := by rw [hba.cell (p := ⟨w.heap.size, 0, none⟩) (by simp)]; simp
  have c1 : wa.cell? ⟨w.heap.size, 1, none⟩ = some (.int .i64 cores) := by rw [hba.cell (p := ⟨w.heap.size, 1, none⟩) (by simp)]; simp
  have c2 : wa.cell? ⟨w.heap.size, 2, none⟩ = some (.int .i64 sets) := by rw [hba.cell (p := ⟨w.heap.size, 2, none⟩) (by simp)]; simp
  have c3 : wa.cell? ⟨w.heap.size, 3, none⟩ = some (.int .i64 ways) := by rw [hba.cell (p := ⟨w.heap.size, 3, none⟩) (by simp)]; simp
  have hbw : Below w.heap.size w wa := ((Below.refl _ w).alloc (Nat.le_refl _) _).trans (hba.mono (by simp))
  have Hbw := Lib.hid hbw; clear hbw hba
  go_wp2_with fail
  clear c0 c1 c2 c3
  refine (HN.out wa).mono ?_
  rintro e wb ⟨a, p, S, bs, rfl, -, hs⟩
  have Hb := Lib.hid (Hbw.out.trans (hs.below.mono Hbw.out.size)); clear hs
  go_wp2
  refine wp_loop_rounds 1 ?_
  rw [rounds_succ]
  go_wp2
  go_ret
  exact ⟨rfl, Hb.out⟩

theorem marks_any (lines cores sets ways : Int) (al : Option Addr) (ll cl : Nat) (w : World) (hx : Came w al ll stepKinds) :
    Calls Try.prog 5 #[.agg #[.int .i64 lines, .int .i64 cores, .int .i64 sets, .int .i64 ways], .slice al ll cl] w fun e w' => e = .returned (.bool true) ∧ Below w.heap.size w w' := by
  by_cases hb : SetupBad lines cores sets ways
  · exact marks_bad lines cores sets ways al ll cl w hb
  · unfold SetupBad at hb
    obtain ⟨sets, rfl⟩ := Int.eq_ofNat_of_zero_le (show 0 ≤ sets by omega)
    obtain ⟨ways, rfl⟩ := Int.eq_ofNat_of_zero_le (show 0 ≤ ways by omega)
    by_cases hl : 400 < ll
    · exact marks_long lines cores sets ways al ll cl w (by omega) (by omega) (by omega) (by omega) (by omega) (by omega) (by omega) (by omega) hl
    · by_cases h0 : ll = 0
      · subst h0
        exact marks_nil lines cores sets ways al cl w (by omega) (by omega) (by omega) (by omega) (by omega) (by omega) (by omega) (by omega)
      · obtain ⟨q, c, rfl, hq⟩ := hx.addr h0 (by simp [stepKinds])
        obtain ⟨xs, rfl, h1, h2⟩ := steps_in hx hq
        exact marks_ok lines cores sets ways xs q c cl w (by omega) (by omega) (by omega) (by omega) (by omega) (by omega) (by omega) (by omega) (by omega) h1 h2

end Go.Proofs.Ytddajnpichchfaa
