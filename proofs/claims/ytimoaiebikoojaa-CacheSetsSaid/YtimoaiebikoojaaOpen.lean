/- Steps and pairs that came in, as lists. Conditions: those stated in each theorem. -/
import Derived.Test.YtimoaiebikoojaaBack
import Derived.Test.YtimoaiebikoojaaDat
namespace Go.Proofs.Ytimoaiebikoojaa
open Go.ChangeShapes Go.WideShapes Go.ChangeAt Go.RowKit

def stepKinds : List CK := [⟨0, .i64⟩, ⟨0, .i64⟩, ⟨0, .i64⟩, ⟨1, .i8⟩, ⟨0, .u64⟩, ⟨0, .u64⟩, ⟨0, .u64⟩, ⟨0, .u64⟩, ⟨0, .u64⟩, ⟨0, .u64⟩, ⟨0, .u64⟩, ⟨0, .u64⟩, ⟨0, .u64⟩]
def pairKinds : List CK := [⟨0, .i64⟩, ⟨0, .u64⟩]
/-- Cells that came in, as open_plain tells them. -/
def Came (w : World) (a : Option Addr) (len : Nat) (ks : List CK) : Prop := ∀ i, i < len → ∀ j c, ks[j]? = some c → ∃ b, a = some b ∧ ∃ v, w.cell? (b.add (i * ks.length + j)) = some v ∧ c.fits v

theorem Came.addr {w : World} {a : Option Addr} {len : Nat} {ks : List CK} (h : Came w a len ks) (h0 : len ≠ 0) (hk : ks ≠ []) : ∃ q c, a = some ⟨q, c, none⟩ ∧ q < w.heap.size := by
  obtain ⟨k, hk⟩ : ∃ k, ks[0]? = some k := ⟨ks[0]'(by cases ks with | nil => exact absurd rfl hk | cons _ _ => simp), List.getElem?_eq_getElem _⟩
  obtain ⟨⟨q, c, s⟩, rfl, v, hv, _⟩ := h 0 (by omega) 0 k hk
  have hs : s = none := spot_of_cell (a := ⟨q, c, s⟩) (by simpa [Addr.add] using hv)
  subst hs
  exact ⟨q, c, rfl, World.block_lt_of_cell? _ _ (spot_of_add hv)⟩
theorem came_cell {w : World} {q c n : Nat} {v : Value} (h : w.cell? ((⟨q, c, none⟩ : Addr).add n) = some v) : w.cell? ⟨q, c + n, none⟩ = some v := spot_of_add h

theorem step_in {w : World} {q c len : Nat} (h : Came w (some ⟨q, c, none⟩) len stepKinds) {i : Nat} (hi : i < len) : ∃ x : StepV, w.rangeAt q (c + i * 13) x.cells ∧ x.n ≤ 9223372036854775807 := by
  obtain ⟨_, e0, _, c0, n0, rfl, g0⟩ := h i hi 0 _ rfl
  cases e0
  obtain ⟨_, e1, _, c1, n1, rfl, g1⟩ := h i hi 1 _ rfl
  cases e1
  obtain ⟨_, e2, _, c2, n2, rfl, g2⟩ := h i hi 2 _ rfl
  cases e2
  obtain ⟨_, e3, _, c3, n3, rfl⟩ := h i hi 3 _ rfl
  cases e3
  obtain ⟨_, e4, _, c4, n4, rfl, g4⟩ := h i hi 4 _ rfl
  cases e4
  obtain ⟨_, e5, _, c5, n5, rfl, g5⟩ := h i hi 5 _ rfl
  cases e5
  obtain ⟨_, e6, _, c6, n6, rfl, g6⟩ := h i hi 6 _ rfl
  cases e6
  obtain ⟨_, e7, _, c7, n7, rfl, g7⟩ := h i hi 7 _ rfl
  cases e7
  obtain ⟨_, e8, _, c8, n8, rfl, g8⟩ := h i hi 8 _ rfl
  cases e8
  obtain ⟨_, e9, _, c9, n9, rfl, g9⟩ := h i hi 9 _ rfl
  cases e9
  obtain ⟨_, e10, _, c10, n10, rfl, g10⟩ := h i hi 10 _ rfl
  cases e10
  obtain ⟨_, e11, _, c11, n11, rfl, g11⟩ := h i hi 11 _ rfl
  cases e11
  obtain ⟨_, e12, _, c12, n12, rfl, g12⟩ := h i hi 12 _ rfl
  cases e12
  refine ⟨⟨n0, n1, n2, n3, n4, ⟨n5, n6, n7, n8, n9, n10, n11, n12⟩⟩, fun j v hv => ?_, (i64_le g1).2⟩
  have hj : j < 13 := (List.getElem?_eq_some_iff.1 hv).1
  rw [Nat.add_assoc]
  match j, hj with
  | 0, _ => cases hv; exact came_cell c0
  | 1, _ => cases hv; exact came_cell c1
  | 2, _ => cases hv; exact came_cell c2
  | 3, _ => cases hv; exact came_cell c3
  | 4, _ => cases hv; exact came_cell c4
  | 5, _ => cases hv; exact came_cell c5
  | 6, _ => cases hv; exact came_cell c6
  | 7, _ => cases hv; exact came_cell c7
  | 8, _ => cases hv; exact came_cell c8
  | 9, _ => cases hv; exact came_cell c9
  | 10, _ => cases hv; exact came_cell c10
  | 11, _ => cases hv; exact came_cell c11
  | 12, _ => cases hv; exact came_cell c12
theorem steps_in {w : World} {a : Option Addr} {len : Nat} (h : Came w a len stepKinds) : ∃ xs : List StepV, xs.length = len ∧ StepsIn w a xs ∧ ∀ x ∈ xs, x.n ≤ 9223372036854775807 := by
  by_cases h0 : len = 0
  · exact ⟨[], by simp [h0], .inl rfl, fun _ h => by cases h⟩
  · obtain ⟨q, c, rfl, hq⟩ := h.addr h0 (by simp [stepKinds])
    have g : ∀ i, ∃ x : StepV, i < len → w.rangeAt q (c + i * 13) x.cells ∧ x.n ≤ 9223372036854775807 := fun i => by
      by_cases hi : i < len
      · obtain ⟨x, hx⟩ := step_in h hi; exact ⟨x, fun _ => hx⟩
      · exact ⟨StepV.zero, fun h => absurd h hi⟩
    refine ⟨(List.range len).map fun i => (g i).choose, by simp, .inr ⟨q, c, rfl, hq, fun k x hx => ?_⟩, fun x hx => ?_⟩
    · rw [List.getElem?_map, Option.map_eq_some_iff] at hx
      obtain ⟨i, hi, rfl⟩ := hx
      obtain ⟨hlt, rfl⟩ := List.getElem?_eq_some_iff.1 hi
      rw [List.length_range] at hlt
      rw [List.getElem_range]
      exact ((g k).choose_spec hlt).1
    · rw [List.mem_map] at hx
      obtain ⟨i, hi, rfl⟩ := hx
      exact ((g i).choose_spec (List.mem_range.1 hi)).2
theorem pairs_in {w : World} {a : Option Addr} {len : Nat} (h : Came w a len pairKinds) : ∃ ys : List (Int × Int), ys.length = len ∧ PairsIn w a ys ∧ ∀ y ∈ ys, y.1 ≤ 9223372036854775807 := by
  by_cases h0 : len = 0
  · exact ⟨[], by simp [h0], (fun k y hy => by simp at hy), fun _ h => by cases h⟩
  · obtain ⟨q, c, rfl, hq⟩ := h.addr h0 (by simp [pairKinds])
    have g : ∀ i, ∃ y : Int × Int, i < len → (w.cell? ⟨q, c + i * 2, none⟩ = some (.int .i64 y.1) ∧ w.cell? ⟨q, c + i * 2 + 1, none⟩ = some (.int .u64 y.2)) ∧ y.1 ≤ 9223372036854775807 := fun i => by
      by_cases hi : i < len
      · obtain ⟨_, e0, _, c0, n0, rfl, g0⟩ := h i hi 0 _ rfl
        obtain ⟨_, e1, _, c1, n1, rfl, g1⟩ := h i hi 1 _ rfl
        cases e0; cases e1
        exact ⟨(n0, n1), fun _ => ⟨⟨came_cell c0, by rw [Nat.add_assoc]; exact came_cell c1⟩, (i64_le g0).2⟩⟩
      · exact ⟨(0, 0), fun h => absurd h hi⟩
    refine ⟨(List.range len).map fun i => (g i).choose, by simp, (fun k y hy => ?_), fun x hx => ?_⟩
    · rw [List.getElem?_map, Option.map_eq_some_iff] at hy
      obtain ⟨i, hi, rfl⟩ := hy
      obtain ⟨hlt, rfl⟩ := List.getElem?_eq_some_iff.1 hi
      rw [List.length_range] at hlt
      rw [List.getElem_range]
      exact ⟨q, c, rfl, hq, ((g k).choose_spec hlt).1.1, ((g k).choose_spec hlt).1.2⟩
    · rw [List.mem_map] at hx
      obtain ⟨i, hi, rfl⟩ := hx
      exact ((g i).choose_spec (List.mem_range.1 hi)).2

set_option maxRecDepth 100000 in
set_option maxHeartbeats 1000000 in
theorem back_bad (n ways : Int) (al ap : Option Addr) (ll lp cl cp : Nat) (w : World) (h : n < 1 ∨ 8 < n ∨ ways < 1 ∨ 4 < ways) :
    Calls Try.prog 6 #[.agg #[.int .i64 n, .int .i64 ways], .slice al ll cl, .slice ap lp cp] w fun e w' => e = .returned (.bool true) ∧ Below w.heap.size w w' := by
  go_enter Try.func6, Try.ntmps6
  go_wp2_with fail
  refine (alive_ok _).mono ?_
  rintro e wa ⟨rfl, hba⟩
  have c0 : wa.cell? ⟨w.heap.size, 0, none⟩ = some (.int .i64 n) := by
    rw [hba.cell (p := ⟨w.heap.size, 0, none⟩) (by simp)]; simp
  have c1 : wa.cell? ⟨w.heap.size, 1, none⟩ = some (.int .i64 ways) := by
    rw [hba.cell (p := ⟨w.heap.size, 1, none⟩) (by simp)]; simp
  have hbw : Below w.heap.size w wa := ((Below.refl _ w).alloc (Nat.le_refl _) _).trans (hba.mono (by simp))
  have Hbw := Lib.hid hbw; clear hbw hba
  go_wp2_with fail
  clear c0 c1
  refine (new_bad n ways wa h).mono ?_
  rintro e w' ⟨rfl, rfl⟩
  go_wp2
  go_ret
  exact ⟨rfl, Hbw.out⟩

set_option maxRecDepth 100000 in
set_option maxHeartbeats 1000000 in
theorem back_long (n ways : Nat) (al ap : Option Addr) (ll lp cl cp : Nat) (w : World) (h1 : 1 ≤ n) (h8 : n ≤ 8) (hw1 : 1 ≤ ways) (hw4 : ways ≤ 4) (hl : 400 < ll ∨ 400 < lp) :
    Calls Try.prog 6 #[.agg #[.int .i64 n, .int .i64 ways], .slice al ll cl, .slice ap lp cp] w fun e w' => e = .returned (.bool true) ∧ Below w.heap.size w w' := by
  have HL : Hid (400 < ll ∨ 400 < lp) := Lib.hid hl
  clear hl
  go_enter Try.func6, Try.ntmps6
  go_wp2_with fail
  refine (alive_ok _).mono ?_
  rintro e wa ⟨rfl, hba⟩
  have c0 : wa.cell? ⟨w.heap.size, 0, none⟩ = some (.int .i64 n) := by
    rw [hba.cell (p := ⟨w.heap.size, 0, none⟩) (by simp)]; simp
  have c1 : wa.cell? ⟨w.heap.size, 1, none⟩ = some (.int .i64 ways) := by
    rw [hba.cell (p := ⟨w.heap.size, 1, none⟩) (by simp)]; simp
  have hbw : Below w.heap.size w wa := ((Below.refl _ w).alloc (Nat.le_refl _) _).trans (hba.mono (by simp))
  have Hbw := Lib.hid hbw; clear hbw hba
  go_wp2_with fail
  clear c0 c1
  refine (new_ok n ways wa h1 h8 hw1 hw4).mono ?_
  rintro e w1 ⟨p, S, bs, rfl, -, -, hb0, -, -, -⟩
  have Hb := Lib.hid (Hbw.out.trans (hb0.mono Hbw.out.size)); clear hb0
  by_cases ha : 400 < ll
  · clear HL
    go_wp2
    go_ret
    exact ⟨rfl, Hb.out⟩
  · have hb : 400 < lp := HL.out.resolve_left ha
    clear HL
    go_wp2
    go_ret
    exact ⟨rfl, Hb.out⟩

theorem back_any (n ways : Int) (al ap : Option Addr) (ll lp cl cp : Nat) (w : World) (hx : Came w al ll stepKinds) (hy : Came w ap lp pairKinds) :
    Calls Try.prog 6 #[.agg #[.int .i64 n, .int .i64 ways], .slice al ll cl, .slice ap lp cp] w fun e w' => e = .returned (.bool true) ∧ Below w.heap.size w w' := by
  by_cases hb : n < 1 ∨ 8 < n ∨ ways < 1 ∨ 4 < ways
  · exact back_bad n ways al ap ll lp cl cp w hb
  · obtain ⟨n, rfl⟩ := Int.eq_ofNat_of_zero_le (show 0 ≤ n by omega)
    obtain ⟨ways, rfl⟩ := Int.eq_ofNat_of_zero_le (show 0 ≤ ways by omega)
    by_cases hl : 400 < ll ∨ 400 < lp
    · exact back_long n ways al ap ll lp cl cp w (by omega) (by omega) (by omega) (by omega) hl
    · obtain ⟨xs, rfl, h1, h2⟩ := steps_in hx
      obtain ⟨ys, rfl, h3, h4⟩ := pairs_in hy
      exact back_ok n ways xs ys al ap cl cp w (by omega) (by omega) (by omega) (by omega) (by omega) (by omega) h1 h3 h2 h4

end Go.Proofs.Ytimoaiebikoojaa
