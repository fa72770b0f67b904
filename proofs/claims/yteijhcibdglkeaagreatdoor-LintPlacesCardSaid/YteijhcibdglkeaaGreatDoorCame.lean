/- Rows of plain things that came in, as lists. Conditions: those stated in each theorem. -/
import Derived.Test.YteijhcibdglkeaaGreatDoorDat
import Derived.Test.YteijhcibdglkeaaGreatDoorB0
namespace Go.Proofs.YteijhcibdglkeaaGreatDoor
open Go.ChangeShapes Go.WideShapes Go.ChangeAt Go.RowKit

/-- Cells that came in, as open_plain tells them. -/
def Came (w : World) (a : Option Addr) (len : Nat) (ks : List CK) : Prop := ∀ i, i < len → ∀ j c, ks[j]? = some c → ∃ b, a = some b ∧ ∃ v, w.cell? (b.add (i * ks.length + j)) = some v ∧ c.fits v

theorem Came.addr {w : World} {a : Option Addr} {len : Nat} {ks : List CK} (h : Came w a len ks) (h0 : len ≠ 0) (hk : ks ≠ []) : ∃ q c, a = some ⟨q, c, none⟩ ∧ q < w.heap.size := by
  obtain ⟨k, hk⟩ : ∃ k, ks[0]? = some k := ⟨ks[0]'(by cases ks with | nil => exact absurd rfl hk | cons _ _ => simp), List.getElem?_eq_getElem _⟩
  obtain ⟨⟨q, c, s⟩, rfl, v, hv, _⟩ := h 0 (by omega) 0 k hk
  have hs : s = none := spot_of_cell (a := ⟨q, c, s⟩) (by simpa [Addr.add] using hv)
  subst hs
  exact ⟨q, c, rfl, World.block_lt_of_cell? _ _ (spot_of_add hv)⟩

/-- Rows of n cells each. -/
def RowsIn {α : Type} (w : World) (a : Option Addr) (n : Nat) (cells : α → List Value) (xs : List α) : Prop :=
  xs = [] ∨ ∃ q c, a = some ⟨q, c, none⟩ ∧ q < w.heap.size ∧ ∀ k x, xs[k]? = some x → w.rangeAt q (c + k * n) (cells x)

theorem RowsIn.below {α : Type} {w w' : World} {a : Option Addr} {n : Nat} {cells : α → List Value} {xs : List α} (h : RowsIn w a n cells xs) (hb : Below w.heap.size w w') : RowsIn w' a n cells xs := by
  rcases h with h | ⟨q, c, rfl, hq, h⟩
  · exact .inl h
  · exact .inr ⟨q, c, rfl, Nat.lt_of_lt_of_le hq hb.size, fun k x hx i v hi => by
      rw [World.cell?_of_block (a := ⟨q, c + k * n + i, none⟩) (hb.block q hq)]
      exact h k x hx i v hi⟩
/-- At the row k. -/
theorem RowsIn.row {α : Type} {w : World} {a : Option Addr} {n : Nat} {cells : α → List Value} {xs : List α} (h : RowsIn w a n cells xs) {k : Nat} {x : α} (hx : xs[k]? = some x) : ∃ q c, a = some ⟨q, c, none⟩ ∧ q < w.heap.size ∧ w.rangeAt q (c + k * n) (cells x) := by
  rcases h with rfl | ⟨q, c, rfl, hq, h⟩
  · simp at hx
  · exact ⟨q, c, rfl, hq, h k x hx⟩

theorem came_row {w : World} {q c len : Nat} {ks : List CK} (h : Came w (some ⟨q, c, none⟩) len ks) {i : Nat} (hi : i < len) : ∃ vs : List Value, Fit ks vs ∧ w.rangeAt q (c + i * ks.length) vs := by
  have g : ∀ j, ∃ v : Value, ∀ k, ks[j]? = some k → w.cell? ⟨q, c + i * ks.length + j, none⟩ = some v ∧ k.fits v := fun j => by
    cases hk : ks[j]? with
    | none => exact ⟨.bool false, fun _ h => by cases h⟩
    | some k =>
      obtain ⟨b, e, v, hv, hf⟩ := h i hi j k hk
      cases e
      exact ⟨v, fun k' e => by cases e; exact ⟨by rw [Nat.add_assoc]; exact spot_of_add hv, hf⟩⟩
  refine ⟨(List.range ks.length).map fun j => (g j).choose, ⟨by simp, fun j k v hk hv => ?_⟩, fun j v hv => ?_⟩
  · rw [List.getElem?_map, Option.map_eq_some_iff] at hv
    obtain ⟨j', hj, rfl⟩ := hv
    obtain ⟨hlt, rfl⟩ := List.getElem?_eq_some_iff.1 hj
    rw [List.getElem_range]
    exact ((g j).choose_spec k hk).2
  · rw [List.getElem?_map, Option.map_eq_some_iff] at hv
    obtain ⟨j', hj, rfl⟩ := hv
    obtain ⟨hlt, rfl⟩ := List.getElem?_eq_some_iff.1 hj
    rw [List.length_range] at hlt
    rw [List.getElem_range]
    exact ((g j).choose_spec _ (List.getElem?_eq_getElem hlt)).1

/-- A slice that came in, as a list: mk makes an element of its cells. -/
theorem rows_in {α : Type} {w : World} {a : Option Addr} {len : Nat} {ks : List CK} {cells : α → List Value} {Pr : α → Prop} (h : Came w a len ks) (hk : ks ≠ []) (mk : ∀ vs, Fit ks vs → ∃ x, cells x = vs ∧ Pr x) :
    ∃ xs : List α, xs.length = len ∧ RowsIn w a ks.length cells xs ∧ ∀ x ∈ xs, Pr x := by
  by_cases h0 : len = 0
  · exact ⟨[], by simp [h0], .inl rfl, fun _ h => by cases h⟩
  · obtain ⟨q, c, rfl, hq⟩ := h.addr h0 hk
    have d : ∃ x : α, True := by
      obtain ⟨vs, hf, _⟩ := came_row h (i := 0) (by omega)
      obtain ⟨x, _⟩ := mk vs hf
      exact ⟨x, trivial⟩
    have g : ∀ i, ∃ x : α, i < len → w.rangeAt q (c + i * ks.length) (cells x) ∧ Pr x := fun i => by
      by_cases hi : i < len
      · obtain ⟨vs, hf, hr⟩ := came_row h hi
        obtain ⟨x, hx, hp⟩ := mk vs hf
        exact ⟨x, fun _ => ⟨by rw [hx]; exact hr, hp⟩⟩
      · exact ⟨d.choose, fun h => absurd h hi⟩
    refine ⟨(List.range len).map fun i => (g i).choose, by simp, .inr ⟨q, c, rfl, hq, fun k x hx => ?_⟩, fun x hx => ?_⟩
    · rw [List.getElem?_map, Option.map_eq_some_iff] at hx
      obtain ⟨i, hi, rfl⟩ := hx
      obtain ⟨hlt, rfl⟩ := List.getElem?_eq_some_iff.1 hi
      rw [List.length_range] at hlt
      rw [List.getElem_range]
      exact ((g k).choose_spec hlt).1
    · rw [List.mem_map] at hx
      obtain ⟨i, hi, rfl⟩ := hx
      exact ((g i).choose_spec (List.mem_range.1 hi)).2

end Go.Proofs.YteijhcibdglkeaaGreatDoor
