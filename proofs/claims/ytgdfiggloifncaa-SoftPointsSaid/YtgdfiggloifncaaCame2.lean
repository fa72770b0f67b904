/- Rows of things that lead to memory (slices of structs that hold slices), that came in, as lists. Conditions: those stated in each theorem. -/
import Derived.Test.YtgdfiggloifncaaCame
import Derived.Deep.Slices
namespace Go.Proofs.Ytgdfiggloifncaa
open Go.ChangeShapes Go.WideShapes Go.ChangeAt Go.RowKit Go.Deep

theorem add_mk (q c : Nat) (n : Nat) : (⟨q, c, none⟩ : Addr).add n = ⟨q, c + n, none⟩ := by unfold Addr.add; split <;> simp_all

/-- A slice that came in, as a list: mk makes an element of what is read of its cells. -/
theorem rows_deep {H : Type} {enc : TypeId × Value → H} {P : Program} {w : World} {base : Nat} {spare : Nat → Bool} {held : Bool} {α : Type} {cells : α → List Value} {Pp : α → Prop} {t e : TypeId} {fuel N : Nat} {a : Option Addr} {len cap : Nat} {z : DataW H × List MemPlace}
    (ht : P.underlying t = some (.slice e)) (hsz : P.cellsOf e = N) (hN : 0 < N) (mk : ∀ n cs y, DataW.trod enc P w base spare held n e cs = some y → cs.length = N → ∃ x : α, cells x = cs ∧ Pp x)
    (h : DataW.trod enc P w base spare held fuel t [.slice a len cap] = some z) : len ≤ maxLen ∧ ∃ xs : List α, xs.length = len ∧ RowsIn w a N cells xs ∧ ∀ x ∈ xs, Pp x := by
  rcases open_slice ht h with ⟨h0, _⟩ | ⟨b, l, c, m, n, D, Pl, hcs, _, hl, hm, hmm, _, hi⟩
  · simp only [List.cons.injEq, Value.slice.injEq, and_true] at h0
    obtain ⟨rfl, rfl, rfl⟩ := h0
    exact ⟨by unfold maxLen; omega, [], rfl, .inl rfl, fun _ h => by cases h⟩
  · simp only [List.cons.injEq, Value.slice.injEq, and_true] at hcs
    obtain ⟨rfl, rfl, rfl⟩ := hcs
    refine ⟨Nat.le_trans hl hm, ?_⟩
    by_cases h0 : len = 0
    · exact ⟨[], by simp [h0], .inl rfl, fun _ h => by cases h⟩
    have g0 : ∀ i, i < len → ∃ x : α, Pp x ∧ ∀ j v, (cells x)[j]? = some v → w.cell? ((b.add (i * N)).add j) = some v := fun i hil => by
      obtain ⟨cs', h1, h2⟩ := hi i (by rw [hmm]; split <;> omega)
      rw [hsz] at h1
      obtain ⟨_, h3, h4⟩ := World.cells?_some h1
      obtain ⟨x, hx, hp⟩ := mk _ _ _ h2 h3
      exact ⟨x, hp, fun j v hv => by
        rw [hx] at hv
        have hj : j < N := by have := (List.getElem?_eq_some_iff.1 hv).1; omega
        exact (h4 j hj).trans hv⟩
    have hb : b.spot = none := by
      obtain ⟨cs', h1, h2⟩ := hi 0 (by rw [hmm]; split <;> omega)
      rw [hsz] at h1
      obtain ⟨_, h3, h4⟩ := World.cells?_some h1
      have h5 := h4 0 hN
      rw [List.getElem?_eq_getElem (by omega)] at h5
      refine spot_of_cell (w := w) (a := b) (v := cs'[0]) ?_
      simpa [Addr.add] using h5
    obtain ⟨q, c0, s⟩ := b
    simp only at hb
    subst hb
    have g1 : ∀ i, i < len → ∃ x : α, Pp x ∧ w.rangeAt q (c0 + i * N) (cells x) := fun i hil => by
      obtain ⟨x, hp, hx⟩ := g0 i hil
      exact ⟨x, hp, fun j v hv => by have := hx j v hv; rwa [add_mk, add_mk] at this⟩
    have hq : q < w.heap.size := by
      obtain ⟨cs', h1, h2⟩ := hi 0 (by rw [hmm]; split <;> omega)
      rw [hsz] at h1
      obtain ⟨_, h3, h4⟩ := World.cells?_some h1
      have h5 := h4 0 hN
      rw [List.getElem?_eq_getElem (by omega)] at h5
      exact World.block_lt_of_cell? w ⟨q, c0, none⟩ (u := cs'[0]) (by simpa [Addr.add] using h5)
    have d : ∃ x : α, True := by obtain ⟨x, _⟩ := g1 0 (by omega); exact ⟨x, trivial⟩
    have g : ∀ i, ∃ x : α, i < len → Pp x ∧ w.rangeAt q (c0 + i * N) (cells x) := fun i => by
      by_cases hil : i < len
      · obtain ⟨x, hx⟩ := g1 i hil
        exact ⟨x, fun _ => hx⟩
      · exact ⟨d.choose, fun h => absurd h hil⟩
    refine ⟨(List.range len).map fun i => (g i).choose, by simp, .inr ⟨q, c0, rfl, hq, fun k x hx => ?_⟩, fun x hx => ?_⟩
    · rw [List.getElem?_map, Option.map_eq_some_iff] at hx
      obtain ⟨i, hi, rfl⟩ := hx
      obtain ⟨hlt, rfl⟩ := List.getElem?_eq_some_iff.1 hi
      rw [List.length_range] at hlt
      rw [List.getElem_range]
      exact ((g k).choose_spec hlt).2
    · rw [List.mem_map] at hx
      obtain ⟨i, hi, rfl⟩ := hx
      exact ((g i).choose_spec (List.mem_range.1 hi)).1

end Go.Proofs.Ytgdfiggloifncaa
