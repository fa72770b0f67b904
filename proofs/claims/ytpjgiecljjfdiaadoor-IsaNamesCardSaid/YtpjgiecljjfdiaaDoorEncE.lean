/- Encode beside the document's own: the law's walk. Conditions: the list that came in. -/
import Derived.Test.YtpjgiecljjfdiaaDoorEncB
import Derived.Laws.AppendOwnNone
namespace Go.Proofs.YtpjgiecljjfdiaaDoor
open Go.RowKit Go.BigFrame

theorem info27 : ∃ (i : TypeInfo) (z : Value), Tryd.prog.info? 23 = some i ∧ i.zero = some z ∧ i.size = 5 ∧ i.bytes = 40 ∧ z.cells.size = 5 := info_parts _ 5 40 (by kernel_rfl)
/-- Cells of a list. -/
def flatI (l : List In) : List Value := l.flatMap In.cells
theorem flatI_len : ∀ (l : List In), (flatI l).length = l.length * 5
  | [] => rfl
  | x :: r => by
    have := flatI_len r
    unfold flatI at this ⊢
    rw [List.flatMap_cons, List.length_append, this, List.length_cons]
    simp [In.cells]; omega
theorem flatI_at : ∀ (l : List In) (k : Nat) (x : In), l[k]? = some x → ∀ (j : Nat) (v : Value), x.cells[j]? = some v → (flatI l)[k * 5 + j]? = some v
  | [], k, x, h, _, _, _ => by simp at h
  | y :: r, 0, x, h, j, v, hj => by
    simp at h; subst h
    have hlt : j < y.cells.length := (List.getElem?_eq_some_iff.1 hj).1
    unfold flatI
    rw [List.flatMap_cons, Nat.zero_mul, Nat.zero_add, List.getElem?_append_left hlt]; exact hj
  | y :: r, k + 1, x, h, j, v, hj => by
    have := flatI_at r k x (by simpa using h) j v hj
    unfold flatI at this ⊢
    rw [List.flatMap_cons, List.getElem?_append_right (by simp [In.cells]; omega)]
    rw [← this]; congr 1; simp [In.cells]; omega
/-- The first ones of an own row, as a list. -/
theorem rows_own {w : World} {lo g n cap : Nat} {l : List In} {more : List Value} (h : w.ownsRow lo 23 5 (.slice (some ⟨g, 0, none⟩) n cap) n (flatI l ++ more)) : RowsIn w (some ⟨g, 0, none⟩) 5 In.cells l := by
  refine .inr ⟨g, 0, rfl, (owns_lt h rfl).2, fun k x hx j v hj => ?_⟩
  rw [Nat.zero_add]
  refine (owns_cell h (g := g) rfl ?_).1
  rw [List.getElem?_append_left]
  · exact flatI_at l k x hx j v hj
  · have h1 := (List.getElem?_eq_some_iff.1 (flatI_at l k x hx j v hj)).1
    exact h1
/-- The cells that came in. -/
theorem rows_news {w : World} {a : Option Addr} {l : List In} (h : RowsIn w a 5 In.cells l) (ad : Addr) (ha : a = some ad) : ∀ j u, (flatI l)[j]? = some u → w.cell? (ad.add j) = some u := by
  intro j u hj
  have hlt : j < l.length * 5 := by rw [← flatI_len]; exact (List.getElem?_eq_some_iff.1 hj).1
  have hk : j / 5 < l.length := by omega
  obtain ⟨x, hx⟩ : ∃ x, l[j / 5]? = some x := ⟨l[j / 5], List.getElem?_eq_getElem hk⟩
  obtain ⟨q, c, e, hq, hr⟩ := h.row hx
  rw [ha] at e
  cases e
  have hm : j % 5 < 5 := Nat.mod_lt _ (by omega)
  have hc := In.cell_get x hm
  have h1 := flatI_at l _ x hx _ _ hc
  rw [show j / 5 * 5 + j % 5 = j by omega, hj] at h1
  cases h1
  have := hr _ _ hc
  rw [show c + j / 5 * 5 + j % 5 = c + j by omega] at this
  unfold Addr.add
  split
  · rename_i h0; subst h0; exact this
  · exact this
theorem flatI_one (l : List In) : ∀ u ∈ flatI l, u.oneCell' = true := by
  intro u hu
  unfold flatI at hu
  obtain ⟨x, _, hx⟩ := List.mem_flatMap.1 hu
  simp only [In.cells, List.mem_cons, List.not_mem_nil, or_false] at hx
  rcases hx with rfl | rfl | rfl | rfl | rfl <;> rfl

end Go.Proofs.YtpjgiecljjfdiaaDoor
