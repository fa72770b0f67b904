/- FlowParts: the walk. Conditions: those stated in each theorem. -/
import Derived.Test.YtehnailokgoekaaDoorFlwOs
import Derived.Test.YtehnailokgoekaaDoorFlwG
import Derived.Maps.AppendAt
namespace Go.Proofs.YtehnailokgoekaaDoor
open Go.RowKit Go.BigFrame Go.Shelf

def flatI (l : List In) : List Value := l.flatMap In.cells
theorem flatI_at : ∀ (l : List In) (k : Nat) (x : In), l[k]? = some x → ∀ (j : Nat) (v : Value), x.cells[j]? = some v → (flatI l)[k * 5 + j]? = some v
  | [], _, _, h, _, _, _ => by simp at h
  | y :: r, 0, x, h, j, v, hj => by
    simp at h; subst h
    have : j < y.cells.length := (List.getElem?_eq_some_iff.1 hj).1
    simp only [flatI, List.flatMap_cons, Nat.zero_mul, Nat.zero_add]
    rw [List.getElem?_append_left this]; exact hj
  | y :: r, k + 1, x, h, j, v, hj => by
    have := flatI_at r k x (by simpa using h) j v hj
    have hl : y.cells.length = 5 := by simp [In.cells]
    simp only [flatI, List.flatMap_cons] at this ⊢
    rw [List.getElem?_append_right (by omega), hl, show (k + 1) * 5 + j - 5 = k * 5 + j by omega]
    exact this
theorem flatI_len : ∀ (l : List In), (flatI l).length = l.length * 5
  | [] => rfl
  | x :: r => by
    have := flatI_len r
    unfold flatI at this ⊢
    rw [List.flatMap_cons, List.length_append, this, List.length_cons]
    simp [In.cells]; omega
theorem flatI_one (l : List In) : ∀ u ∈ flatI l, u.oneCell' = true := by
  intro u hu
  unfold flatI at hu
  obtain ⟨x, _, hx⟩ := List.mem_flatMap.1 hu
  simp only [In.cells, List.mem_cons, List.not_mem_nil, or_false] at hx
  rcases hx with rfl | rfl | rfl | rfl | rfl <;> rfl
theorem flatI_news {w : World} {a : Option Addr} {l : List In} (h : RowsIn w a 5 In.cells l) (ad : Addr) (ha : a = some ad) : ∀ j u, (flatI l)[j]? = some u → w.cell? (ad.add j) = some u := by
  intro j u hj
  have hlt : j < l.length * 5 := by rw [← flatI_len]; exact (List.getElem?_eq_some_iff.1 hj).1
  have hk : j / 5 < l.length := by omega
  obtain ⟨x, hx⟩ : ∃ x, l[j / 5]? = some x := ⟨l[j / 5], List.getElem?_eq_getElem hk⟩
  obtain ⟨q, c, e, hq, hr⟩ := h.row hx
  rw [ha] at e
  cases e
  have hm : j % 5 < 5 := Nat.mod_lt _ (by omega)
  obtain ⟨v, hc⟩ : ∃ v, x.cells[j % 5]? = some v := ⟨_, List.getElem?_eq_getElem (by simp [In.cells]; omega)⟩
  have h1 := flatI_at l _ x hx _ _ hc
  rw [show j / 5 * 5 + j % 5 = j by omega, hj] at h1
  cases h1
  have := hr _ _ hc
  rw [show c + j / 5 * 5 + j % 5 = c + j by omega] at this
  unfold Addr.add
  split
  · rename_i h0; subst h0; exact this
  · exact this
theorem flatI_rows {w : World} {lo n cap : Nat} {ad : Option Addr} {l : List In} (h : w.ownsRow lo 53 5 (.slice ad cap n) l.length (flatI l)) : RowsIn w ad 5 In.cells l := by
  rcases owns_form h with ⟨_, h0, _⟩ | ⟨g, cap', e, _⟩
  · exact .inl (List.eq_nil_of_length_eq_zero h0)
  · cases e
    refine .inr ⟨g, 0, rfl, (owns_lt h rfl).2, fun k x hx j v hj => ?_⟩
    rw [Nat.zero_add]
    exact (owns_cell h (g := g) rfl (flatI_at l k x hx j v hj)).1
theorem owns_zeroI (w : World) (t : TypeId) : (w.alloc (.cells #[] t)).ownsRow w.heap.size t 5 (.slice (some ⟨w.heap.size, 0, none⟩) 0 0) 0 [] :=
  ⟨rfl, .inr ⟨w.heap.size, 0, #[], rfl, Nat.le_refl _, new_block w _, Nat.le_refl _, by unfold maxLen; omega, rfl, rfl⟩⟩

/-! ### Which part is asked for -/
def isIn (ps : List Pt) (p : Int) (k : Nat) : Bool := match ps[k]? with | none => false | some x => decide ((x.lo : Int) ≤ p) && decide (p < (x.hi : Int))
def wantK (ps : List Pt) (p : Int) : Nat → Nat
  | 0 => 0
  | k + 1 => if isIn ps p k then k else wantK ps p k
theorem want_none {ps : List Pt} {p : Int} : ∀ k, (∀ j, j < k → isIn ps p j = false) → wantK ps p k = 0
  | 0, _ => rfl
  | k + 1, h => by unfold wantK; rw [h k (by omega)]; exact want_none k (fun j hj => h j (by omega))
theorem want_last {ps : List Pt} {p : Int} {n : Nat} (hn : isIn ps p n = true) (hb : ∀ j, n < j → isIn ps p j = false) : ∀ k, n < k → wantK ps p k = n
  | 0, h => by omega
  | k + 1, h => by
    unfold wantK
    by_cases e : k = n
    · subst e; rw [hn]; rfl
    · rw [hb k (by omega)]; exact want_last hn hb k (by omega)
theorem spans_apart (len : Nat) (l : List Nat) (hs : l.Pairwise (· < ·)) (hl : ∀ x ∈ l, x < len) {i j : Nat} {x y : Nat × Nat} (hx : (spansP len l)[i]? = some x) (hy : (spansP len l)[j]? = some y) (hij : i < j) : x.2 ≤ y.1 := by
  have hj := (List.getElem?_eq_some_iff.1 hy).1
  obtain ⟨z, hz⟩ : ∃ z, (spansP len l)[j - 1]? = some z := ⟨_, List.getElem?_eq_getElem (by omega)⟩
  have h1 := spans_chain len l (j - 1) z y hz (by rw [show j - 1 + 1 = j by omega]; exact hy)
  by_cases e : i = j - 1
  · subst e; rw [hx] at hz; cases hz; omega
  · have hm := spans_mono len l hs hl
    have h2 := List.pairwise_iff_getElem.1 hm i (j - 1) (List.getElem?_eq_some_iff.1 hx).1 (by omega) (by omega)
    rw [(List.getElem?_eq_some_iff.1 hx).2, (List.getElem?_eq_some_iff.1 hz).2] at h2
    omega
theorem want_in {c : List In} {p : Nat} (h : p < c.length) : wantK (partsP c) (p : Int) (partsP c).length = numP c p := by
  obtain ⟨x, hx, h1, h2⟩ := num_part h
  have hn : isIn (partsP c) p (numP c p) = true := by unfold isIn; rw [hx]; simp; omega
  refine want_last hn (fun j hj => ?_) _ (by rw [parts_len]; exact num_lt h)
  unfold isIn
  cases hy : (partsP c)[j]? with
  | none => rfl
  | some y =>
    unfold partsP at hx hy
    rw [List.getElem?_map, Option.map_eq_some_iff] at hx hy
    obtain ⟨x', hx', rfl⟩ := hx
    obtain ⟨y', hy', rfl⟩ := hy
    have := spans_apart c.length (begsP c) (begs_sorted c) (fun _ => begs_lt) hx' hy' hj
    simp only at h2 ⊢
    rw [Bool.and_eq_false_iff]
    left; simp; omega
theorem want_out {c : List In} {p : Int} (h : ¬ (0 ≤ p ∧ p < c.length)) : wantK (partsP c) p (partsP c).length = 0 := by
  refine want_none _ (fun j _ => ?_)
  unfold isIn
  cases hy : (partsP c)[j]? with
  | none => rfl
  | some y =>
    unfold partsP at hy
    rw [List.getElem?_map, Option.map_eq_some_iff] at hy
    obtain ⟨y', hy', rfl⟩ := hy
    have := spans_lt c.length (begsP c) (begs_sorted c) (fun _ => begs_lt) y' (List.mem_of_getElem? hy')
    rw [Bool.and_eq_false_iff]
    simp only [decide_eq_false_iff_not]
    omega

/-! ### The walk: DRAFT -/
set_option maxRecDepth 100000 in
set_option maxHeartbeats 4000000 in
theorem flowparts_long (a : Option Addr) (cap : Nat) (c : List In) (hi : ∀ i ∈ c, I64 i.imm) (p : Int) (w : World) (hF : FormsAt w) (hr : RowsIn w a 5 In.cells c) (h3 : 300 < c.length) :
    Calls Tryd.prog 3 #[.slice a c.length cap, .int .i64 p] w fun e w' => e = .returned (.bool true) ∧ Below w.heap.size w w' := by
  have d1 : decide (300 < (c.length : Int)) = true := decide_eq_true (by omega)
  have d2 : decide (300 < c.length) = true := decide_eq_true (by omega)
  by_cases h2 : 1024 < c.length
  · have d3 : decide (1024 < (c.length : Int)) = true := decide_eq_true (by omega)
    have d4 : decide (1024 < c.length) = true := decide_eq_true (by omega)
    have HP := Lib.hid (parts_long a c.length cap h2 w)
    clear h2 h3 hF hr hi
    go_enter Tryd.func3, Tryd.ntmps3
    go_wp2_with fail
    refine HP.out.mono ?_
    rintro e z ⟨rfl, hz⟩
    have hz := hz.symm
    subst hz
    go_wp2_with fail
    go_ret
    exact ⟨rfl, Below.refl _ _⟩
  · have d3 : decide (1024 < (c.length : Int)) = false := decide_eq_false (by omega)
    have d4 : decide (1024 < c.length) = false := decide_eq_false (by omega)
    have HP := Lib.hid (parts_any a cap c (by omega) hi w hF hr)
    clear h2 h3 hF hr hi
    go_enter Tryd.func3, Tryd.ntmps3
    go_wp2_with fail
    refine HP.out.mono ?_
    rintro e z ⟨v, rfl, -, hb⟩
    go_wp2_with fail
    go_ret
    exact ⟨rfl, hb⟩

end Go.Proofs.YtehnailokgoekaaDoor
