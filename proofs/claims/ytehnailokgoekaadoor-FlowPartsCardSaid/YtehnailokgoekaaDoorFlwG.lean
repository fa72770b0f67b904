/- Parts and At. Conditions: those stated in each theorem. -/
import Derived.Test.YtehnailokgoekaaDoorFlwF
namespace Go.Proofs.YtehnailokgoekaaDoor
open Go.RowKit Go.BigFrame Go.Shelf

theorem PartsAt.form {W : World} {lo : Nat} {v : Value} {ps : List Pt} (h : PartsAt W lo v ps) : ∃ ad vc, v = .slice ad ps.length vc ∧ (0 < ps.length → ∃ g, ad = some ⟨g, 0, none⟩) := by
  obtain ⟨L, h1, h2, _⟩ := h
  rw [h2] at h1
  exact owns_slice h1
theorem PartsAt.below {W W' : World} {lo : Nat} {v : Value} {ps : List Pt} (h : PartsAt W lo v ps) (hb : Below W.heap.size W W') : PartsAt W' lo v ps := h.stay (cells_below hb)
/-- What is read of a part. -/
theorem PartsAt.part {W : World} {lo g n vc : Nat} {ps : List Pt} (h : PartsAt W lo (.slice (some ⟨g, 0, none⟩) n vc) ps) {k : Nat} {p : Pt} (hp : ps[k]? = some p) :
    W.cell? ⟨g, k * 3, none⟩ = some (.int .i64 (p.lo : Nat)) ∧ W.cell? ⟨g, k * 3 + 1, none⟩ = some (.int .i64 (p.hi : Nat)) ∧ ∃ b m, W.cell? ⟨g, k * 3 + 2, none⟩ = some (.slice b p.nx.length m) ∧ (0 < p.nx.length → ∃ q, b = some ⟨q, 0, none⟩ ∧ q < W.heap.size ∧ ∀ j x, p.nx[j]? = some x → W.cell? ⟨q, j, none⟩ = some (.int .i64 (x : Nat))) := by
  obtain ⟨L, h1, h2, h3⟩ := h
  have hk := (List.getElem?_eq_some_iff.1 hp).1
  obtain ⟨x, hx⟩ : ∃ x, L[k]? = some x := ⟨_, List.getElem?_eq_getElem (by omega)⟩
  obtain ⟨e1, e2, e3⟩ := h3 k x p hx hp
  have c0 := (owns_cell h1 (g := g) rfl (j := k * 3 + 0) (by rw [flatV_at L k 0 x hx (by omega)]; rfl)).1
  have c1 := (owns_cell h1 (g := g) rfl (j := k * 3 + 1) (by rw [flatV_at L k 1 x hx (by omega)]; rfl)).1
  have c2 := (owns_cell h1 (g := g) rfl (j := k * 3 + 2) (by rw [flatV_at L k 2 x hx (by omega)]; rfl)).1
  rw [e1] at c0; rw [e2] at c1
  obtain ⟨b, m, hf, hs⟩ := owns_slice e3
  rw [hf] at c2
  refine ⟨c0, c1, b, m, c2, fun hpos => ?_⟩
  obtain ⟨q, rfl⟩ := hs hpos
  rw [hf] at e3
  exact ⟨q, rfl, (owns_lt e3 (g := q) rfl).2, fun j y hy => (owns_cell e3 (g := q) rfl (by simp [cellsN, hy])).1⟩
theorem parts_span (c : List In) : (partsP c).map (fun p => (p.lo, p.hi)) = spansP c.length (begsP c) := by
  unfold partsP
  rw [List.map_map]
  conv => rhs; rw [← List.map_id (spansP c.length (begsP c))]
  exact List.map_congr_left (fun x _ => rfl)
theorem PartsAt.spin {W : World} {lo g n vc : Nat} {c : List In} (h : PartsAt W lo (.slice (some ⟨g, 0, none⟩) n vc) (partsP c)) : SpIn W g (spansP c.length (begsP c)) := fun j x hx => by
  rw [← parts_span, List.getElem?_map, Option.map_eq_some_iff] at hx
  obtain ⟨p, hp, rfl⟩ := hx
  obtain ⟨c0, c1, b, m, c2, _⟩ := h.part hp
  exact ⟨b, p.nx.length, m, fun i u hi => by
    match i, hi with
    | 0, hi => cases hi; exact c0
    | 1, hi => cases hi; exact c1
    | 2, hi => cases hi; exact c2
    | i + 3, hi => simp at hi⟩
theorem begs_pos {c : List In} (h : 0 < c.length) : 0 < (begsP c).length := by
  obtain ⟨r, hr⟩ := begs_zero h
  rw [hr]; simp
theorem begs_le (c : List In) : (begsP c).length ≤ c.length := by unfold begsP; exact Nat.le_trans (List.length_filter_le _ _) (by simp)

set_option maxRecDepth 100000 in
theorem parts_any (a : Option Addr) (cap : Nat) (c : List In) (hn : c.length ≤ 1024) (hi : ∀ i ∈ c, I64 i.imm) (w : World) (hF : FormsAt w) (hr : RowsIn w a 5 In.cells c) :
    Calls Tryd.prog 5 #[.slice a c.length cap] w fun e w' => ∃ v, e = .returned (.tuple #[v, .int .i64 0]) ∧ PartsAt w' w.heap.size v (partsP c) ∧ Below w.heap.size w w' := by
  have hP := callsIn_wide.1 (parts_in a cap c hn hi w hF hr)
  have d1 : decide (1024 < (c.length : Int)) = false := decide_eq_false (by omega)
  have HP := Lib.hid hP; clear hP hF hr hi hn
  go_enter Tryd.func5, Tryd.ntmps5
  go_wp2_with fail
  refine HP.out.mono ?_
  rintro e w2 ⟨v, rfl, h1, h2⟩
  have H := Lib.hid (And.intro h1 h2); clear h1 h2
  go_wp2
  exact bodyPost_ret (v := .tuple #[v, .int .i64 0]) (by simp [results, Tryd.results5, go_sem]) rfl ⟨v, rfl, H.out⟩
theorem parts_long (a : Option Addr) (n cap : Nat) (hn : 1024 < n) (w : World) :
    Calls Tryd.prog 5 #[.slice a n cap] w fun e w' => e = .returned (.tuple #[.slice none 0 0, .int .i64 2]) ∧ w' = w := by
  have d1 : decide (1024 < (n : Int)) = true := decide_eq_true (by omega)
  clear hn
  go_enter Tryd.func5, Tryd.ntmps5
  go_wp2
  go_ret2
  exact ⟨rfl, rfl⟩

set_option maxRecDepth 100000 in
theorem at_any (a : Option Addr) (cap : Nat) (c : List In) (hn : c.length ≤ 1024) (hi : ∀ i ∈ c, I64 i.imm) (w : World) (hF : FormsAt w) (hr : RowsIn w a 5 In.cells c) (p : Nat) (hp : p < c.length) :
    Calls Tryd.prog 7 #[.slice a c.length cap, .int .i64 p] w fun e w' => e = .returned (.tuple #[.int .i64 (numP c p : Nat), .int .i64 0]) ∧ Below w.heap.size w w' := by
  have hP := parts_any a cap c hn hi w hF hr
  have hh := fun V => has_flow a c.length cap p V
  have hb : hasB c.length p = true := by simp [hasB, hp]
  rw [hb] at hh
  have HP := Lib.hid hP; clear hP hF hr hi
  have HH := Lib.hid hh; clear hh hb
  have Hn := Lib.hid (And.intro hn hp); clear hn hp
  go_enter Tryd.func7, Tryd.ntmps7
  go_wp2_with fail
  refine HP.out.mono ?_
  rintro e w2 ⟨v, rfl, h1, h2⟩
  obtain ⟨ad, vc, rfl, hs⟩ := h1.form
  obtain ⟨g, rfl⟩ := hs (by rw [parts_len]; exact begs_pos (by have := Hn.out; omega))
  have hN := numOf_any (spansP c.length (begsP c)) g vc p w2 h1.spin (spans_mono _ _ (begs_sorted c) (fun x => begs_lt)) (by rw [spans_len]; exact Nat.le_trans (begs_le c) Hn.out.1) (by rw [spans_len]; exact begs_pos (by have := Hn.out; omega))
  rw [spans_len, ← parts_len] at hN
  have HN := Lib.hid hN; clear hN
  have H2 := Lib.hid h2; clear h2 h1 hs
  go_wp2_with (first | (go_at_call 17; refine (HH.out _).mono ?_; rintro e w5 ⟨rfl, rfl⟩) | (go_at_call 18; refine HN.out.mono ?_; rintro e w5 ⟨rfl, hb5⟩; have HB5 := Lib.hid hb5; clear hb5))
  go_ret2
  exact ⟨rfl, H2.out.trans (HB5.out.mono H2.out.size)⟩
theorem at_out (a : Option Addr) (cap : Nat) (c : List In) (hn : c.length ≤ 1024) (hi : ∀ i ∈ c, I64 i.imm) (w : World) (hF : FormsAt w) (hr : RowsIn w a 5 In.cells c) (p : Int) (hp : ¬ (0 ≤ p ∧ p < c.length)) :
    Calls Tryd.prog 7 #[.slice a c.length cap, .int .i64 p] w fun e w' => e = .returned (.tuple #[.int .i64 0, .int .i64 2]) ∧ Below w.heap.size w w' := by
  have hP := parts_any a cap c hn hi w hF hr
  have hh := fun V => has_flow a c.length cap p V
  have hb : hasB c.length p = false := by simp [hasB]; omega
  rw [hb] at hh
  have HP := Lib.hid hP; clear hP hF hr hi
  have HH := Lib.hid hh; clear hh hb
  have Hn := Lib.hid (And.intro hn hp); clear hn hp
  go_enter Tryd.func7, Tryd.ntmps7
  go_wp2_with fail
  refine HP.out.mono ?_
  rintro e w2 ⟨v, rfl, h1, h2⟩
  obtain ⟨ad, vc, rfl, hs⟩ := h1.form
  have H2 := Lib.hid h2; clear h2 h1 hs
  go_wp2_with (go_at_call 17; refine (HH.out _).mono ?_; rintro e w5 ⟨rfl, rfl⟩)
  go_ret2
  exact ⟨rfl, H2.out⟩

end Go.Proofs.YtehnailokgoekaaDoor
