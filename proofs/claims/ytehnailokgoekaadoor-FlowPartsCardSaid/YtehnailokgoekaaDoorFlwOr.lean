/- The document's Parts: the third loop's parts. Conditions: those stated in each theorem. -/
import Derived.Test.YtehnailokgoekaaDoorFlwOp
namespace Go.Proofs.YtehnailokgoekaaDoor
open Go.RowKit Go.BigFrame Go.Shelf

/-- The third loop: the first k parts are whole. -/
structure PhC (W : World) (c : List In) (N gn B : Nat) (vo : Value) (k : Nat) (L : List PV) (V : World) : Prop where
  below : Below W.heap.size W V
  size : W.heap.size ≤ gn ∧ gn < B ∧ B ≤ V.heap.size
  num : ∃ Nm : List Nat, Nm.length = N ∧ Holds V gn 3 (cellsN Nm) ∧ ∀ j, j < c.length → Nm[j]? = some (numP c j)
  row : V.ownsRow W.heap.size 32 3 vo L.length (flatV L)
  len : L.length = (begsP c).length
  lo : ∀ (j : Nat) (x : PV), L[j]? = some x → ∃ y, (spansP c.length (begsP c))[j]? = some y ∧ x.lo = y.1 ∧ (j < k → x.hi = y.2)
  rest : ∀ (j : Nat) (x : PV), k ≤ j → L[j]? = some x → x.nv = .slice none 0 0
  next : ∀ (j : Nat) (x : PV), j < k → L[j]? = some x → V.ownsRow B 3 1 x.nv (nextP c x.hi).length (cellsN (nextP c x.hi))
theorem PhC.stay {W : World} {c : List In} {N gn B k : Nat} {vo : Value} {L : List PV} {V V' : World} (h : PhC W c N gn B vo k L V) (hb : Below V.heap.size V V') : PhC W c N gn B vo k L V' := by
  obtain ⟨Nm, n1, n2, n3⟩ := h.num
  exact ⟨h.below.trans (hb.mono h.below.size), ⟨h.size.1, h.size.2.1, Nat.le_trans h.size.2.2 hb.size⟩, ⟨Nm, n1, n2.below hb, n3⟩, owns_same h.row (fun g e => hb.block g (owns_lt h.row e).2), h.len, h.lo, h.rest, fun j x hj hx => owns_same (h.next j x hj hx) (fun g e => hb.block g (owns_lt (h.next j x hj hx) e).2)⟩
theorem PhC.ne {W : World} {c : List In} {N gn B k g n vc : Nat} {L : List PV} {V : World} (h : PhC W c N gn B (.slice (some ⟨g, 0, none⟩) n vc) k L V) : gn ≠ g := fun e => by
  obtain ⟨cc, hc⟩ := owns_kind h.row (k := g) rfl
  obtain ⟨Nm, _, h2, _⟩ := h.num
  unfold Holds at h2
  rw [e, hc] at h2; cases h2
theorem PhC.setHi {W : World} {c : List In} {N gn B k g n vc : Nat} {L : List PV} {V : World} (h : PhC W c N gn B (.slice (some ⟨g, 0, none⟩) n vc) k L V) {x : PV} (hx : L[k]? = some x) (t : Nat) : PhC W c N gn B (.slice (some ⟨g, 0, none⟩) n vc) k (L.set k ⟨x.lo, t, x.nv⟩) (V.setCell ⟨g, k * 3 + 1, none⟩ (.int .i64 (t : Nat))) := by
  have hne := h.ne
  obtain ⟨cc, hc⟩ := owns_kind h.row (k := g) rfl
  have hg := (owns_lt h.row (g := g) rfl).1
  have hkl := (List.getElem?_eq_some_iff.1 hx).1
  obtain ⟨Nm, n1, n2, n3⟩ := h.num
  have hset := flatV_set L k 1 x ⟨x.lo, t, x.nv⟩ (.int .i64 (t : Nat)) hx (by omega) rfl
  refine ⟨h.below.setCell (p := ⟨g, k * 3 + 1, none⟩) hg _, by rw [World.size_setCell]; exact h.size, ⟨Nm, n1, n2.other (p := ⟨g, k * 3 + 1, none⟩) (by simp; omega) _, n3⟩, ?_, by rw [List.length_set]; exact h.len, ?_, ?_, ?_⟩
  · obtain rfl : n = L.length := by
      obtain ⟨_, _, e, _⟩ := owns_slice h.row
      cases e; rfl
    have := owns_set3 h.row (k * 3 + 1) (.int .i64 (t : Nat))
    rw [← hset] at this
    rw [List.length_set]
    exact this
  · intro j y hy
    rw [List.getElem?_set] at hy
    split at hy
    · rename_i e; subst e
      first | cases hy | (rw [if_pos hkl] at hy; cases hy)
      obtain ⟨z, z1, z2, _⟩ := h.lo k x hx
      exact ⟨z, z1, z2, fun h => by omega⟩
    · exact h.lo j y hy
  · intro j y hj hy
    rw [List.getElem?_set] at hy
    split at hy
    · rename_i e; subst e
      first | cases hy | (rw [if_pos hkl] at hy; cases hy)
      exact h.rest k x (Nat.le_refl _) hx
    · exact h.rest j y hj hy
  · intro j y hj hy
    rw [List.getElem?_set, if_neg (by omega)] at hy
    have ho := h.next j y hj hy
    exact owns_same ho (fun gg eg => Below.heap_setCell _ _ _ _ (fun e => by
      obtain ⟨c2, h2⟩ := owns_kind ho eg
      rw [e] at h2
      simp only at h2
      rw [hc] at h2; cases h2))
/-- While part k's next ones are told: W0 the world ahead of it. -/
structure PhM (W W0 : World) (g n vc k : Nat) (L : List PV) (x : PV) (pre : List Nat) (nv : Value) (V : World) : Prop where
  tch : Tch (fun q => q = g) W0 V
  row : V.ownsRow W.heap.size 32 3 (.slice (some ⟨g, 0, none⟩) n vc) L.length (flatV (L.set k ⟨x.lo, x.hi, nv⟩))
  nxt : V.ownsRow W0.heap.size 3 1 nv pre.length (cellsN pre)
theorem PhM.start {W : World} {c : List In} {N gn B k g n vc : Nat} {L : List PV} {V : World} (h : PhC W c N gn B (.slice (some ⟨g, 0, none⟩) n vc) k L V) {x : PV} (hx : L[k]? = some x) : PhM W V g n vc k L x [] (.slice none 0 0) V := by
  refine ⟨Tch.refl _ _, ?_, World.ownsRow_nil _ _ _ _⟩
  have e : (⟨x.lo, x.hi, .slice none 0 0⟩ : PV) = x := by
    have := h.rest k x (Nat.le_refl _) hx
    cases x; simp_all
  rw [e]
  have : L.set k x = L := by
    apply List.ext_getElem?; intro j
    rw [List.getElem?_set]
    split
    · rename_i e2; subst e2
      have hkl := (List.getElem?_eq_some_iff.1 hx).1
      first | exact hx.symm | (rw [if_pos hkl]; exact hx.symm)
    · rfl
  rw [this]; exact h.row
theorem PhM.app {W W0 : World} {g n vc k : Nat} {L : List PV} {x : PV} {pre : List Nat} {nv : Value} {V : World} (h : PhM W W0 g n vc k L x pre nv V) (hk : k < L.length) (hW : W.heap.size ≤ W0.heap.size) (hg : g < W0.heap.size) (hl : pre.length ≤ 1000000) (m : Nat) :
    ∃ g' cap' w', (appN #[nv, .slice (some ⟨V.heap.size, 0, none⟩) 1 1]).run Tryd.prog (V.alloc (.cells #[.int .i64 (m : Nat)] 3)) = .ok (.slice (some ⟨g', 0, none⟩) (pre.length + 1) cap') w' ∧
      w'.cell? ⟨g, k * 3 + 2, none⟩ = some nv ∧ w'.frozen? ⟨g, k * 3 + 2, none⟩ = false ∧
      PhM W W0 g n vc k L x (pre ++ [m]) (.slice (some ⟨g', 0, none⟩) (pre.length + 1) cap') (w'.setCell ⟨g, k * 3 + 2, none⟩ (.slice (some ⟨g', 0, none⟩) (pre.length + 1) cap')) := by
  obtain ⟨g', cap', w', h1, h2, h3⟩ := appN_own W0.heap.size nv pre.length _ (m : Int) V h.nxt hl h.tch.size
  have hgV : g < V.heap.size := Nat.lt_of_lt_of_le hg h.tch.size
  have hb : w'.heap[g]? = V.heap[g]? := by
    rw [h3.block g (by simp; omega) (fun e => by
      have := (owns_lt h.nxt e.symm).1; omega)]
    exact ((Below.refl V.heap.size V).alloc (Nat.le_refl _) _).block g hgV
  have hrow : w'.ownsRow W.heap.size 32 3 (.slice (some ⟨g, 0, none⟩) n vc) L.length (flatV (L.set k ⟨x.lo, x.hi, nv⟩)) := owns_same h.row (fun q e => by cases e; exact hb)
  have hx : (L.set k ⟨x.lo, x.hi, nv⟩)[k]? = some ⟨x.lo, x.hi, nv⟩ := by simp [hk]
  have hcell := owns_cell hrow (g := g) rfl (j := k * 3 + 2) (u := nv) (by rw [flatV_at _ k 2 _ hx (by omega)]; rfl)
  refine ⟨g', cap', w', h1, hcell.1, hcell.2, ?_, ?_, ?_⟩
  · exact ((h.tch.alloc _).grown h3 (fun q e => .inr (owns_lt h.nxt e).1)).setCell (p := ⟨g, k * 3 + 2, none⟩) (.inl rfl) _
  · have hs := flatV_set (L.set k ⟨x.lo, x.hi, nv⟩) k 2 _ ⟨x.lo, x.hi, .slice (some ⟨g', 0, none⟩) (pre.length + 1) cap'⟩ (.slice (some ⟨g', 0, none⟩) (pre.length + 1) cap') hx (by omega) rfl
    obtain rfl : n = L.length := by
      obtain ⟨_, _, e, _⟩ := owns_slice hrow
      cases e; rfl
    have := owns_set3 hrow (k * 3 + 2) (.slice (some ⟨g', 0, none⟩) (pre.length + 1) cap')
    rw [← hs, List.set_set] at this
    exact this
  · have e1 : (pre ++ [m]).length = pre.length + 1 := by simp
    have e2 : cellsN (pre ++ [m]) = cellsN pre ++ [.int .i64 (m : Int)] := by simp [cellsN]
    rw [e1, e2]
    exact owns_same h2 (fun q e => Below.heap_setCell _ _ _ _ (fun e3 => by
      have := (owns_lt h2 e).1
      simp only at e3
      omega))
theorem PhM.done {W : World} {c : List In} {N gn B k g n vc : Nat} {L : List PV} {W0 : World} (h : PhC W c N gn B (.slice (some ⟨g, 0, none⟩) n vc) k L W0) {x : PV} (hx : L[k]? = some x) {nv : Value} {V : World} (hm : PhM W W0 g n vc k L x (nextP c x.hi) nv V) {y : Nat × Nat} (hy : (spansP c.length (begsP c))[k]? = some y) (hhi : x.hi = y.2) :
    PhC W c N gn B (.slice (some ⟨g, 0, none⟩) n vc) (k + 1) (L.set k ⟨x.lo, x.hi, nv⟩) V := by
  have hne := h.ne
  obtain ⟨cc, hc⟩ := owns_kind h.row (k := g) rfl
  have hg := owns_lt h.row (g := g) rfl
  have hkl := (List.getElem?_eq_some_iff.1 hx).1
  obtain ⟨Nm, n1, n2, n3⟩ := h.num
  refine ⟨h.below.trans (hm.tch.below h.below.size (fun q e => by rw [e]; exact hg.1)), ⟨h.size.1, h.size.2.1, Nat.le_trans h.size.2.2 hm.tch.size⟩, ⟨Nm, n1, hm.tch.holds (fun e => hne e) n2, n3⟩, by rw [List.length_set]; exact hm.row, by rw [List.length_set]; exact h.len, ?_, ?_, ?_⟩
  · intro j z hz
    rw [List.getElem?_set] at hz
    split at hz
    · rename_i e; subst e
      first | cases hz | (rw [if_pos hkl] at hz; cases hz)
      obtain ⟨y', y1, y2, _⟩ := h.lo k x hx
      rw [hy] at y1; cases y1
      exact ⟨y, hy, y2, fun _ => hhi⟩
    · obtain ⟨y', y1, y2, y3⟩ := h.lo j z hz
      exact ⟨y', y1, y2, fun hj => y3 (by omega)⟩
  · intro j z hj hz
    rw [List.getElem?_set, if_neg (by omega)] at hz
    exact h.rest j z (by omega) hz
  · intro j z hj hz
    rw [List.getElem?_set] at hz
    split at hz
    · rename_i e; subst e
      first | cases hz | (rw [if_pos hkl] at hz; cases hz)
      exact owns_lower hm.nxt h.size.2.2
    · have ho := h.next j z (by omega) hz
      exact owns_same ho (fun gg eg => hm.tch.block gg (owns_lt ho eg).2 (fun e => by
        obtain ⟨c2, h2⟩ := owns_kind ho eg
        rw [e, hc] at h2; cases h2))
theorem PhC.parts {W : World} {c : List In} {N gn B : Nat} {vo : Value} {L : List PV} {V : World} (h : PhC W c N gn B vo (begsP c).length L V) : PartsAt V W.heap.size vo (partsP c) := by
  refine ⟨L, h.row, by rw [h.len, parts_len], fun j x p hx hp => ?_⟩
  have hj := (List.getElem?_eq_some_iff.1 hx).1
  rw [h.len] at hj
  obtain ⟨y, y1, y2, y3⟩ := h.lo j x hx
  have h2 := h.next j x hj hx
  unfold partsP at hp
  rw [List.getElem?_map, y1] at hp
  cases hp
  have h3 := y3 hj
  rw [h3] at h2
  exact ⟨y2, h3, owns_lower h2 (by have := h.size; omega)⟩

theorem PhC.start {W : World} {c : List In} {N gn : Nat} {Lb : List Bool} {vo : Value} {V : World} (h : PhB W c N gn Lb c.length c.length vo V) (hg : W.heap.size < gn) : PhC W c N gn V.heap.size vo 0 (bgV (begsP c)) V := by
  obtain ⟨Nm, n1, n2, n3⟩ := h.num
  have hr := h.row
  rw [begK_end] at hr
  have hl : (bgV (begsP c)).length = (begsP c).length := by simp [bgV]
  refine ⟨h.below, ⟨Nat.le_of_lt hg, n2.lt, Nat.le_refl _⟩, ⟨Nm, n1, n2, n3⟩, by rw [hl]; exact hr, hl, fun j x hx => ?_, fun j x _ hx => ?_, fun j x hj => by omega⟩
  · unfold bgV at hx
    rw [List.getElem?_map, Option.map_eq_some_iff] at hx
    obtain ⟨b, hb, rfl⟩ := hx
    have hj := (List.getElem?_eq_some_iff.1 hb).1
    have hj2 : j < (spansP c.length (begsP c)).length := by rw [spans_len]; exact hj
    refine ⟨_, List.getElem?_eq_getElem hj2, ?_, fun h => by omega⟩
    have e := spans_fst c.length (begsP c)
    have e2 : ((spansP c.length (begsP c)).map Prod.fst)[j]? = some b := by rw [e]; exact hb
    rw [List.getElem?_map, List.getElem?_eq_getElem hj2] at e2
    simpa using e2.symm
  · unfold bgV at hx
    rw [List.getElem?_map, Option.map_eq_some_iff] at hx
    obtain ⟨b, hb, rfl⟩ := hx; rfl
/-- What is read of part j. -/
theorem PhC.cells {W : World} {c : List In} {N gn B k g n vc : Nat} {L : List PV} {V : World} (h : PhC W c N gn B (.slice (some ⟨g, 0, none⟩) n vc) k L V) {j : Nat} {x : PV} (hx : L[j]? = some x) :
    V.cell? ⟨g, j * 3, none⟩ = some (.int .i64 (x.lo : Nat)) ∧ V.cell? ⟨g, j * 3 + 1, none⟩ = some (.int .i64 (x.hi : Nat)) ∧ V.frozen? ⟨g, j * 3 + 1, none⟩ = false ∧ V.cell? ⟨g, j * 3 + 2, none⟩ = some x.nv := by
  have c0 := owns_cell h.row (g := g) rfl (j := j * 3 + 0) (by rw [flatV_at L j 0 x hx (by omega)]; rfl)
  have c1 := owns_cell h.row (g := g) rfl (j := j * 3 + 1) (by rw [flatV_at L j 1 x hx (by omega)]; rfl)
  have c2 := owns_cell h.row (g := g) rfl (j := j * 3 + 2) (by rw [flatV_at L j 2 x hx (by omega)]; rfl)
  exact ⟨c0.1, c1.1, c1.2, c2.1⟩
/-- The next ones up to m. -/
def nextK (c : List In) (hi m : Nat) : List Nat := (List.range m).filter fun m => ((gosP c (hi - 1)).map (numP c)).contains m
theorem nextK_succ (c : List In) (hi m : Nat) : nextK c hi (m + 1) = nextK c hi m ++ if ((gosP c (hi - 1)).map (numP c)).contains m then [m] else [] := by
  simp [nextK, List.range_succ, List.filter_append, List.filter_cons]
theorem nextK_end (c : List In) (hi : Nat) : nextK c hi (begsP c).length = nextP c hi := rfl
theorem nextK_le (c : List In) (hi m : Nat) : (nextK c hi m).length ≤ m := by unfold nextK; exact Nat.le_trans (List.length_filter_le _ _) (by simp)

end Go.Proofs.YtehnailokgoekaaDoor
