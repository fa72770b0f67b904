/- The document's Parts: plain functions. Conditions: those stated in each theorem. -/
import Derived.Test.YtehnailokgoekaaDoorFlwOg
namespace Go.Proofs.YtehnailokgoekaaDoor
open Go.RowKit Go.BigFrame Go.Shelf

/-- Marked as a beginning once the first k places were looked at. -/
def frsB (c : List In) (k p : Nat) : Bool := p == 0 || (List.range k).any fun j => endsAt c j && (p == j + 1 || (gosP c j).contains p)
theorem frsB_succ (c : List In) (k p : Nat) : frsB c (k + 1) p = (frsB c k p || (endsAt c k && (p == k + 1 || (gosP c k).contains p))) := by
  simp [frsB, List.range_succ, Bool.or_assoc]
theorem frsB_end {c : List In} {p : Nat} (h : p < c.length) : frsB c c.length p = firstP c p := by
  unfold frsB firstP goneP
  rw [Bool.eq_iff_iff]
  simp only [Bool.or_eq_true, beq_iff_eq, List.any_eq_true, List.mem_range, Bool.and_eq_true]
  constructor
  · rintro (h0 | ⟨j, hj, he, hp | hg⟩)
    · exact .inl (.inl h0)
    · refine .inr ?_
      rw [hp, Nat.add_sub_cancel]; exact he
    · exact .inl (.inr ⟨j, hj, he, hg⟩)
  · rintro ((h0 | ⟨j, hj, he, hg⟩) | he)
    · exact .inl h0
    · exact .inr ⟨j, hj, he, .inr hg⟩
    · by_cases h0 : p = 0
      · exact .inl h0
      · exact .inr ⟨p - 1, by omega, he, .inl (by omega)⟩
/-- A list of that many, that says so. -/
def FsL (L : List Bool) (n : Nat) (f : Nat → Bool) : Prop := L.length = n ∧ ∀ p, p < n → isAt L p = f p
theorem FsL.set {L : List Bool} {n : Nat} {f : Nat → Bool} (h : FsL L n f) {q : Nat} (hq : q < n) : FsL (L.set q true) n (fun p => f p || p == q) := by
  refine ⟨by rw [List.length_set]; exact h.1, fun p hp => ?_⟩
  rw [isAt_set (by rw [h.1]; exact hq), h.2 p hp, Bool.or_comm]
theorem FsL.congr {L : List Bool} {n : Nat} {f g : Nat → Bool} (h : FsL L n f) (e : ∀ p, p < n → f p = g p) : FsL L n g := ⟨h.1, fun p hp => (h.2 p hp).trans (e p hp)⟩
theorem FsL.none (n : Nat) : FsL (List.replicate n false) n (fun _ => false) := ⟨by simp, fun p _ => isAt_rep _ _⟩
/-- The beginnings below k. -/
def begK (c : List In) (k : Nat) : List Nat := (List.range k).filter (firstP c)
theorem begK_succ (c : List In) (k : Nat) : begK c (k + 1) = begK c k ++ if firstP c k then [k] else [] := by
  simp [begK, List.range_succ, List.filter_append, List.filter_cons]
theorem begK_end (c : List In) : begK c c.length = begsP c := rfl
theorem begK_pos (c : List In) (k : Nat) : 0 < (begK c (k + 1)).length := by
  induction k with
  | zero => simp [begK, firstP]
  | succ k ih => rw [begK_succ]; simp; omega
theorem begK_count (c : List In) {k : Nat} (h : k < c.length) : (begK c (k + 1)).length = numP c k + 1 := by
  rw [num_count h]
  unfold begsP begK
  rw [List.countP_eq_length_filter, List.filter_filter]
  have : ∀ n, k < n → ((List.range n).filter fun x => decide (x ≤ k) && firstP c x).length = ((List.range (k + 1)).filter (firstP c)).length := by
    intro n
    induction n with
    | zero => intro h; omega
    | succ n ih =>
      intro hk
      by_cases e : k = n
      · subst e
        congr 1
        refine List.filter_congr fun x hx => ?_
        have := List.mem_range.1 hx
        simp; omega
      · rw [List.range_succ (n := n), List.filter_append, List.length_append, ih (by omega)]
        have : ¬ n ≤ k := by omega
        simp [this]
  exact (this c.length h).symm
/-- An owned row of numbers stays where a row of truths is written into. -/
theorem ints_keep {W : World} {lo n : Nat} {v : Value} {xs : List Value} {gf : Nat} {L : List Bool} (h : W.ownsRow lo 3 1 v n xs) (hf : Holds W gf 4 (cellsB L)) (p : Nat) (u : Value) : (W.setCell ⟨gf, p, none⟩ u).ownsRow lo 3 1 v n xs :=
  owns_same h (fun g' e => Below.heap_setCell _ _ _ _ (fun e2 => by
    obtain ⟨cc, hc⟩ := owns_kind h e
    unfold Holds at hf
    rw [e2] at hc
    simp only at hc
    rw [hf] at hc; cases hc))

theorem made_int (n : Nat) : (madeCells (Value.int .i64 0).cells (n * 1)).toList = cellsN (List.replicate n 0) := by
  apply List.ext_getElem
  · simp [madeCells, cellsN]
  · intro j h1 h2
    simp [madeCells, Nat.mod_one, Value.cells, cellsN]
noncomputable def appQ (xs : Array Value) : Sem Value := Builtin.append_ #[23, 23] 23 xs
theorem appQ_eq (xs : Array Value) : Builtin.append_ #[23, 23] 23 xs = appQ xs := rfl
theorem appQ_own (base : Nat) (v : Value) (n : Nat) (xs : List Value) (x : PV) (W : World) (hx : x.nv = .slice none 0 0) (hown : W.ownsRow base 32 3 v n xs) (hn : n ≤ 1000000) (hb : base ≤ W.heap.size) :
    ∃ g cap w', (appQ #[v, .slice (some ⟨W.heap.size, 0, none⟩) 1 1]).run Tryd.prog (W.alloc (.cells x.cells.toArray 32)) = .ok (.slice (some ⟨g, 0, none⟩) (n + 1) cap) w' ∧ w'.ownsRow base 32 3 (.slice (some ⟨g, 0, none⟩) (n + 1) cap) (n + 1) (xs ++ x.cells) ∧ (W.alloc (.cells x.cells.toArray 32)).grownBy w' v.ownBlock := by
  obtain ⟨i0, hi, hz0, hz1, hz2⟩ := flw_info Tryd.infoPart
  obtain ⟨v', w', h1, h2, h3, -⟩ := run_append_own (P := Tryd.prog) (w := W.alloc (.cells x.cells.toArray 32)) base 23 23 32 i0 (.agg #[.int .i64 0, .int .i64 0, .slice none 0 0]) 3 40 Tryd.underlying23 hi hz0 hz1 hz2 rfl (by decide) v n xs (hown.alloc _) ⟨W.heap.size, 0, none⟩ 1 1 x.cells rfl (World.news_of_block (t := 32) (fr := (0, 0)) (new_block W _)) (by simp [PV.cells, hx, Value.oneCell']) (by unfold maxLen; omega) (by omega) (by simp; omega)
  obtain ⟨g, cap, rfl, -, -⟩ := h2.form (by omega)
  exact ⟨g, cap, w', h1, h2, h3⟩
/-- The second loop: the beginnings are told, and which part has a place. -/
def bgV (l : List Nat) : List PV := l.map fun b => ⟨b, 0, .slice none 0 0⟩
structure PhB (W : World) (c : List In) (N gn : Nat) (L : List Bool) (m k : Nat) (vo : Value) (V : World) : Prop where
  below : Below W.heap.size W V
  fst : Holds V W.heap.size 4 (cellsB L)
  num : ∃ Nm : List Nat, Nm.length = N ∧ Holds V gn 3 (cellsN Nm) ∧ ∀ j, j < m → Nm[j]? = some (numP c j)
  row : V.ownsRow W.heap.size 32 3 vo (begK c k).length (flatV (bgV (begK c k)))
theorem PhB.skip {W : World} {c : List In} {N gn : Nat} {L : List Bool} {m k : Nat} {vo : Value} {V : World} (h : PhB W c N gn L m k vo V) (hf : firstP c k = false) : PhB W c N gn L m (k + 1) vo V :=
  ⟨h.below, h.fst, h.num, by rw [begK_succ, hf]; simpa using h.row⟩
theorem PhB.put {W : World} {c : List In} {N gn : Nat} {L : List Bool} {k : Nat} {vo : Value} {V : World} (h : PhB W c N gn L k (k + 1) vo V) (hg : W.heap.size < gn) (hk : k < N) : PhB W c N gn L (k + 1) (k + 1) vo (V.setCell ⟨gn, k, none⟩ (.int .i64 (numP c k : Nat))) := by
  obtain ⟨Nm, h1, h2, h3⟩ := h.num
  refine ⟨h.below.setCell (p := ⟨gn, k, none⟩) (Nat.le_of_lt hg) _, h.fst.other (p := ⟨gn, k, none⟩) (by simp; omega) _, ⟨Nm.set k (numP c k), by rw [List.length_set]; exact h1, ?_, fun j hj => ?_⟩, ?_⟩
  · have := h2.set k (.int .i64 (numP c k : Nat))
    have e : (cellsN Nm).set k (.int .i64 (numP c k : Nat)) = cellsN (Nm.set k (numP c k)) := by simp [cellsN]
    rwa [e] at this
  · rw [List.getElem?_set]
    by_cases e : k = j
    · subst e; simp [h1, hk]
    · simp [e]; exact h3 j (by omega)
  · exact owns_same h.row (fun g' e => Below.heap_setCell _ _ _ _ (fun e2 => by
      obtain ⟨cc, hc⟩ := owns_kind h.row e
      unfold Holds at h2
      rw [e2] at hc
      simp only at hc
      rw [h2] at hc; cases hc))
theorem PhB.app {W : World} {c : List In} {N gn : Nat} {L : List Bool} {m k : Nat} {vo : Value} {V : World} (h : PhB W c N gn L m k vo V) (hf : firstP c k = true) (hl : (begK c k).length ≤ 1000000) :
    ∃ g cap w', (appQ #[vo, .slice (some ⟨V.heap.size, 0, none⟩) 1 1]).run Tryd.prog (V.alloc (.cells #[.int .i64 (k : Nat), .int .i64 0, .slice none 0 0] 32)) = .ok (.slice (some ⟨g, 0, none⟩) (begK c (k + 1)).length cap) w' ∧ PhB W c N gn L m (k + 1) (.slice (some ⟨g, 0, none⟩) (begK c (k + 1)).length cap) w' := by
  obtain ⟨g, cap, w', h1, h2, h3⟩ := appQ_own W.heap.size vo _ _ ⟨k, 0, .slice none 0 0⟩ V rfl h.row hl h.below.size
  have e1 : (begK c (k + 1)).length = (begK c k).length + 1 := by rw [begK_succ, hf]; simp
  have e2 : flatV (bgV (begK c (k + 1))) = flatV (bgV (begK c k)) ++ (⟨k, 0, .slice none 0 0⟩ : PV).cells := by
    rw [begK_succ, hf, if_pos rfl]; unfold bgV; rw [List.map_append]; exact flatV_snoc _ _
  refine ⟨g, cap, w', by rw [e1]; exact h1, (h.below.alloc h.below.size _).grown h3 (by have := h.below.size; simp at this ⊢; omega) (fun r e => (owns_lt h.row e).1), ?_, ?_, by rw [e1, e2]; exact h2⟩
  · refine (h.fst.alloc _).same (h3.block _ (by have := h.fst.lt; simp at this ⊢; omega) (fun e => ?_))
    obtain ⟨cc, hc⟩ := owns_kind h.row e.symm
    have := h.fst
    unfold Holds at this
    rw [this] at hc; cases hc
  · obtain ⟨Nm, n1, n2, n3⟩ := h.num
    refine ⟨Nm, n1, (n2.alloc _).same (h3.block _ (by have := n2.lt; simp at this ⊢; omega) (fun e => ?_)), n3⟩
    obtain ⟨cc, hc⟩ := owns_kind h.row e.symm
    unfold Holds at n2
    rw [n2] at hc; cases hc

end Go.Proofs.YtehnailokgoekaaDoor
