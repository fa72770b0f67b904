/- A line, read: what is plain in it. Conditions: those stated in each theorem. -/
import Derived.Test.YteijhcibdglkeaaGreatDoorTxtB
import Derived.Test.YteijhcibdglkeaaGreatDoorTxtD
namespace Go.Proofs.YteijhcibdglkeaaGreatDoor
open Go.RowKit Go.BigFrame Go.Shelf

/-- What Parse answers. -/
def parseVal : Option In → Value
  | some x => .tuple #[x.val, .int .i64 0]
  | none => .tuple #[In.zero.val, .int .i64 2]
/-- strconv's errors, in each later world. -/
def ErrsBelow (w : World) : Prop := ∀ w', Below w.heap.size w w' → ErrsAt w'
theorem pair_get {α : Type} (f g : Nat → α) : ∀ (n i : Nat) (v : α), ((List.range n).flatMap fun r => [f r, g r])[i]? = some v → ∃ r, r < n ∧ ((i = 2 * r ∧ v = f r) ∨ (i = 2 * r + 1 ∧ v = g r)) := by
  intro n
  have hl : ∀ n : Nat, ((List.range n).flatMap fun r => [f r, g r]).length = 2 * n := fun n => by
    induction n with
    | zero => rfl
    | succ n ih => rw [List.range_succ, List.flatMap_append, List.length_append, ih]; simp; omega
  induction n with
  | zero => intro i v h; simp at h
  | succ n ih =>
    intro i v h
    rw [List.range_succ, List.flatMap_append, List.getElem?_append] at h
    split at h
    · obtain ⟨r, hr, h2⟩ := ih i v h
      exact ⟨r, by omega, h2⟩
    · rename_i hi
      rw [hl] at h hi
      simp only [List.flatMap_cons, List.flatMap_nil, List.append_nil] at h
      have hlt : i - 2 * n < 2 := by
        rcases Nat.lt_or_ge (i - 2 * n) 2 with h1 | h1
        · exact h1
        · rw [List.getElem?_eq_none (by simpa using h1)] at h; cases h
      refine ⟨n, by omega, ?_⟩
      by_cases h0 : i - 2 * n = 0
      · rw [h0] at h
        simp only [List.getElem?_cons_zero, Option.some.injEq] at h
        exact .inl ⟨by omega, h.symm⟩
      · have h1 : i - 2 * n = 1 := by omega
        rw [h1] at h
        simp only [List.getElem?_cons_succ, List.getElem?_cons_zero, Option.some.injEq] at h
        exact .inr ⟨by omega, h.symm⟩
theorem forms_range {w : World} (h : FormsAt w) : w.rangeAt 0 0 formCells := fun i v hi => by
  obtain ⟨r, hr, ⟨rfl, rfl⟩ | ⟨rfl, rfl⟩⟩ := pair_get _ _ 19 i v hi
  · rw [Nat.zero_add]; exact (h r hr).1
  · rw [Nat.zero_add]; exact (h r hr).2
set_option maxRecDepth 100000 in
theorem index_forms (k : Nat) (hk : k < 19) : ∀ W, (Instr.index 72 (.agg formCells.toArray) (.int .i64 k)).run Tryz.prog W = .ok (.agg #[.string (wordS k), .int .i64 (mask k)]) W := by
  match k, hk with
  | 0, _ => intro W; kernel_rfl
  | 1, _ => intro W; kernel_rfl
  | 2, _ => intro W; kernel_rfl
  | 3, _ => intro W; kernel_rfl
  | 4, _ => intro W; kernel_rfl
  | 5, _ => intro W; kernel_rfl
  | 6, _ => intro W; kernel_rfl
  | 7, _ => intro W; kernel_rfl
  | 8, _ => intro W; kernel_rfl
  | 9, _ => intro W; kernel_rfl
  | 10, _ => intro W; kernel_rfl
  | 11, _ => intro W; kernel_rfl
  | 12, _ => intro W; kernel_rfl
  | 13, _ => intro W; kernel_rfl
  | 14, _ => intro W; kernel_rfl
  | 15, _ => intro W; kernel_rfl
  | 16, _ => intro W; kernel_rfl
  | 17, _ => intro W; kernel_rfl
  | 18, _ => intro W; kernel_rfl
  | k + 19, h => exact absurd h (by omega)

theorem nums_snoc (x : Nat) : ∀ (ks : List Nat) (i : In) (s : List UInt8), numsP (ks ++ [x]) i s = match numsP ks i s with
    | some (y, r) => numsP [x] y r
    | none => none
  | [], i, s => rfl
  | k :: ks, i, s => by
    rw [List.cons_append, numsP, numsP]
    cases numberP s with
    | none => rfl
    | some p => obtain ⟨v, q⟩ := p; exact nums_snoc x ks _ q
theorem nums_pre {ks ls : List Nat} {i : In} {s : List UInt8} (h : numsP ks i s = none) : numsP (ks ++ ls) i s = none := by
  induction ks generalizing i s with
  | nil => cases h
  | cons k ks ih =>
    rw [List.cons_append, numsP]
    rw [numsP] at h
    cases hn : numberP s with
    | none => rfl
    | some p => obtain ⟨v, q⟩ := p; rw [hn] at h; exact ih h
theorem number_len {s r : List UInt8} {v : Int} (h : numberP s = some (v, r)) : r.length ≤ s.length := by
  have ht : (Lib.trimPrefix s [32]).length ≤ s.length := by unfold Lib.trimPrefix; split <;> simp
  unfold numberP at h
  split at h
  · split at h
    · simp only [Option.some.injEq, Prod.mk.injEq] at h
      rw [← h.2, List.length_drop]; omega
    · cases h
  · cases h
theorem parse_here {l : List UInt8} {k : Nat} {x : In} (hk : k < 19) (hx : tryP l k = some x) (h : ∀ j, j < k → tryP l j = none) : parseP l = some x := by
  unfold parseP
  have : List.range 19 = List.range k ++ k :: List.range' (k + 1) (19 - (k + 1)) := by
    rw [List.range_eq_range' (n := k), List.range_eq_range' (n := 19), ← List.range'_succ]
    have := List.range'_append_1 (s := 0) (m := k) (n := 19 - (k + 1) + 1)
    rw [Nat.zero_add] at this
    rw [this]; congr 1; omega
  rw [this, List.findSome?_append, List.findSome?_eq_none_iff.2 (fun j hj => h j (List.mem_range.1 hj)), List.findSome?_cons, hx]
  rfl
theorem parse_none {l : List UInt8} (h : ∀ j, j < 19 → tryP l j = none) : parseP l = none := List.findSome?_eq_none_iff.2 (fun j hj => h j (List.mem_range.1 hj))

/-- The marks that a function has by then. -/
def Marks (ms : List Nat) (W : World) : Prop := (∀ D ∈ ms, W.heap[D]? = some (.deferred (some []))) ∧ ms.Nodup
/-- Between two rounds over the forms. -/
structure PaI (l : List UInt8) (w : World) (k : Nat) (ms : List Nat) (V : World) : Prop where
  upto : k ≤ 19
  none_ : ∀ j, j < k → tryP l j = none
  below : Below w.heap.size w V
  box : Holds V w.heap.size 43 [.int .i64 0, .int .i64 0, .int .i64 0, .int .i64 0, .int .i64 0]
  marks : Marks ms V
  low : ∀ D ∈ ms, w.heap.size < D ∧ D < V.heap.size

theorem Marks.tch {ms : List Nat} {C : Nat → Prop} {W W' : World} (h : Marks ms W) (k : Tch C W W') (hC : ∀ D ∈ ms, ¬ C D) : Marks ms W' := ⟨fun D hD => (k.block D (Array.getElem?_eq_some_iff.1 (h.1 D hD)).1 (hC D hD)).trans (h.1 D hD), h.2⟩
theorem PaI.turned {l : List UInt8} {w : World} {k : Nat} {ms : List Nat} {V V' : World} {C : Nat → Prop} (h : PaI l w k ms V) (hT : Tch C V V') (hC : ∀ b, C b → V.heap.size ≤ b) : PaI l w k ms V' :=
  ⟨h.upto, h.none_, h.below.trans (hT.below h.below.size (fun b hb => Nat.le_trans h.below.size (hC b hb))), hT.holds (fun hc => by have := hC _ hc; have := h.box.lt; omega) h.box, h.marks.tch hT (fun D hD hc => by have := hC D hc; have := (h.low D hD).2; omega), fun D hD => ⟨(h.low D hD).1, Nat.lt_of_lt_of_le (h.low D hD).2 hT.size⟩⟩
theorem PaI.idle {l : List UInt8} {w : World} {k : Nat} {ms : List Nat} {V V' : World} (h : PaI l w k ms V) (hb : Below V.heap.size V V') : PaI l w k ms V' := h.turned (C := fun _ => False) (Tch.of_idle hb) (fun _ h => h.elim)
theorem PaI.turned' {l : List UInt8} {w : World} {k n : Nat} {ms : List Nat} {V V' : World} {C : Nat → Prop} (h : PaI l w k ms V) (hT : Tch C V V') (hC : ∀ b, C b → n < b) (hw : w.heap.size ≤ n) (hms : ∀ D ∈ ms, D ≤ n) : PaI l w k ms V' :=
  ⟨h.upto, h.none_, h.below.trans (hT.below h.below.size (fun b hb => by have := hC b hb; omega)), hT.holds (fun hc => by have := hC _ hc; omega) h.box, h.marks.tch hT (fun D hD hc => by have := hC D hc; have := hms D hD; omega), fun D hD => ⟨(h.low D hD).1, Nat.lt_of_lt_of_le (h.low D hD).2 hT.size⟩⟩
theorem PaI.next {l : List UInt8} {w : World} {k : Nat} {ms : List Nat} {V : World} (h : PaI l w k ms V) (hk : k < 19) (ht : tryP l k = none) : PaI l w (k + 1) ms V :=
  ⟨hk, fun j hj => by
    by_cases e : j = k
    · subst e; exact ht
    · exact h.none_ j (by omega), h.below, h.box, h.marks, h.low⟩
theorem PaI.mark {l : List UInt8} {w : World} {k D : Nat} {ms : List Nat} {V : World} (h : PaI l w k ms V) (hD : V.heap[D]? = some (.deferred (some []))) (hw : w.heap.size < D) (hn : ∀ E ∈ ms, E < D) : PaI l w k (D :: ms) V := by
  have hlt := (Array.getElem?_eq_some_iff.1 hD).1
  exact ⟨h.upto, h.none_, h.below, h.box, ⟨fun E hE => by
    rcases List.mem_cons.1 hE with rfl | hE
    · exact hD
    · exact h.marks.1 E hE, List.nodup_cons.2 ⟨fun hE => by have := hn D hE; omega, h.marks.2⟩⟩, fun E hE => by
    rcases List.mem_cons.1 hE with rfl | hE
    · exact ⟨hw, hlt⟩
    · exact h.low E hE⟩

/-- Between two numbers. -/
def PrI (k : Nat) (rest : List UInt8) (nr ni na : Nat) (W0 : World) (pre : List Nat) (W : World) : Prop :=
  (Tch (fun b => W0.heap.size ≤ b ∨ b = nr ∨ b = ni ∨ b = na) W0 W ∧ ∃ x r, (Holds W na 65 (In.cells x) ∧ Holds W nr 9 [.string ⟨r.toArray⟩] ∧ Holds W ni 4 [.bool true]) ∧ numsP pre ⟨k, 0, 0, 0, 0⟩ rest = some (x, r) ∧ r.length ≤ 1000000)
def PrX (k : Nat) (rest : List UInt8) (nr ni na : Nat) (W0 : World) (c : Code) (pre : List Nat) (W : World) : Prop :=
  Tch (fun b => W0.heap.size ≤ b ∨ b = nr ∨ b = ni ∨ b = na) W0 W ∧ c = .exit 1 ∧ numsP pre ⟨k, 0, 0, 0, 0⟩ rest = none
theorem prI_own {k : Nat} {rest : List UInt8} {nr ni na : Nat} {W0 : World} : OwnFrom W0.heap.size (PrI k rest nr ni na W0) :=
  OwnFrom.and (ownFrom_tch (Nat.le_refl _)) (fun s X Y row hs hg hr => by
    obtain ⟨x, r, ⟨h1, h2, h3⟩, h4⟩ := hs
    exact ⟨x, r, ⟨ownFrom_holds W0.heap.size na _ (fun _ : List Nat => In.cells x) s X Y row h1 hg hr, ownFrom_holds W0.heap.size nr _ (fun _ : List Nat => [.string ⟨r.toArray⟩]) s X Y row h2 hg hr, ownFrom_holds W0.heap.size ni _ (fun _ : List Nat => [.bool true]) s X Y row h3 hg hr⟩, h4⟩)
theorem prX_own {k : Nat} {rest : List UInt8} {nr ni na : Nat} {W0 : World} (c : Code) : OwnFrom W0.heap.size (PrX k rest nr ni na W0 c) := OwnFrom.and (ownFrom_tch (Nat.le_refl _)) (fun _ _ _ _ hs _ _ => hs)
theorem setInstr {W : World} {q : Nat} {L : List Value} (h : Holds W q 43 L) (hL : L.length = 5) (i : In) : Holds (W.setCells q 0 i.cells) q 43 i.cells := by
  have := h.sets i.cells 0
  match L, hL with
  | [_, _, _, _, _], _ => exact this
/-- What is left when the marks are taken. -/
def PaZ (w : World) (x : In) (X : World) : Prop := Holds X w.heap.size 43 (In.cells x) ∧ Below w.heap.size w X
theorem paZ_own {w : World} {x : In} : OwnFrom (w.heap.size + 1) (fun (_ : Unit) X => PaZ w x X) := fun s X Y row hs hg hr =>
  ⟨ownFrom_holds (w.heap.size + 1) w.heap.size _ (fun _ : Unit => In.cells x) s X Y row hs.1 hg hr, hs.2.grown hg hs.2.size (fun k e => Nat.le_of_succ_le (hr k e).1)⟩

end Go.Proofs.YteijhcibdglkeaaGreatDoor
