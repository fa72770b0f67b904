/- A text is read. Conditions: those stated in each theorem. -/
import Derived.Test.YteijhcibdglkeaaGreatDoorAsmH
namespace Go.Proofs.YteijhcibdglkeaaGreatDoor
open Go.RowKit Go.BigFrame Go.Shelf Go.Maps
attribute [local go_sem] Oper.semAt_some
attribute [local simp] wide_fn

/-! ### Plainly -/
theorem place_all : ∀ (l : List Ln) (st : Nms × Nat) (k : Nat), st.2 ≤ k → (∀ s, placeOf st.1 s ≤ k) → ∀ s, placeOf (l.foldl stepN st).1 s ≤ k + l.length
  | [], st, k, _, h2, s => h2 s
  | x :: r, st, k, h1, h2, s => by
    have hs : (stepN st x).2 ≤ k + 1 ∧ ∀ s, placeOf (stepN st x).1 s ≤ k + 1 := by
      unfold stepN
      split
      · exact ⟨by simp only; omega, fun s => Nat.le_succ_of_le (h2 s)⟩
      · split
        · refine ⟨by simp only; omega, fun s => ?_⟩
          have := h2 s
          unfold placeOf Nms.put at *
          simp only
          split
          · simp only [Option.getD_some]; omega
          · omega
        · exact ⟨by omega, fun s => Nat.le_succ_of_le (h2 s)⟩
    have := place_all r (stepN st x) (k + 1) hs.1 hs.2 s
    simp only [List.foldl_cons, List.length_cons]; omega
theorem place_names (tx : By) (s : By) : placeOf (namesP tx) s ≤ tx.length := by
  have h := place_all (linesP 1 tx) (wordsM, 0) 0 (Nat.le_refl _) (fun s => by
    show ((if s ∈ (List.range 19).map word then some (0, 0) else none : Option (Nat × Nat)).getD (0, 0)).2 ≤ 0
    split <;> simp) s
  have := lines_count _ 1 tx (Nat.le_refl _)
  unfold namesP namesL
  omega
/-- All lines are taken. -/
def takesP (m : Nms) : Rs → List Ln → Option Rs
  | st, [] => some st
  | st, x :: r => match takeP m st x with
    | some st' => takesP m st' r
    | none => none
theorem takes_snoc {m : Nms} {y : Rs} {x : Ln} : ∀ (l : List Ln) {st : Rs}, takesP m st l = some y → takesP m st (l ++ [x]) = takeP m y x
  | [], st, h => by
    simp only [takesP, Option.some.injEq] at h
    subst h
    simp only [List.nil_append, takesP]
    cases takeP m st x <;> rfl
  | z :: r, st, h => by
    simp only [takesP, List.cons_append] at h ⊢
    cases hz : takeP m st z with
    | none => rw [hz] at h; cases h
    | some st' => rw [hz] at h; exact takes_snoc r h
theorem read_all {m : Nms} {y : Rs} : ∀ (l : List Ln) {st : Rs}, takesP m st l = some y → readL m st l = (y, 0)
  | [], st, h => by simp only [takesP, Option.some.injEq] at h; subst h; rfl
  | z :: r, st, h => by
    simp only [takesP, readL] at h ⊢
    cases hz : takeP m st z with
    | none => rw [hz] at h; cases h
    | some st' => rw [hz] at h; exact read_all r h
theorem read_stop {m : Nms} {y : Rs} {x : Ln} {rest : List Ln} (hx : takeP m y x = none) : ∀ (l : List Ln) {st : Rs}, takesP m st l = some y → readL m st (l ++ x :: rest) = (y, x.n)
  | [], st, h => by
    simp only [takesP, Option.some.injEq] at h
    subst h
    simp only [List.nil_append, readL, hx]
  | z :: r, st, h => by
    simp only [takesP, readL, List.cons_append] at h ⊢
    cases hz : takeP m st z with
    | none => rw [hz] at h; cases h
    | some st' => rw [hz] at h; exact read_stop hx r h

/-! ### In memory -/
theorem RdAt.mono {w : World} {B b mb n n' : Nat} {m : Nms} {x : Rs} (h : RdAt w B b mb m n x) (hn : n ≤ n') : RdAt w B b mb m n' x := by
  obtain ⟨cv, lv, h⟩ := h
  exact ⟨cv, lv, h.head, h.code, h.labs, h.map, h.lob, h.ln, Nat.le_trans h.lln hn⟩
theorem results_cc {fn : Func} {a b : Tmp} {ty ty2 : TypeId} (h : fn.results = #[.cell a ty, .cell b ty2]) {tmps : Array Value} {P : Program} {w : World} {ad ad2 : Addr} {v v2 : Value} (ha : tmps.getD a undef = .pointer (some ad)) (hv : (loadVar ty ad).run P w = .ok v w) (hb : tmps.getD b undef = .pointer (some ad2)) (hv2 : (loadVar ty2 ad2).run P w = .ok v2 w) :
    (results fn tmps).run P w = .ok (.tuple #[v, v2]) w := by
  unfold results
  rw [h]
  rw [Array.getD_eq_getD_getElem?] at ha hb
  simp [ha, hb, asAddr, hv, hv2, Result.andThen]

/-- The boxes of a reading: the two results', and the reader's. -/
structure RdBx (W : World) (q2 q3 q4 b : Nat) (r : Option Addr) (n : Nat) : Prop where
  r2 : Holds W q2 75 [.pointer r]
  r3 : Holds W q3 3 [.int .i64 n]
  r4 : Holds W q4 75 [.pointer (some ⟨b, 0, none⟩)]
theorem RdBx.same {W V : World} {q2 q3 q4 b : Nat} {r : Option Addr} {n : Nat} (h : RdBx W q2 q3 q4 b r n) {B : Nat} (hT : Tch (RdC B W) W V) : RdBx V q2 q3 q4 b r n :=
  ⟨RdC.holds hT h.r2 (by decide), RdC.holds hT h.r3 (by decide), RdC.holds hT h.r4 (by decide)⟩
theorem RdBx.own {q2 q3 q4 b n C : Nat} {r : Option Addr} (X Y : World) (row : Option Nat) (hs : RdBx X q2 q3 q4 b r n) (hg : X.grownBy Y row) (hr : ∀ k, row = some k → C ≤ k ∧ ∃ o, X.heap[k]? = some o ∧ o.isCells = false) : RdBx Y q2 q3 q4 b r n := by
  have cells : ∀ (k : Nat) (c : Array Value) (t : TypeId) (fr : Nat × Nat), X.heap[k]? = some (.cells c t fr) → Y.heap[k]? = X.heap[k]? := fun k c t fr hk => hg.block k (Array.getElem?_eq_some_iff.1 hk).1 (fun e => by
    obtain ⟨o, ho, hc⟩ := (hr k e.symm).2
    rw [hk] at ho; cases ho; cases hc)
  exact ⟨hs.r2.same (cells _ _ _ _ hs.r2), hs.r3.same (cells _ _ _ _ hs.r3), hs.r4.same (cells _ _ _ _ hs.r4)⟩
def RdI (w : World) (b mb q2 q3 q4 : Nat) (m : Nms) (pre : List Ln) (W : World) : Prop :=
  Below w.heap.size w W ∧ ∃ x, takesP m ⟨[], []⟩ pre = some x ∧ RdAt W w.heap.size b mb m pre.length x ∧ RdBx W q2 q3 q4 b none 0
def RdX (w : World) (b mb q2 q3 q4 : Nat) (m : Nms) (c : Code) (pre : List Ln) (W : World) : Prop :=
  Below w.heap.size w W ∧ c = .ret ∧ ∃ x pre' ln, pre = pre' ++ [ln] ∧ takesP m ⟨[], []⟩ pre' = some x ∧ takeP m x ln = none ∧ RdAt W w.heap.size b mb m pre.length x ∧ RdBx W q2 q3 q4 b (some ⟨b, 0, none⟩) ln.n
theorem below_own {w X Y : World} {row : Option Nat} {C : Nat} (h : Below w.heap.size w X) (hg : X.grownBy Y row) (hr : ∀ k, row = some k → C ≤ k ∧ ∃ o, X.heap[k]? = some o ∧ o.isCells = false) (hC : w.heap.size ≤ C) : Below w.heap.size w Y :=
  h.grown hg h.size (fun k e => Nat.le_trans hC (hr k e).1)
theorem rdI_own {w : World} {b mb q2 q3 q4 C : Nat} {m : Nms} (hC : w.heap.size ≤ C) (hmb : mb < C) : OwnFrom C (RdI w b mb q2 q3 q4 m) := fun pre X Y row hs hg hr => by
  obtain ⟨h1, x, h2, h3, h4⟩ := hs
  exact ⟨below_own h1 hg hr hC, x, h2, h3.own X Y row hg hr hmb, h4.own X Y row hg hr⟩
theorem rdX_own {w : World} {b mb q2 q3 q4 C : Nat} {m : Nms} (hC : w.heap.size ≤ C) (hmb : mb < C) (c : Code) : OwnFrom C (RdX w b mb q2 q3 q4 m c) := fun pre X Y row hs hg hr => by
  obtain ⟨h1, hc, x, pre', ln, e, h2, h2', h3, h4⟩ := hs
  exact ⟨below_own h1 hg hr hC, hc, x, pre', ln, e, h2, h2', h3.own X Y row hg hr hmb, h4.own X Y row hg hr⟩
theorem loadI {w : World} {q : Nat} {v : Value} (h : Holds w q 3 [v]) : (loadVar 3 ⟨q, 0, none⟩).run Tryz.prog w = .ok v w := by
  have := h.cell (i := 0) rfl
  go_simp
theorem loadR {w : World} {q : Nat} {v : Value} (h : Holds w q 75 [v]) : (loadVar 75 ⟨q, 0, none⟩).run Tryz.prog w = .ok v w := by
  have := h.cell (i := 0) rfl
  go_simp

theorem RdBx.turned {W : World} {q2 q3 q4 b B mb n v : Nat} {m : Nms} {x : Rs} (h : RdBx W q2 q3 q4 b none 0) (hr : RdAt W B b mb m n x) (h42 : q4 ≠ q2) :
    RdAt ((W.setCell ⟨q2, 0, none⟩ (.pointer (some ⟨b, 0, none⟩))).setCell ⟨q3, 0, none⟩ (.int .i64 (v : Int))) B b mb m n x ∧ RdBx ((W.setCell ⟨q2, 0, none⟩ (.pointer (some ⟨b, 0, none⟩))).setCell ⟨q3, 0, none⟩ (.int .i64 (v : Int))) q2 q3 q4 b (some ⟨b, 0, none⟩) v := by
  obtain ⟨cv, lv, hr⟩ := hr
  have n32 : ¬ q3 = q2 := h.r3.ne h.r2 (by decide)
  have n43 : ¬ q4 = q3 := h.r4.ne h.r3 (by decide)
  have n2 : ∀ c, W.heap[q2]? = some (.cells c 81 (0, 0)) ∨ W.heap[q2]? = some (.cells c 43 (0, 0)) ∨ W.heap[q2]? = some (.cells c 143 (0, 0)) → False := fun c h' => by
    have := h.r2; unfold Holds at this; rw [this] at h'
    rcases h' with h' | h' | h' <;> cases h'
  have n3 : ∀ c, W.heap[q3]? = some (.cells c 81 (0, 0)) ∨ W.heap[q3]? = some (.cells c 43 (0, 0)) ∨ W.heap[q3]? = some (.cells c 143 (0, 0)) → False := fun c h' => by
    have := h.r3; unfold Holds at this; rw [this] at h'
    rcases h' with h' | h' | h' <;> cases h'
  have keep : ∀ k, k ≠ q2 → k ≠ q3 → ((W.setCell ⟨q2, 0, none⟩ (.pointer (some ⟨b, 0, none⟩))).setCell ⟨q3, 0, none⟩ (.int .i64 (v : Int))).heap[k]? = W.heap[k]? := fun k h1 h2 => (Below.heap_setCell _ ⟨q3, 0, none⟩ _ k h2).trans (Below.heap_setCell W ⟨q2, 0, none⟩ _ k h1)
  refine ⟨⟨cv, lv, ?_, ?_, ?_, ?_, hr.lob, hr.ln, hr.lln⟩, ?_, ?_, ?_⟩
  · exact hr.head.same (keep b (fun e => n2 _ (.inl (e ▸ hr.head))) (fun e => n3 _ (.inl (e ▸ hr.head))))
  · exact owns_same hr.code (fun g e => keep g (fun e2 => by obtain ⟨c, hc⟩ := owns_kind hr.code e; exact n2 c (.inr (.inl (e2 ▸ hc)))) (fun e2 => by obtain ⟨c, hc⟩ := owns_kind hr.code e; exact n3 c (.inr (.inl (e2 ▸ hc)))))
  · exact owns_same hr.labs (fun g e => keep g (fun e2 => by obtain ⟨c, hc⟩ := owns_kind hr.labs e; exact n2 c (.inr (.inr (e2 ▸ hc)))) (fun e2 => by obtain ⟨c, hc⟩ := owns_kind hr.labs e; exact n3 c (.inr (.inr (e2 ▸ hc)))))
  · exact hr.map.same (keep mb (Ne.symm (hr.map.ne h.r2)) (Ne.symm (hr.map.ne h.r3)))
  · exact (h.r2.set 0 _).other (p := ⟨q3, 0, none⟩) (fun e => n32 e.symm) _
  · exact (h.r3.other (p := ⟨q2, 0, none⟩) n32 _).set 0 _
  · exact (h.r4.other (p := ⟨q2, 0, none⟩) h42 _).other (p := ⟨q3, 0, none⟩) n43 _
/-- What a reading answers. -/
def ReadO (tx : By) (w : World) (e : Ending) (w' : World) : Prop := ∃ b mb, (e = .returned (.tuple #[.pointer (some ⟨b, 0, none⟩), .int .i64 (readP tx).2]) ∧ RdAt w' w.heap.size b mb (namesP tx) 1000000 (readP tx).1) ∧ Below w.heap.size w w'
/-- The way out. -/
theorem rd_leave {w W : World} {b mb q2 q3 q4 D v k : Nat} {tx : By} {y : Rs} {tmps : Array Value} (t2 : tmps.getD 2 undef = .pointer (some ⟨q2, 0, none⟩)) (t3 : tmps.getD 3 undef = .pointer (some ⟨q3, 0, none⟩)) (hD : W.heap[D]? = some (.deferred (some []))) (hmb : mb < D) (hw : w.heap.size ≤ D) (hb : Below w.heap.size w W) (hr : RdAt W w.heap.size b mb (namesP tx) k y) (hk : k ≤ 1000000) (hbx : RdBx W q2 q3 q4 b (some ⟨b, 0, none⟩) v) (hra : readP tx = (y, v)) {N : Nat} :
    LeavesInM Fence.wide N Tryz.prog Tryz.f27 tmps (ReadO tx w) [{ target := .collected D, args := #[] }] .returning W := by
  have hg : W.grownBy (W.putObj D (.deferred none)) (some D) := grownBy_putObj' W D _
  have hrow : ∀ r, some D = some r → D ≤ r ∧ ∃ o, W.heap[r]? = some o ∧ o.isCells = false := fun r e => by cases e; exact ⟨Nat.le_refl _, _, hD, rfl⟩
  have h1 := hr.own _ _ _ hg hrow hmb
  have h2 := hbx.own _ _ _ hg hrow
  have h3 := below_own hb hg hrow hw
  exact leaves_mark hD ⟨_, results_cc rfl t2 (loadR h2.r2) t3 (loadI h2.r3), b, mb, by rw [hra]; exact ⟨rfl, h1.mono hk⟩, h3⟩

end Go.Proofs.YteijhcibdglkeaaGreatDoor
