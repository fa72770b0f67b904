/- What lies in memory in the midst of reading a history. Conditions: those stated in each theorem. -/
import Derived.Test.YtgjbhcnadenojaaHisM
import Derived.Test.YtgjbhcnadenojaaSepI
namespace Go.Proofs.Ytgjbhcnadenojaa
open Go.RowKit Go.BigFrame Go.Maps

/-- A map. -/
def mapP (e : TypeId) (q : IntKind) (b n : Nat) (f : Mp) : Part where
  at_ w S := MpAt w e q b n f ∧ S b
  frame := fun h ht hC => ⟨h.1.same (ht.block b h.1.lt (hC b h.2)), h.2⟩
  more := fun h hT => ⟨h.1, hT _ h.1.lt h.2⟩
theorem mapP.grew {w w' : World} {T : Nat → Prop} {e : TypeId} {q : IntKind} {b n m : Nat} {f f' : Mp} (h : (mapP e q b n f).at_ w T) (hm : MpAt w' e q b m f') (hg : w.grownBy w' (some b)) : (mapP e q b m f').out w T w' :=
  ⟨⟨hm, .inl h.2⟩, (Tch.refl T w).grown hg (fun k e => by cases e; exact .inl h.2)⟩
theorem mapP.new (w : World) (e : TypeId) (q : IntKind) : (mapP e q w.heap.size 0 Mp.none).at_ (w.alloc (.map #[] 0)) (fun k => w.heap.size ≤ k ∧ k < (w.alloc (.map #[] 0)).heap.size) :=
  ⟨MpAt.made w e q, Nat.le_refl _, by simp⟩

/-- An attempt, and where its lists lie. -/
structure KC where
  k : Kn
  lv : Value
  lb : Nat
  sv : Value
  sb : Nat
def KC.cells (x : KC) : List Value := [.int .i64 x.k.co, .int .i64 x.k.bl, .int .i64 x.k.tr, .int .i64 x.k.la, .int .i64 x.k.fr, .int .i64 x.k.pt, .int .i64 x.k.to_, x.lv, x.sv, .bool x.k.com, .int .i64 x.k.cd, .map (some x.lb), .map (some x.sb), .bool x.k.odd]
def flatK (l : List KC) : List Value := l.flatMap KC.cells
theorem flatK_length (l : List KC) : (flatK l).length = 14 * l.length := by
  induction l with
  | nil => rfl
  | cons x l ih => simp only [flatK, List.flatMap_cons, List.length_append, List.length_cons] at *; simp only [KC.cells, List.length_cons, List.length_nil]; omega
theorem flatK_at {l : List KC} {i : Nat} {x : KC} (h : l[i]? = some x) {j : Nat} {v : Value} (hv : x.cells[j]? = some v) : (flatK l)[i * 14 + j]? = some v := by
  have hj : j < 14 := (List.getElem?_eq_some_iff.1 hv).1
  induction l generalizing i with
  | nil => simp at h
  | cons y l ih =>
    cases i with
    | zero => simp at h; subst h; simp only [flatK, List.flatMap_cons]; rw [List.getElem?_append_left (by rw [Nat.zero_mul, Nat.zero_add]; exact hj), Nat.zero_mul, Nat.zero_add]; exact hv
    | succ i =>
      simp at h
      have := ih h
      simp only [flatK, List.flatMap_cons]
      rw [List.getElem?_append_right (by simp [KC.cells]; omega), show (i + 1) * 14 + j - y.cells.length = i * 14 + j from by simp [KC.cells]; omega]
      exact this
theorem flatK_set {l : List KC} {i : Nat} {x y : KC} (h : l[i]? = some x) {j : Nat} {v : Value} (hj : j < 14) (hv : x.cells.set j v = y.cells) : (flatK l).set (i * 14 + j) v = flatK (l.set i y) := by
  induction l generalizing i with
  | nil => simp at h
  | cons z l ih =>
    cases i with
    | zero =>
      simp at h; subst h
      simp only [flatK, List.flatMap_cons, List.set_cons_zero]
      rw [Nat.zero_mul, Nat.zero_add, List.set_append_left _ _ (by exact hj), hv]
    | succ i =>
      simp at h
      have := ih h
      simp only [flatK, List.flatMap_cons, List.set_cons_succ] at this ⊢
      rw [List.set_append_right _ _ (by simp [KC.cells]; omega), show (i + 1) * 14 + j - z.cells.length = i * 14 + j from by simp [KC.cells]; omega, this]
theorem flatK_snoc (l : List KC) (x : KC) : flatK (l ++ [x]) = flatK l ++ x.cells := by simp [flatK]

/-- The parts' names. -/
inductive Ix where
  | sto | att | pl | op | ldr (i : Nat) | ldm (i : Nat) | str (i : Nat) | stm (i : Nat) | aux (i : Nat)
deriving DecidableEq
/-- What lies there. -/
structure SC where
  p : Nat
  ev : Value
  va : Value
  l : List KC
  vp : Value
  pl : List Int
  bo : Nat
  n : Nat
  o : Mp
  ex : Nat → Option Part
def ldrP (x : KC) : Part := rowP x.lv 48 2 x.k.ld.length (flatP x.k.ld)
def ldmP (x : KC) : Part := mapP 3 .i64 x.lb x.k.ld.length (plOf x.k.ld)
def strP (x : KC) : Part := rowP x.sv 48 2 x.k.st.length (flatP x.k.st)
def stmP (x : KC) : Part := mapP 3 .i64 x.sb x.k.st.length (plOf x.k.st)
def SC.pf (c : SC) : Ix → Option Part
  | .sto => some (cellsP c.p 75 [c.ev, c.va, c.vp])
  | .att => some (rowP c.va 78 14 c.l.length (flatK c.l))
  | .pl => some (rowP c.vp 3 1 c.pl.length (c.pl.map (.int .i64)))
  | .op => some (mapP 3 .i64 c.bo c.n c.o)
  | .ldr i => c.l[i]?.map ldrP
  | .ldm i => c.l[i]?.map ldmP
  | .str i => c.l[i]?.map strP
  | .stm i => c.l[i]?.map stmP
  | .aux i => c.ex i

/-- Cells, that may be written. -/
def CellsAt (w : World) (g off : Nat) (L : List Value) : Prop := ∀ j v, L[j]? = some v → w.cell? ⟨g, off + j, none⟩ = some v ∧ w.frozen? ⟨g, off + j, none⟩ = false
theorem CellsAt.c {w : World} {g off : Nat} {L : List Value} (h : CellsAt w g off L) (j : Nat) {v : Value} (hv : L[j]? = some v) : w.cell? ⟨g, off + j, none⟩ = some v := (h j v hv).1

section
variable {w0 w : World} {c : SC} {i g : Nat} {x : KC}
theorem SC.cells (h : Ap w0 w c.pf) (hx : c.l[i]? = some x) (hg : c.va.ownBlock = some g) : CellsAt w g (i * 14) x.cells := fun j v hv => by
  obtain ⟨T, ⟨h1, _⟩, _⟩ := h.get (i := .att) rfl
  exact owns_cell h1 hg (flatK_at hx hv)
theorem SC.va_form (h : Ap w0 w c.pf) (hx : c.l[i]? = some x) : ∃ g cap, c.va = .slice (some ⟨g, 0, none⟩) c.l.length cap := by
  obtain ⟨T, ⟨h1, _⟩, _⟩ := h.get (i := .att) rfl
  have := (List.getElem?_eq_some_iff.1 hx).1
  obtain ⟨g, cap, e, _⟩ := h1.form (by omega)
  exact ⟨g, cap, e⟩
theorem SC.ldm (h : Ap w0 w c.pf) (hx : c.l[i]? = some x) : MpAt w 3 .i64 x.lb x.k.ld.length (plOf x.k.ld) := by
  obtain ⟨T, ⟨h1, _⟩, _⟩ := h.get (i := .ldm i) (P := ldmP x) (by simp [SC.pf, hx])
  exact h1
theorem SC.stm (h : Ap w0 w c.pf) (hx : c.l[i]? = some x) : MpAt w 3 .i64 x.sb x.k.st.length (plOf x.k.st) := by
  obtain ⟨T, ⟨h1, _⟩, _⟩ := h.get (i := .stm i) (P := stmP x) (by simp [SC.pf, hx])
  exact h1
theorem SC.ldr (h : Ap w0 w c.pf) (hx : c.l[i]? = some x) : w.ownsRow 0 48 2 x.lv x.k.ld.length (flatP x.k.ld) := by
  obtain ⟨T, ⟨h1, _⟩, _⟩ := h.get (i := .ldr i) (P := ldrP x) (by simp [SC.pf, hx])
  exact h1
theorem SC.str (h : Ap w0 w c.pf) (hx : c.l[i]? = some x) : w.ownsRow 0 48 2 x.sv x.k.st.length (flatP x.k.st) := by
  obtain ⟨T, ⟨h1, _⟩, _⟩ := h.get (i := .str i) (P := strP x) (by simp [SC.pf, hx])
  exact h1
theorem SC.sto (h : Ap w0 w c.pf) : Holds w c.p 75 [c.ev, c.va, c.vp] := by
  obtain ⟨T, ⟨h1, _⟩, _⟩ := h.get (i := .sto) rfl
  exact h1
theorem SC.op (h : Ap w0 w c.pf) : MpAt w 3 .i64 c.bo c.n c.o := by
  obtain ⟨T, ⟨h1, _⟩, _⟩ := h.get (i := .op) rfl
  exact h1
/-- One attempt's numbers are turned: a store into its cells. -/
theorem SC.setK (h : Ap w0 w c.pf) (hx : c.l[i]? = some x) (hg : c.va.ownBlock = some g) {j : Nat} (hj : j < 14) (v : Value) {y : KC} (hv : x.cells.set j v = y.cells) (h1 : ldrP y = ldrP x) (h2 : ldmP y = ldmP x) (h3 : strP y = strP x) (h4 : stmP y = stmP x) :
    Ap w0 (w.setCell ⟨g, i * 14 + j, none⟩ v) { c with l := c.l.set i y }.pf := by
  obtain ⟨g', cap, e⟩ := SC.va_form h hx
  rw [e] at hg
  cases hg
  obtain ⟨T, k1, _, k3⟩ := h.turn (i := .att) rfl
  rw [e] at k1
  have k4 := k3 _ _ (rowP.set k1 (i * 14 + j) v)
  obtain ⟨hil, hix⟩ := List.getElem?_eq_some_iff.1 hx
  refine k4.cong (fun m => ?_)
  rw [flatK_set hx hj hv]
  cases m <;> simp only [SC.pf, upd, reduceCtorEq, if_false, if_true, List.length_set, e, List.getElem?_set]
  all_goals
    split
    · rename_i hm; subst hm; simp [hil, hix, h1, h2, h3, h4]
    · rfl
/-- One box more. -/
def updN (ex : Nat → Option Part) (n : Nat) (P : Option Part) : Nat → Option Part := fun m => if m = n then P else ex m
theorem SC.box (h : Ap w0 w c.pf) (n : Nat) (t : TypeId) (L : List Value) : Ap w0 (w.alloc (.cells L.toArray t)) { c with ex := updN c.ex n (some (cellsP w.heap.size t L)) }.pf := by
  have h1 : Ap w0 w { c with ex := updN c.ex n none }.pf := h.less (fun j => by
    cases j <;> simp only [SC.pf, true_or]
    unfold updN; split
    · exact .inr rfl
    · exact .inl rfl)
  have h2 := h1.push (i := .aux n) (P := cellsP w.heap.size t L) (by simp [SC.pf, updN]) ((Below.refl _ w).alloc (Nat.le_refl _) _) (cellsP.new w t L)
  refine h2.cong (fun m => ?_)
  cases m <;> simp only [SC.pf, upd, reduceCtorEq, if_false, Ix.aux.injEq]
  unfold updN; split
  · rfl
  · rfl
theorem SC.unbox (n : Nat) {P : Option Part} (h : Ap w0 w { c with ex := updN c.ex n P }.pf) (hn : c.ex n = none) : Ap w0 w c.pf := h.less (fun j => by
  cases j <;> simp only [SC.pf, true_or]
  unfold updN; split
  · rename_i hj; subst hj; exact .inr hn
  · exact .inl rfl)
theorem SC.aux {n b : Nat} {t : TypeId} {L : List Value} (h : Ap w0 w c.pf) (he : c.ex n = some (cellsP b t L)) : Holds w b t L := by
  obtain ⟨T, ⟨h1, _⟩, _⟩ := h.get (i := Ix.aux n) (P := cellsP b t L) (show c.pf (Ix.aux n) = _ from he)
  exact h1
end

end Go.Proofs.Ytgjbhcnadenojaa
