/- A writer of a code: in memory, and as a plain machine. Conditions: those stated in each theorem. -/
import Derived.Test.YthjbcpgncnchoaaIsaP
import Derived.Maps.OwnSet
namespace Go.Proofs.Ythjbcpgncnchoaa
open Go.RowKit Go.BigFrame Go.Maps Go.ChangeMaps

theorem Try.keyS : Keyed Try.prog 9 := string_keyed Try.underlying9
theorem Try.zeroI (w : World) : (zeroValue 3).run Try.prog w = .ok (.int .i64 0) w := by kernel_rfl

/-! ### Names and places -/
abbrev Nm := List UInt8
@[reducible] def Nm.val (s : Nm) : Value := .string ⟨s.toArray⟩
abbrev Sp := Nm → Option Int
def Sp.none : Sp := fun _ => .none
def Sp.put (f : Sp) (s : Nm) (v : Int) : Sp := fun k => if k = s then some v else f k
theorem keyStr (s : Nm) (h : s.length ≤ 100) : keyOf Try.prog 9 s.val = some (.string s) := by
  rw [keyOf_string Try.underlying9]
  simp only [mapKey, Try.underlying9, Nm.val, ByteArray.size, List.size_toArray]
  rw [if_pos (by unfold maxLen; omega)]

/-- The datum says what the function says. -/
def IsSp (D : DataW Unit) (f : Sp) : Prop :=
  IsMap D ∧ ∀ s : Nm, Maps.has D (.string s) = (f s).isSome ∧ ∀ v, f s = some v → ∀ z, D.atKey (.string s) z = .lit (.int .i64 v)
theorem isSp_none : IsSp (.map []) Sp.none := ⟨isMap_empty, fun _ => ⟨rfl, fun _ h => by cases h⟩⟩
theorem IsSp.put {D : DataW Unit} {f : Sp} (h : IsSp D f) (s : Nm) (v : Int) : IsSp (D.put (.string s) (.lit (.int .i64 v))) (f.put s v) := by
  refine ⟨h.1.put _ _, fun b => ?_⟩
  unfold Sp.put
  by_cases hb : b = s
  · subst hb
    rw [if_pos rfl]
    exact ⟨has_put_same h.1 (by simp [WideAt.IsKeyLit]) _, fun k hk z => by cases hk; exact atKey_put_same h.1 (by simp [WideAt.IsKeyLit]) _ _⟩
  · have hne : (Lit.string b) ≠ Lit.string s := fun e => hb (by cases e; rfl)
    rw [if_neg hb, has_put_other hne]
    exact ⟨(h.2 b).1, fun k hk z => by rw [atKey_put_other hne]; exact (h.2 b).2 k hk z⟩

/-- A map of at most n entries. -/
def SpAt (w : World) (b n : Nat) (f : Sp) : Prop := ∃ D, w.ownsMap Try.prog 9 (plainElem (H := Unit) Try.prog 3) b n D ∧ IsSp D f
section
variable {w w' : World} {b n : Nat} {f : Sp}
theorem SpAt.same (h : SpAt w b n f) (k : w'.heap[b]? = w.heap[b]?) : SpAt w' b n f := by
  obtain ⟨D, ⟨es, clock, hb, r⟩, h2⟩ := h
  exact ⟨D, ⟨es, clock, k.trans hb, r⟩, h2⟩
theorem SpAt.obj (h : SpAt w b n f) : ∃ es clock, w.heap[b]? = some (.map es clock) := by
  obtain ⟨D, ⟨es, clock, hb, r⟩, h2⟩ := h
  exact ⟨_, _, hb⟩
theorem SpAt.lt (h : SpAt w b n f) : b < w.heap.size := by obtain ⟨_, _, h⟩ := h.obj; exact (Array.getElem?_eq_some_iff.1 h).1
theorem SpAt.ne {c : Nat} (h : SpAt w b n f) {cs : Array Value} {t : TypeId} {fr : Nat × Nat} (hc : w.heap[c]? = some (.cells cs t fr)) : c ≠ b := by
  obtain ⟨_, _, h⟩ := h.obj
  rintro rfl
  rw [h] at hc; cases hc
theorem SpAt.made (w : World) : SpAt (w.alloc (.map #[] 0)) w.heap.size 0 Sp.none := ⟨_, World.ownsMap_made w _ _ _, isSp_none⟩
theorem SpAt.more {m : Nat} (h : SpAt w b n f) (hm : n ≤ m) : SpAt w b m f := by
  obtain ⟨D, ⟨es, clock, hb, r, r2, r3⟩, h2⟩ := h
  exact ⟨D, ⟨es, clock, hb, r, Nat.le_trans r2 hm, r3⟩, h2⟩
theorem SpAt.run (h : SpAt w b n f) {s : Nm} (hs : s.length ≤ 100) :
    (Instr.lookup 90 (.map (some b)) s.val false).run Try.prog w = .ok (.int .i64 ((f s).getD 0)) w := by
  obtain ⟨D, h1, h2⟩ := h
  obtain ⟨c, hrun, hc, _⟩ := h1.lookup_int Try.keyS Try.underlying90 Try.underlying3 (Try.zeroI w) (keyStr s hs)
  rw [hrun]
  cases hf : f s with
  | some v =>
    rw [(h2.2 s).2 v hf] at hc
    cases hc
    rfl
  | none =>
    have hh := (h2.2 s).1
    rw [hf] at hh
    rw [atKey_of_not_has hh] at hc
    cases hc
    rfl
end
section
variable {w : World} {ops : Array Oper} {rest : List Oper} {o : Oper} {a : Act} {Q : Exit → Act → World → Prop}
theorem sp_put (hg : o.guard = none) (m x v : Operand) (hop : o.op = Op.mapUpdate 90 m x v) (b n : Nat) (f : Sp) (s : Nm) (va : Int) (hm : a.eval m = .map (some b)) (hx : a.eval x = s.val) (hv : a.eval v = .int .i64 va) (h : SpAt w b n f) (hs : s.length ≤ 100) (hwv : (Lit.int .i64 va).wf = true) (hn : n < maxLen)
    (hK : ∀ w', SpAt w' b (n + 1) (f.put s va) → w.grownBy w' (some b) → wpList Try.prog ops Q rest (a.put o.dst undef) w') : wpList Try.prog ops Q (o :: rest) a w := by
  obtain ⟨D, h1, h2⟩ := h
  refine wpList_mapUpdate_own w hg m x v 90 hop 9 3 Try.keyS Try.underlying90 _ b n D hm h1 hn _ _ _ hx hv (keyStr s hs) (.lit (.int .i64 va)) [] (plainElem_int Try.underlying3 hwv) ?_
  intro w' k1 k2
  exact hK w' ⟨_, k1, h2.put s va⟩ k2
end

/-! ### Rows -/
theorem Try.infoIn : (Try.prog.info? 40).map (fun i => (i.zero, i.size, i.bytes)) = some (some (.agg #[.int .i64 0, .int .i64 0, .int .i64 0, .int .i64 0, .int .i64 0]), 5, 40) := by kernel_rfl
theorem Try.infoGo : (Try.prog.info? 95).map (fun i => (i.zero, i.size, i.bytes)) = some (some (.agg #[.int .i64 0, .string ⟨#[]⟩]), 2, 24) := by kernel_rfl
def flatI (l : List In) : List Value := l.flatMap In.cells
theorem flatI_len : ∀ (l : List In), (flatI l).length = l.length * 5
  | [] => rfl
  | x :: r => by
    have := flatI_len r
    unfold flatI at this ⊢
    rw [List.flatMap_cons, List.length_append, this, List.length_cons]
    simp [In.cells]; omega
theorem flatI_snoc (l : List In) (x : In) : flatI (l ++ [x]) = flatI l ++ x.cells := by simp [flatI]
/-- An instruction that goes to a name's place: where it stands, and the name. -/
abbrev Gn := Int × Nm
def Gn.cells (g : Gn) : List Value := [.int .i64 g.1, g.2.val]
def flatG (l : List Gn) : List Value := l.flatMap Gn.cells
theorem flatG_snoc (l : List Gn) (x : Gn) : flatG (l ++ [x]) = flatG l ++ Gn.cells x := by simp [flatG]

/-! ### The writer -/
/-- A pool. -/
structure Pl where
  base : Int
  roots : Int
  width : Int
  many : Int
def Pl.cells (p : Pl) : List Value := [.int .i64 p.base, .int .i64 p.roots, .int .i64 p.width, .int .i64 p.many]
@[reducible] def Pl.val (p : Pl) : Value := .agg #[.int .i64 p.base, .int .i64 p.roots, .int .i64 p.width, .int .i64 p.many]
/-- One that may be. -/
structure Pl.Ok (p : Pl) : Prop where
  b0 : 0 ≤ p.base
  b1 : p.base ≤ 504
  r0 : 0 ≤ p.roots
  r1 : p.roots ≤ 64
  w0 : 1 ≤ p.width
  w1 : p.width ≤ 4
  m0 : 1 ≤ p.many
  m1 : p.many ≤ 504
/-- What a writer has. -/
structure WV where
  code : List In
  pl : Sp
  go : List Gn
def WV.new : WV := ⟨[], Sp.none, []⟩
def WV.add (x : WV) (i : In) : WV := { x with code := x.code ++ [i] }
def WV.name (x : WV) (s : Nm) : WV := { x with pl := x.pl.put s x.code.length }
def WV.bra (x : WV) (op a b : Int) (s : Nm) : WV := { x with go := x.go ++ [((x.code.length : Int), s)], code := x.code ++ [⟨op, a, b, 0, 0⟩] }

structure WPt (w : World) (B : Nat) (P : Pl) (N b : Nat) (x : WV) (cv gv : Value) (mb : Nat) : Prop where
  head : Holds w b 93 (P.cells ++ [cv, .map (some mb), gv])
  code : w.ownsRow 0 40 5 cv x.code.length (flatI x.code)
  goes : w.ownsRow 0 95 2 gv x.go.length (flatG x.go)
  map : SpAt w mb N x.pl
  lob : B ≤ b
  lom : B ≤ mb
  loc : ∀ g, cv.ownBlock = some g → B ≤ g
  log : ∀ g, gv.ownBlock = some g → B ≤ g
  ln : x.code.length ≤ N
  gn : x.go.length ≤ N
/-- Block b holds a writer, whose blocks are from B on; N bounds what it has. -/
def WAt (w : World) (B : Nat) (P : Pl) (N b : Nat) (x : WV) : Prop := ∃ cv gv mb, WPt w B P N b x cv gv mb

/-- From w0 on nothing below B has turned, nor a block of another kind; the writer is x. -/
structure WO (B : Nat) (P : Pl) (N : Nat) (w0 w : World) (b : Nat) (x : WV) : Prop where
  at_ : WAt w B P N b x
  below : Below B w0 w
  keep : ∀ (c : Nat) (t : TypeId) (L : List Value), Holds w0 c t L → t ≠ 93 → t ≠ 40 → t ≠ 95 → Holds w c t L

section
variable {w w' w0 : World} {B N M b : Nat} {P : Pl} {x y : WV} {cv gv : Value} {mb : Nat}
theorem WPt.lt (h : WPt w B P N b x cv gv mb) : B < w.heap.size := Nat.lt_of_le_of_lt h.lob h.head.lt
theorem WAt.lt (h : WAt w B P N b x) : B < w.heap.size := by obtain ⟨_, _, _, h⟩ := h; exact h.lt
theorem WAt.blt (h : WAt w B P N b x) : b < w.heap.size := by obtain ⟨_, _, _, h⟩ := h; exact h.head.lt
theorem WAt.idle (h : WAt w B P N b x) (hb : Below w.heap.size w w') : WAt w' B P N b x := by
  obtain ⟨cv, gv, mb, h⟩ := h
  exact ⟨cv, gv, mb, h.head.below hb, owns_same h.code (fun g e => hb.block g (owns_lt h.code e).2), owns_same h.goes (fun g e => hb.block g (owns_lt h.goes e).2), h.map.same (hb.block mb h.map.lt), h.lob, h.lom, h.loc, h.log, h.ln, h.gn⟩
theorem WAt.more (h : WAt w B P N b x) (hM : N ≤ M) : WAt w B P M b x := by
  obtain ⟨cv, gv, mb, h⟩ := h
  exact ⟨cv, gv, mb, h.head, h.code, h.goes, h.map.more hM, h.lob, h.lom, h.loc, h.log, Nat.le_trans h.ln hM, Nat.le_trans h.gn hM⟩
/-- The pool's cells. -/
theorem WAt.pool (h : WAt w B P N b x) : w.cell? ⟨b, 0, none⟩ = some (.int .i64 P.base) ∧ w.cell? ⟨b, 1, none⟩ = some (.int .i64 P.roots) ∧ w.cell? ⟨b, 2, none⟩ = some (.int .i64 P.width) ∧ w.cell? ⟨b, 3, none⟩ = some (.int .i64 P.many) := by
  obtain ⟨cv, gv, mb, h⟩ := h
  exact ⟨h.head.cell (i := 0) rfl, h.head.cell (i := 1) rfl, h.head.cell (i := 2) rfl, h.head.cell (i := 3) rfl⟩
theorem WO.refl (h : WAt w B P N b x) : WO B P N w w b x := ⟨h, Below.refl _ _, fun _ _ _ h _ _ _ => h⟩
theorem WO.trans (h : WO B P N w0 w b x) (k : WO B P M w w' b y) : WO B P M w0 w' b y :=
  ⟨k.at_, h.below.trans (k.below.mono (Nat.le_refl _)), fun c t L hc h1 h2 h3 => k.keep c t L (h.keep c t L hc h1 h2 h3) h1 h2 h3⟩
theorem WO.idle (h : WO B P N w0 w b x) (hb : Below w.heap.size w w') : WO B P N w0 w' b x :=
  ⟨h.at_.idle hb, h.below.trans (hb.mono (Nat.le_of_lt h.at_.lt)), fun c t L hc h1 h2 h3 => (h.keep c t L hc h1 h2 h3).below hb⟩
theorem WO.more (h : WO B P N w0 w b x) (hM : N ≤ M) : WO B P M w0 w b x := ⟨h.at_.more hM, h.below, h.keep⟩
theorem WO.drew (h : WO B P N w0 w b x) : WO B P N w0 w.drew b x := h.idle (below_drew1 (Below.refl _ _))
theorem WO.drewN (h : WO B P N w0 w b x) (n : Nat) : WO B P N w0 (w.drewN n) b x := h.idle (below_drewN (Below.refl _ _) n)
theorem WO.alloc (h : WO B P N w0 w b x) (o : Obj) : WO B P N w0 (w.alloc o) b x := h.idle ((Below.refl _ w).alloc (Nat.le_refl _) _)
theorem WO.pool (h : WO B P N w0 w b x) : w.cell? ⟨b, 0, none⟩ = some (.int .i64 P.base) ∧ w.cell? ⟨b, 1, none⟩ = some (.int .i64 P.roots) ∧ w.cell? ⟨b, 2, none⟩ = some (.int .i64 P.width) ∧ w.cell? ⟨b, 3, none⟩ = some (.int .i64 P.many) := h.at_.pool
/-- What a writer turns: its own four blocks. -/
theorem WO.turned (h : WPt w B P N b x cv gv mb) (ht : Tch (fun k => k = b ∨ k = mb ∨ cv.ownBlock = some k ∨ gv.ownBlock = some k) w w') (k : WAt w' B P M b y) : WO B P M w w' b y := by
  refine ⟨k, ht.below (Nat.le_of_lt h.lt) (fun k e => ?_), fun c t L hc h1 h2 h3 => ht.holds (fun e => ?_) hc⟩
  · rcases e with e | e | e | e
    · exact e ▸ h.lob
    · exact e ▸ h.lom
    · exact h.loc k e
    · exact h.log k e
  · rcases e with e | e | e | e
    · subst e; exact hc.ne h.head h1 rfl
    · subst e; exact h.map.ne hc rfl
    · obtain ⟨d, hd⟩ := owns_kind h.code e
      unfold Holds at hc; rw [hc] at hd; cases hd; exact h2 rfl
    · obtain ⟨d, hd⟩ := owns_kind h.goes e
      unfold Holds at hc; rw [hc] at hd; cases hd; exact h3 rfl
end

end Go.Proofs.Ythjbcpgncnchoaa
