/- A program's parts, in memory. Conditions: those stated in each theorem. -/
import Derived.Test.YtehnailokgoekaaDoorFlwD
import Derived.Test.YtehnailokgoekaaDoorFlwE
import Derived.Deep.RegionHeld3
namespace Go.Proofs.YtehnailokgoekaaDoor
open Go.RowKit Go.BigFrame Go.Shelf
attribute [local go_sem] Oper.semAt_some
attribute [local simp] wide_fn

theorem wpIn_noPanic {F : Fence} {m : Nat} {P : Program} {c : Code} {Q : Exit → Act → World → Prop} {A : Act} {w : World} (h : c.wpIn F m P (NoPanic Q) A w) : c.wpIn F m P Q A w := wpIn_mono h NoPanic.imp
/-- A part in memory: its borders, and the slice of what comes behind it. -/
structure PV where
  lo : Nat
  hi : Nat
  nv : Value
def PV.cells (x : PV) : List Value := [.int .i64 (x.lo : Nat), .int .i64 (x.hi : Nat), x.nv]
def flatV (l : List PV) : List Value := l.flatMap PV.cells
theorem flatV_len : ∀ (l : List PV), (flatV l).length = l.length * 3
  | [] => rfl
  | x :: xs => by
    have := flatV_len xs
    unfold flatV at *
    rw [List.flatMap_cons, List.length_append, this, List.length_cons]
    simp [PV.cells]; omega
theorem flatV_snoc (l : List PV) (x : PV) : flatV (l ++ [x]) = flatV l ++ x.cells := by simp [flatV]
theorem flatV_at : ∀ (l : List PV) (k j : Nat) (x : PV), l[k]? = some x → j < 3 → (flatV l)[k * 3 + j]? = x.cells[j]?
  | [], _, _, _, h, _ => by simp at h
  | y :: l, 0, j, x, h, hj => by
    simp at h; subst h
    simp only [flatV, List.flatMap_cons, Nat.zero_mul, Nat.zero_add]
    rw [List.getElem?_append_left (by simp [PV.cells]; omega)]
  | y :: l, k + 1, j, x, h, hj => by
    have := flatV_at l k j x (by simpa using h) hj
    simp only [flatV, List.flatMap_cons] at this ⊢
    rw [List.getElem?_append_right (by simp [PV.cells]; omega)]
    rw [← this]
    congr 1
    simp [PV.cells]; omega
theorem flatV_set : ∀ (l : List PV) (k j : Nat) (x y : PV) (u : Value), l[k]? = some x → j < 3 → y.cells = x.cells.set j u → flatV (l.set k y) = (flatV l).set (k * 3 + j) u
  | [], _, _, _, _, _, h, _, _ => by simp at h
  | z :: l, 0, j, x, y, u, h, hj, he => by
    simp at h; subst h
    simp only [flatV, List.set_cons_zero, List.flatMap_cons, Nat.zero_mul, Nat.zero_add, he]
    rw [List.set_append_left _ _ (by simp [PV.cells]; omega)]
  | z :: l, k + 1, j, x, y, u, h, hj, he => by
    have := flatV_set l k j x y u (by simpa using h) hj he
    simp only [flatV, List.set_cons_succ, List.flatMap_cons] at this ⊢
    rw [this, List.set_append_right _ _ (by simp [PV.cells]; omega)]
    congr 2
    simp [PV.cells]; omega
theorem pv_one (x : PV) (h : x.nv.oneCell' = true) : ∀ u ∈ x.cells, u.oneCell' = true := by
  intro u hu
  simp only [PV.cells, List.mem_cons, List.not_mem_nil, or_false] at hu
  rcases hu with rfl | rfl | rfl
  · rfl
  · rfl
  · exact h
def openV (sp : List (Nat × Nat)) : List PV := sp.map fun x => ⟨x.1, x.2, .slice none 0 0⟩
theorem openV_len (sp : List (Nat × Nat)) : (openV sp).length = sp.length := by simp [openV]

theorem owns_set3 {w : World} {lo : Nat} {e : TypeId} {size g n cap : Nat} {xs : List Value} (h : w.ownsRow lo e size (.slice (some ⟨g, 0, none⟩) n cap) n xs) (k : Nat) (u : Value) :
    (w.setCell ⟨g, k, none⟩ u).ownsRow lo e size (.slice (some ⟨g, 0, none⟩) n cap) n (xs.set k u) := by
  obtain ⟨h1, h2⟩ := h
  refine ⟨by rw [List.length_set]; exact h1, ?_⟩
  rcases h2 with ⟨h, _⟩ | ⟨g', cap', cur, hv, h3, h4, h5, h6, h7, h8⟩
  · cases h
  · cases hv
    refine .inr ⟨g, cap, cur.setIfInBounds k u, rfl, h3, ?_, h5, h6, by simpa using h7, ?_⟩
    · simp only [World.setCell, Array.getElem?_modify, if_true, h4, Option.map_some]
      simp
    · rw [← h8, Array.toList_setIfInBounds, List.take_set]

theorem Tryd.infoPart : (Tryd.prog.info? 32).map (fun i => (i.zero, i.size, i.bytes)) = some (some (.agg #[.int .i64 0, .int .i64 0, .slice none 0 0]), 3, 40) := by kernel_rfl
theorem Tryd.infoIntF : (Tryd.prog.info? 3).map (fun i => (i.zero, i.size, i.bytes)) = some (some (.int .i64 0), 1, 8) := by kernel_rfl

/-- Between two rounds of the first range. -/
def PgI (len Bp B0 : Nat) (W0 : World) (pre : List Nat) (W : World) : Prop :=
  Tch (fun k => k = Bp) W0 W ∧ ∃ v, Holds W Bp 23 [v] ∧ W.ownsRow B0 32 3 v pre.length (flatV (openV (spansP len pre)))
theorem pgI_own {len Bp B0 : Nat} {W0 : World} (h : W0.heap.size = B0) : OwnFrom B0 (PgI len Bp B0 W0) :=
  OwnFrom.and (ownFrom_tch (Nat.le_of_eq h)) (fun s X Y row hs hg hr => by
    obtain ⟨v, h1, h2⟩ := hs
    exact ⟨v, ownFrom_holds B0 Bp _ (fun _ : List Nat => [v]) s X Y row h1 hg hr, ownsRow_own B0 B0 _ _ v (fun s : List Nat => s.length) (fun s => flatV (openV (spansP len s))) s X Y row h2 hg hr⟩)
/-- What lies behind the first range. -/
structure PgD (w W : World) (a : Option Addr) (cap : Nat) (c : List In) (v : Value) : Prop where
  below : Below w.heap.size w W
  code : Holds W w.heap.size 22 [.slice a c.length cap]
  box : Holds W (w.heap.size + 1) 23 [v]
  row : W.ownsRow w.heap.size 32 3 v (begsP c).length (flatV (openV (spansP c.length (begsP c))))

theorem tch_trans2 {C D : Nat → Prop} {a b c : World} (h : Tch C a b) (k : Tch D b c) (hD : ∀ i, i < a.heap.size → D i → C i) : Tch C a c :=
  ⟨k.os.trans h.os, k.tape.trans h.tape, k.output.trans h.output, Nat.le_trans h.size k.size, fun i hi hc => (k.block i (Nat.lt_of_lt_of_le hi h.size) (fun d => hc (hD i hi d))).trans (h.block i hi hc)⟩
theorem owns_slice {w : World} {lo n : Nat} {e : TypeId} {size : Nat} {v : Value} {xs : List Value} (h : w.ownsRow lo e size v n xs) : ∃ ad cap, v = .slice ad n cap ∧ (0 < n → ∃ g, ad = some ⟨g, 0, none⟩) := by
  rcases owns_form h with ⟨rfl, rfl, _⟩ | ⟨g, cap, rfl, _⟩
  · exact ⟨none, 0, rfl, fun h => by omega⟩
  · exact ⟨_, cap, rfl, fun _ => ⟨g, rfl⟩⟩
theorem spans_to (x : Nat) (pre : List Nat) (len : Nat) (hp : pre ≠ []) : flatV (openV (spansP x pre)) = (flatV (openV (spansP len pre))).set ((pre.length - 1) * 3 + 1) (.int .i64 (x : Nat)) := by
  obtain ⟨l, a, rfl⟩ : ∃ l a, pre = l ++ [a] := ⟨pre.dropLast, pre.getLast hp, (List.dropLast_concat_getLast hp).symm⟩
  rw [spans_snoc, spans_snoc]
  have e : (openV (spansP a l ++ [(a, len)]))[l.length]? = some ⟨a, len, .slice none 0 0⟩ := by simp [openV, spans_len]
  have := flatV_set (openV (spansP a l ++ [(a, len)])) l.length 1 _ ⟨a, x, .slice none 0 0⟩ (.int .i64 (x : Nat)) e (by omega) rfl
  have e2 : (openV (spansP a l ++ [(a, len)])).set l.length ⟨a, x, .slice none 0 0⟩ = openV (spansP a l ++ [(a, x)]) := by
    simp only [openV, List.map_append, List.map_cons, List.map_nil]
    rw [List.set_append_right _ _ (by simp [spans_len])]
    simp [spans_len]
  rw [e2] at this
  rw [this]
  congr 2
  simp

/-- An append of one number. -/
noncomputable def appN (xs : Array Value) : Sem Value := Builtin.append_ #[30, 30] 30 xs
theorem appN_eq (xs : Array Value) : Builtin.append_ #[30, 30] 30 xs = appN xs := rfl
theorem appN_own (base : Nat) (v : Value) (n : Nat) (xs : List Value) (z : Int) (W : World) (hown : W.ownsRow base 3 1 v n xs) (hn : n ≤ 1000000) (hb : base ≤ W.heap.size) :
    ∃ g cap w', (appN #[v, .slice (some ⟨W.heap.size, 0, none⟩) 1 1]).run Tryd.prog (W.alloc (.cells #[.int .i64 z] 3)) = .ok (.slice (some ⟨g, 0, none⟩) (n + 1) cap) w' ∧ w'.ownsRow base 3 1 (.slice (some ⟨g, 0, none⟩) (n + 1) cap) (n + 1) (xs ++ [.int .i64 z]) ∧ (W.alloc (.cells #[.int .i64 z] 3)).grownBy w' v.ownBlock := by
  obtain ⟨i0, hi, hz0, hz1, hz2⟩ := flw_info Tryd.infoIntF
  obtain ⟨v', w', h1, h2, h3, -⟩ := run_append_own (P := Tryd.prog) (w := W.alloc (.cells #[.int .i64 z] 3)) base 30 30 3 i0 (.int .i64 0) 1 8 Tryd.underlying30 hi hz0 hz1 hz2 rfl (by decide) v n xs (hown.alloc _) ⟨W.heap.size, 0, none⟩ 1 1 [.int .i64 z] rfl (World.news_of_block (t := 3) (fr := (0, 0)) (new_block W _)) (by simp [Value.oneCell']) (by unfold maxLen; omega) (by omega) (by simp; omega)
  obtain ⟨g, cap, rfl, -, -⟩ := h2.form (by omega)
  exact ⟨g, cap, w', h1, h2, h3⟩
attribute [local go_sem ↓ high] appN_eq
/-- Between two rounds of the inner range. -/
def NxI (c : List In) (Bn B0 : Nat) (W0 : World) (pre : List Nat) (W : World) : Prop :=
  Tch (fun k => k = Bn) W0 W ∧ ∃ v, Holds W Bn 30 [v] ∧ W.ownsRow B0 3 1 v pre.length (cellsN (pre.map (numP c))) ∧ (pre = [] → v = .slice none 0 0)
theorem nxI_own {c : List In} {Bn B0 : Nat} {W0 : World} (h : W0.heap.size = B0) : OwnFrom B0 (NxI c Bn B0 W0) :=
  OwnFrom.and (ownFrom_tch (Nat.le_of_eq h)) (fun s X Y row hs hg hr => by
    obtain ⟨v, h1, h2, h3⟩ := hs
    exact ⟨v, ownFrom_holds B0 Bn _ (fun _ : List Nat => [v]) s X Y row h1 hg hr, ownsRow_own B0 B0 _ _ v (fun s : List Nat => s.length) (fun s => cellsN (s.map (numP c))) s X Y row h2 hg hr, h3⟩)
/-- Between two rounds of the loop over the parts. -/
structure LpS (w : World) (a : Option Addr) (cap : Nat) (c : List In) (v : Value) (k : Nat) (L : List PV) (W : World) : Prop where
  below : Below w.heap.size w W
  code : Holds W w.heap.size 22 [.slice a c.length cap]
  box : Holds W (w.heap.size + 1) 23 [v]
  row : W.ownsRow w.heap.size 32 3 v L.length (flatV L)
  len : L.length = (begsP c).length
  span : ∀ (j : Nat) (x : PV), L[j]? = some x → (spansP c.length (begsP c))[j]? = some (x.lo, x.hi)
  form : ∀ (j : Nat) (x : PV), L[j]? = some x → ∃ b n m, x.nv = Value.slice b n m
  next : ∀ (j : Nat) (x : PV), j < k → L[j]? = some x → W.ownsRow w.heap.size 3 1 x.nv (nextP c x.hi).length (cellsN (nextP c x.hi))
theorem LpS.stay {w : World} {a : Option Addr} {cap : Nat} {c : List In} {v : Value} {k : Nat} {L : List PV} {W W' : World} (h : LpS w a cap c v k L W) (hb : Below W.heap.size W W') : LpS w a cap c v k L W' :=
  ⟨h.below.trans (hb.mono h.below.size), h.code.below hb, h.box.below hb, owns_same h.row (fun g e => hb.block g (owns_lt h.row e).2), h.len, h.span, h.form, fun j x hj hx => owns_same (h.next j x hj hx) (fun g e => hb.block g (owns_lt (h.next j x hj hx) e).2)⟩
theorem LpS.keep {w : World} {a : Option Addr} {cap : Nat} {c : List In} {v : Value} {k : Nat} {L : List PV} {W W' : World} (h : LpS w a cap c v k L W) {Bn : Nat} {u : Value} (hB : Holds W Bn 30 [u]) (hw : w.heap.size + 1 < Bn) (hT : Tch (fun k => k = Bn) W W') : LpS w a cap c v k L W' := by
  have ho : ∀ {e : TypeId} {size : Nat} {v : Value} {n : Nat} {xs : List Value}, e ≠ 30 → W.ownsRow w.heap.size e size v n xs → W'.ownsRow w.heap.size e size v n xs := fun {e size v n xs} he h => owns_same h (fun g eg => hT.block g (owns_lt h eg).2 (fun eq => by
    obtain ⟨cc, hc⟩ := owns_kind h eg
    subst eq
    unfold Holds at hB
    rw [hB] at hc; cases hc; exact he rfl))
  exact ⟨h.below.trans (hT.below h.below.size (fun k hk => by omega)), hT.holds (by omega) h.code, hT.holds (by omega) h.box, ho (by decide) h.row, h.len, h.span, h.form, fun j x hj hx => ho (by decide) (h.next j x hj hx)⟩
theorem LpS.put {w : World} {a : Option Addr} {cap : Nat} {c : List In} {k : Nat} {L : List PV} {W : World} {g n m : Nat} (h : LpS w a cap c (.slice (some ⟨g, 0, none⟩) n m) k L W) (hn : L.length = n) {x : PV} (hx : L[k]? = some x) {b : Option Addr} {n' m' : Nat}
    (hr : W.ownsRow w.heap.size 3 1 (.slice b n' m') (nextP c x.hi).length (cellsN (nextP c x.hi))) : LpS w a cap c (.slice (some ⟨g, 0, none⟩) n m) (k + 1) (L.set k ⟨x.lo, x.hi, .slice b n' m'⟩) (W.setCell ⟨g, k * 3 + 2, none⟩ (.slice b n' m')) := by
  subst hn
  obtain ⟨cc, hk⟩ := owns_kind h.row (k := g) rfl
  have hg := (owns_lt h.row (g := g) rfl).1
  have hblk : ∀ q, (∃ (cs : Array Value) (t : TypeId), t ≠ 32 ∧ W.heap[q]? = some (Obj.cells cs t (0, 0))) → (W.setCell ⟨g, k * 3 + 2, none⟩ (.slice b n' m')).heap[q]? = W.heap[q]? := fun q ⟨cs, t, ht, hq⟩ => Below.heap_setCell _ _ _ _ (fun e => by
    subst e
    rw [hk] at hq; cases hq; exact ht rfl)
  have hkl := (List.getElem?_eq_some_iff.1 hx).1
  have hint : ∀ {v : Value} {N : Nat} {xs : List Value}, W.ownsRow w.heap.size 3 1 v N xs → (W.setCell ⟨g, k * 3 + 2, none⟩ (.slice b n' m')).ownsRow w.heap.size 3 1 v N xs := fun {v N xs} ho => owns_same ho (fun gg eg => by
    obtain ⟨c2, h2⟩ := owns_kind ho eg
    exact hblk gg ⟨_, 3, by decide, h2⟩)
  have hset := flatV_set L k 2 x ⟨x.lo, x.hi, .slice b n' m'⟩ (.slice b n' m') hx (by omega) rfl
  refine ⟨h.below.setCell (p := ⟨g, k * 3 + 2, none⟩) hg _, h.code.same (hblk _ ⟨_, 22, by decide, h.code⟩), h.box.same (hblk _ ⟨_, 23, by decide, h.box⟩), ?_, by rw [List.length_set]; exact h.len, ?_, ?_, ?_⟩
  · rw [List.length_set, hset]; exact owns_set3 h.row _ _
  · intro j y hy
    rw [List.getElem?_set] at hy
    split at hy
    · rename_i e; subst e
      first | cases hy | (rw [if_pos hkl] at hy; cases hy)
      have hsp := h.span k x hx
      exact hsp
    · exact h.span j y hy
  · intro j y hy
    rw [List.getElem?_set] at hy
    split at hy
    · rename_i e; subst e
      first | cases hy | (rw [if_pos hkl] at hy; cases hy)
      exact ⟨_, _, _, rfl⟩
    · exact h.form j y hy
  · intro j y hj hy
    rw [List.getElem?_set] at hy
    split at hy
    · rename_i e; subst e
      first | cases hy | (rw [if_pos hkl] at hy; cases hy)
      exact hint hr
    · exact hint (h.next j y (by omega) hy)
theorem Mks.tch {ms : List Nat} {B : Nat} {C : Nat → Prop} {W W' : World} (h : Mks B ms W) (k : Tch C W W') (t : TypeId) (hC : ∀ b, C b → ∃ cc : Array Value, W.heap[b]? = some (.cells cc t (0, 0))) : Mks B ms W' :=
  ⟨fun D hD => (k.block D (Array.getElem?_eq_some_iff.1 (h.1 D hD)).1 (fun c => by
    obtain ⟨cc, hc⟩ := hC D c
    rw [h.1 D hD] at hc; cases hc)).trans (h.1 D hD), h.2⟩
theorem Mks.setMk {ms : List Nat} {B : Nat} {W : World} (h : Mks B ms W) (p : Addr) (u : Value) : Mks B ms (W.setCell p u) :=
  ⟨fun D hD => by
    have := h.1 D hD
    by_cases e : p.block = D
    · subst e
      simp [World.setCell, Array.getElem?_modify, this]
    · exact (Below.heap_setCell _ _ _ _ (fun e2 => e e2.symm)).trans this, h.2⟩
theorem LpS.spin {w : World} {a : Option Addr} {cap : Nat} {c : List In} {k : Nat} {L : List PV} {W : World} {g n m : Nat} (h : LpS w a cap c (.slice (some ⟨g, 0, none⟩) n m) k L W) : SpIn W g (spansP c.length (begsP c)) := fun j x hx => by
  have hj := (List.getElem?_eq_some_iff.1 hx).1
  rw [spans_len, ← h.len] at hj
  have hy : L[j]? = some L[j] := List.getElem?_eq_getElem hj
  generalize L[j] = y at hy
  have h1 := h.span j y hy
  rw [hx] at h1; cases h1
  obtain ⟨b, n', m', hf⟩ := h.form j y hy
  refine ⟨b, n', m', fun i u hi => ?_⟩
  have hi3 : i < 3 := by have := (List.getElem?_eq_some_iff.1 hi).1; simpa using this
  exact (owns_cell h.row rfl (by rw [flatV_at L j i y hy hi3]; rw [← hi]; simp only [PV.cells, hf])).1

/-- A list of parts, in memory that is new from lo on. -/
def PartsAt (W : World) (lo : Nat) (v : Value) (ps : List Pt) : Prop := ∃ L : List PV, W.ownsRow lo 32 3 v L.length (flatV L) ∧ L.length = ps.length ∧
  ∀ (j : Nat) (x : PV) (p : Pt), L[j]? = some x → ps[j]? = some p → x.lo = p.lo ∧ x.hi = p.hi ∧ W.ownsRow lo 3 1 x.nv p.nx.length (cellsN p.nx)
theorem LpS.parts {w : World} {a : Option Addr} {cap : Nat} {c : List In} {v : Value} {L : List PV} {W : World} (h : LpS w a cap c v (begsP c).length L W) : PartsAt W w.heap.size v (partsP c) := by
  refine ⟨L, h.row, by rw [h.len, parts_len], fun j x p hx hp => ?_⟩
  have hj := (List.getElem?_eq_some_iff.1 hx).1
  have h1 := h.span j x hx
  have h2 := h.next j x (by have := h.len; omega) hx
  unfold partsP at hp
  rw [List.getElem?_map, h1] at hp
  cases hp
  exact ⟨rfl, rfl, h2⟩
theorem PartsAt.stay {W W' : World} {lo : Nat} {v : Value} {ps : List Pt} (h : PartsAt W lo v ps) (hk : CellsStay W W') : PartsAt W' lo v ps := by
  obtain ⟨L, h1, h2, h3⟩ := h
  have ho : ∀ {e : TypeId} {size : Nat} {v : Value} {n : Nat} {xs : List Value}, W.ownsRow lo e size v n xs → W'.ownsRow lo e size v n xs := fun {e size v n xs} h => owns_same h (fun g eg => by
    obtain ⟨cc, hc⟩ := owns_kind h eg
    exact (hk.2 _ _ _ _ hc).trans hc.symm)
  exact ⟨L, ho h1, h2, fun j x p hx hp => ⟨(h3 j x p hx hp).1, (h3 j x p hx hp).2.1, ho (h3 j x p hx hp).2.2⟩⟩
theorem partsZ_own {w : World} {v : Value} (ps : List Pt) : OwnFrom w.heap.size (fun (_ : Unit) U => PartsAt U w.heap.size v ps ∧ Below w.heap.size w U) := fun _ X Y row hs hg hr =>
  ⟨hs.1.stay (cells_own hg hr), hs.2.grown hg hs.2.size (fun r e => (hr r e).1)⟩

set_option maxRecDepth 100000 in
set_option maxHeartbeats 1000000 in
theorem parts_in (a : Option Addr) (cap : Nat) (c : List In) (hn : c.length ≤ 1024) (hi : ∀ i ∈ c, I64 i.imm) (w : World) (hF : FormsAt w) (hr : RowsIn w a 5 In.cells c) :
    CallsIn Fence.wide 9 Tryd.prog 15 #[.slice a c.length cap] w fun e w' => ∃ v, e = .returned v ∧ PartsAt w' w.heap.size v (partsP c) ∧ Below w.heap.size w w' := by
  have hb1 : Below w.heap.size w ((w.alloc (.cells #[.slice a c.length cap] 22)).alloc (.cells #[.slice none 0 0] 23)) := ((Below.refl _ w).alloc (Nat.le_refl _) _).alloc (by simp) _
  have hq1 : Holds ((w.alloc (.cells #[.slice a c.length cap] 22)).alloc (.cells #[.slice none 0 0] 23)) w.heap.size 22 [.slice a c.length cap] := (Holds.new w 22 [.slice a c.length cap]).alloc _
  have hq2 : Holds ((w.alloc (.cells #[.slice a c.length cap] 22)).alloc (.cells #[.slice none 0 0] 23)) (w.heap.size + 1) 23 [.slice none 0 0] := by
    have := Holds.new (w.alloc (.cells #[.slice a c.length cap] 22)) 23 [.slice none 0 0]
    rwa [World.size_alloc] at this
  have hs1 : ((w.alloc (.cells #[.slice a c.length cap] 22)).alloc (.cells #[.slice none 0 0] 23)).heap.size = w.heap.size + 2 := by simp
  have c1 := hq1.cell (i := 0) rfl
  have HQ := Lib.hid (And.intro hb1 (And.intro hq1 (And.intro hq2 hs1))); clear hb1 hq1 hq2 hs1
  have Hn := Lib.hid hn; clear hn
  have Hi := Lib.hid hi; clear hi
  have HF := Lib.hid (And.intro hF hr); clear hF hr
  refine callsIn_of_wp_marks Tryd.func15 rfl trivial ?_ rfl
  simp only [Tryd.ntmps15, List.size_toArray, List.length_cons, List.length_nil, Nat.reduceAdd, Nat.reduceSub, Array.replicate_succ, Array.replicate_zero, List.push_toArray, List.append_toArray, List.nil_append, List.cons_append]
  gi_wp2_with fail
  generalize (w.alloc (.cells #[.slice a c.length cap] 22)).alloc (.cells #[.slice none 0 0] 23) = W1 at *
  clear c1
  first | refine ⟨fun h => (by cases h), ?_⟩ | refine ⟨trivial, fun h => (by cases h), ?_⟩ | skip
  refine (callsIn_wide.2 (begs_make _ _ _ _)).mono ?_
  rintro e W2 ⟨rfl, hW2⟩
  have hb2 : Below W1.heap.size W1 W2 := by rw [hW2]; exact (Below.refl _ W1).alloc (Nat.le_refl _) _
  have hq3 : Holds W2 W1.heap.size 22 [.slice a c.length cap] := by rw [hW2]; exact Holds.new W1 22 [.slice a c.length cap]
  have hs2 : W2.heap.size = w.heap.size + 3 := by rw [hW2]; simp [HQ.out.2.2.2]
  have hbw : Below w.heap.size w W2 := HQ.out.1.trans (hb2.mono HQ.out.1.size)
  have hqc : Holds W2 w.heap.size 22 [.slice a c.length cap] := HQ.out.2.1.below hb2
  have hqp : Holds W2 (w.heap.size + 1) 23 [.slice none 0 0] := HQ.out.2.2.1.below hb2
  have hF2 := HF.out.1.below hbw
  have hr2 := HF.out.2.below hbw
  have hs1 := HQ.out.2.2.2
  rw [hs1] at hq3
  simp only [hs1]
  clear hW2 hb2 hs1 HQ
  have hdis : 0 < w.heap.size ∧ ∀ ad, a = some ad → c ≠ [] → ad.block < w.heap.size := ⟨HF.out.1.lt, fun ad e hne => by
    rcases HF.out.2 with h | ⟨q, o, e2, hq, _⟩
    · exact absurd h hne
    · rw [e] at e2; cases e2; exact hq⟩
  have hbe := begs_each (W2.heap.size + 1) (w.heap.size + 2) cap (W2.heap.size + 1 + 1) a c Hn.out Hi.out W2 rfl hF2 hq3 hr2 (fun b => b = w.heap.size + 2 ∨ b = 0 ∨ ∃ ad, a = some ad ∧ b = ad.block) (fun t => t = 4 ∨ t = 36) ⟨.inl rfl, .inr (.inl rfl), fun ad e => .inr (.inr ⟨ad, e, rfl⟩)⟩ ⟨.inl rfl, .inr rfl⟩
  have HBE := Lib.hid hbe; clear hbe
  have HDI := Lib.hid hdis; clear hdis
  have H2 := Lib.hid (And.intro hbw (And.intro hqc (And.intro hqp (And.intro hs2 (And.intro hF2 hr2))))); clear hbw hqc hqp hs2 hF2 hr2 hq3
  gi_wp2_with fail
  obtain ⟨i0, hi0, hz0, hz1, hz2⟩ := flw_info Tryd.infoPart
  have HI := Lib.hid (And.intro hi0 (And.intro hz0 (And.intro hz1 hz2))); clear hi0 hz0 hz1 hz2
  refine each_own rfl rfl (gf := 28) (lb := #[.pointer (some ⟨w.heap.size + 2, 0, none⟩)]) rfl trivial (enters_of Tryd.func28 (by kernel_rfl) rfl)
    HBE.out kpR_t (kpR_b (by omega)) (fun _ => rfl) (PgI c.length (w.heap.size + 1) W2.heap.size W2) (fun _ _ _ => False) (pgI_own rfl) (fun _ _ _ _ _ hs _ _ => hs)
    ⟨Tch.refl _ _, _, H2.out.2.2.1, World.ownsRow_nil _ _ _ _⟩ ?round ?done ?stop
  case round =>
    rintro pre x rest X hx hl hI
    have hxc : x < c.length := begs_lt (c := c) (by rw [hx]; simp)
    have hcne : c ≠ [] := fun e => by rw [e] at hxc; simp at hxc
    have hpl : pre.length ≤ 1024 := by
      have h1 := congrArg List.length hx
      have h2 : (begsP c).length ≤ c.length := by unfold begsP; exact Nat.le_trans (List.length_filter_le _ _) (by simp)
      simp at h1; have := Hn.out; omega
    clear hx hl
    unfold RoundOwes
    simp only [encN]
    have HI2 := Lib.hid hI; clear hI
    gi_wp2
    refine BodyOwes.plain (pgI_own rfl) ⟨kpB_r _, KeepsFrom.refl _ _⟩ HI2.out (fun X2 hl hI2 => ?_)
    clear hl HI2
    obtain ⟨hT2, v, hbx, hrow⟩ := hI2
    obtain ⟨ad, vc, rfl, hsome⟩ := owns_slice hrow
    have e0 := hbx.cell (i := 0) rfl
    have f0 := hbx.free 0
    have ec : X2.cell? ⟨w.heap.size, 0, none⟩ = some (.slice a c.length cap) := by
      have := H2.out.2.1
      exact (hT2.holds (by omega) this).cell (i := 0) rfl
    have hX2 : W2.heap.size ≤ X2.heap.size := hT2.size
    have HT2 := Lib.hid hT2; clear hT2
    have Hbx := Lib.hid hbx; clear hbx
    have Hrow := Lib.hid hrow; clear hrow
    have Hc := Lib.hid (And.intro hxc (And.intro hcne hpl)); clear hxc hcne
    have hw3 : w.heap.size + 1 < W2.heap.size := by have := H2.out.2.2.2.1; omega
    gi_upto_if 15 with fail
    gi_cut [12] from 59 (fun _ wx => (Tch (fun k => k = w.heap.size + 1 ∨ (W2.heap.size ≤ k ∧ ∃ cc, X2.heap[k]? = some (.cells cc 32 (0, 0)))) X2 wx ∧ Holds wx (w.heap.size + 1) 23 [.slice ad pre.length vc] ∧ wx.ownsRow W2.heap.size 32 3 (.slice ad pre.length vc) pre.length (flatV (openV (spansP x pre)))))
    case first =>
      by_cases hp : pre = []
      · subst hp
        gi_wp2_with fail
        gi_meet
        case rel => exact ⟨Tch.refl _ _, Hbx.out, Hrow.out⟩
      · have hp0 : 0 < pre.length := List.length_pos_iff.2 hp
        obtain ⟨g, rfl⟩ := hsome hp0
        have hg0 : (0 < (pre.length : Int)) := by omega
        have hk1 : IntKind.i64.wrap ((pre.length : Int) - 1) = ((pre.length - 1 : Nat) : Int) := by rw [IntKind.wrap_i64]; omega
        have hk2 : (0 : Int) ≤ ((pre.length - 1 : Nat) : Int) ∧ ((pre.length - 1 : Nat) : Int) < pre.length := by omega
        have hpe : (openV (spansP c.length pre)).length = pre.length := by rw [openV_len, spans_len]
        obtain ⟨y, hy⟩ : ∃ y, (openV (spansP c.length pre))[pre.length - 1]? = some y := ⟨_, List.getElem?_eq_getElem (by omega)⟩
        have hcell := owns_cell Hrow.out (g := g) rfl (j := (pre.length - 1) * 3 + 1) (u := .int .i64 (y.hi : Nat)) (by rw [flatV_at _ _ 1 y hy (by omega)]; rfl)
        have hcu := hcell.1
        have hfu := hcell.2
        clear hcell hy hpe hsome
        have hgl := (owns_lt Hrow.out (g := g) rfl).1
        gi_wp2_with fail
        gi_meet
        case rel => exact ⟨(Tch.refl _ X2).setCell (p := ⟨g, (pre.length - 1) * 3 + 1, none⟩) (.inl (.inr ⟨hgl, owns_kind Hrow.out rfl⟩)) _, Hbx.out.other (p := ⟨g, (pre.length - 1) * 3 + 1, none⟩) (by simp; omega) _, (by rw [spans_to x pre c.length hp]; exact owns_set3 Hrow.out _ _)⟩
    case rest =>
      obtain ⟨hT3, hbx3, hrow3⟩ := hcut
      have d0 := hbx3.cell (i := 0) rfl
      have dc : wc.cell? ⟨w.heap.size, 0, none⟩ = some (.slice a c.length cap) := (hT3.holds (by omega) (HT2.out.holds (by omega) H2.out.2.1)).cell (i := 0) rfl
      have hwc : W2.heap.size ≤ wc.heap.size := Nat.le_trans hX2 hT3.size
      have HT3 := Lib.hid hT3; clear hT3
      have Hbx3 := Lib.hid hbx3; clear hbx3
      have Hrow3 := Lib.hid hrow3; clear hrow3
      clear e0 f0 ec hsome
      gi_wp2_with (gi_at_builtin; refine wpListIn_append_own_at _ rfl _ _ 23 rfl W2.heap.size 32 i0 _ 3 40 Tryd.underlying23 HI.out.1 HI.out.2.1 HI.out.2.2.1 HI.out.2.2.2 rfl (by decide) (.slice ad pre.length vc) pre.length _ rfl (Hrow3.out.alloc _) ⟨wc.heap.size, 0, none⟩ 1 1 [.int .i64 x, .int .i64 c.length, .slice none 0 0] rfl rfl (World.news_of_block (t := 32) (fr := (0, 0)) (new_block wc _)) (by simp [Value.oneCell']) (by unfold maxLen; omega) (by omega) (by simp; omega) ?_; intro v' w5 hown5 hgrow5 hnil5 hat5; obtain ⟨g, cap5, rfl, -, hglt⟩ := hown5.form (by omega); have hT5 : Tch (fun k => (Value.slice ad pre.length vc).ownBlock = some k) wc w5 := ((Tch.refl _ wc).alloc _).grown hgrow5 (fun k e => .inl e); have hv5 : Holds w5 (w.heap.size + 1) 23 [.slice ad pre.length vc] := hT5.holds (fun e => by have := (owns_lt Hrow.out e).1; omega) Hbx3.out; have k5 := hv5.cell (i := 0) rfl; have f5 := hv5.free 0; have Hown5 := Lib.hid hown5; have HT5 := Lib.hid hT5; have Hv5 := Lib.hid hv5; clear hown5 hgrow5 hnil5 hat5 hT5 hv5)
      have hT6 : Tch (fun k => k = w.heap.size + 1 ∨ (W2.heap.size ≤ k ∧ ∃ cc, X2.heap[k]? = some (.cells cc 32 (0, 0)))) X2 (w5.setCell ⟨w.heap.size + 1, 0, none⟩ (.slice (some ⟨g, 0, none⟩) (pre.length + 1) cap5)) :=
        (HT3.out.trans (HT5.out.mono (fun k _ e => .inr ⟨(owns_lt Hrow.out e).1, owns_kind Hrow.out e⟩))).setCell (p := ⟨w.heap.size + 1, 0, none⟩) (.inl (.inl rfl)) _
      have hkf : ∀ B, W2.heap.size ≤ B → KeepsFrom B X2 (w5.setCell ⟨w.heap.size + 1, 0, none⟩ (.slice (some ⟨g, 0, none⟩) (pre.length + 1) cap5)) := fun B hB => hT6.keepsFrom (fun k o h hk ho => by
        rcases h with h | ⟨_, cc, h⟩
        · omega
        · rw [h] at ho; cases ho; rfl)
      refine ⟨hkf _ (Nat.le_refl _), ⟨hT6.kpB (fun b hb hC => ?_) (fun b cc t m hC hb hT => ?_), hkf _ (by omega)⟩, tch_trans2 HT2.out hT6 (fun k hk h => ?_), .slice (some ⟨g, 0, none⟩) (pre.length + 1) cap5, Hv5.out.set 0 _, ?_⟩
      · have hd := HDI.out
        have hd3 := H2.out.2.2.2.1
        have hb' : b ≠ w.heap.size + 1 ∧ b < W2.heap.size := by
          rcases hb with hb | hb | ⟨ad', e, hb⟩
          · omega
          · omega
          · have := hd.2 ad' e Hc.out.2.1; omega
        rcases hC with h | ⟨h, _⟩
        · exact hb'.1 h
        · omega
      · have ht : t = 23 ∨ t = 32 := by
          rcases hC with h | ⟨_, cc', h⟩
          · subst h
            have := Hbx.out
            unfold Holds at this
            rw [this] at hb; cases hb; exact .inl rfl
          · rw [h] at hb; cases hb; exact .inr rfl
        rcases ht with rfl | rfl <;> rcases hT with h | h <;> exact absurd h (by decide)
      · rcases h with h | ⟨h, _⟩
        · exact h
        · omega
      · rw [List.length_append, List.length_singleton, spans_snoc]
        have : flatV (openV (spansP x pre ++ [(x, c.length)])) = flatV (openV (spansP x pre)) ++ [.int .i64 x, .int .i64 c.length, .slice none 0 0] := by
          simp only [openV, List.map_append, List.map_cons, List.map_nil]
          rw [flatV_snoc]; rfl
        rw [this]
        exact ownsRow_setCell_other Hown5.out (a := ⟨w.heap.size + 1, 0, none⟩) (fun h => by have := (owns_lt Hown5.out h).1; simp at this; omega) _
  case done =>
    rintro X ⟨hT, v, hbx, hrow⟩ hK
    obtain ⟨ad, vc, rfl, hsome⟩ := owns_slice hrow
    have hs3 := H2.out.2.2.2.1
    have hX := hT.size
    have hbelX : Below w.heap.size w X := H2.out.1.trans (hT.below (B := w.heap.size) (by omega) (fun k h => by omega))
    have hcodeX : Holds X w.heap.size 22 [.slice a c.length cap] := hT.holds (by omega) H2.out.2.1
    have hst : LpS w a cap c (.slice ad (begsP c).length vc) 0 (openV (spansP c.length (begsP c))) X :=
      ⟨hbelX, hcodeX, hbx, by rw [openV_len, spans_len]; exact owns_mono hrow (fun g e => by have := (owns_lt hrow e).1; omega), by rw [openV_len, spans_len], fun j x hx => by
        simp only [openV, List.getElem?_map, Option.map_eq_some_iff] at hx
        obtain ⟨y, hy, rfl⟩ := hx
        exact hy, fun j x hx => by
        simp only [openV, List.getElem?_map, Option.map_eq_some_iff] at hx
        obtain ⟨y, hy, rfl⟩ := hx
        exact ⟨_, _, _, rfl⟩, fun j x hj => by omega⟩
    have hmk : Mks w.heap.size [W2.heap.size] X := ⟨fun D hD => by rw [List.mem_singleton] at hD; subst hD; exact hK, by simp, fun D hD => by rw [List.mem_singleton] at hD; subst hD; omega⟩
    have e0 := hbx.cell (i := 0) rfl
    have Hst := Lib.hid hst; clear hst
    have Hmk := Lib.hid hmk; clear hmk
    have Hsm := Lib.hid hsome; clear hsome
    clear hT hbx hrow hK hs3 hX hbelX hcodeX
    gi_wp2_with fail
    clear e0
    refine wpIn_loop (fun A V => ∃ (k : Nat) (ms : List Nat) (L : List PV) (u6 u7 u32 u33 u34 u35 u36 u37 u38 u39 u40 u41 u49 u50 u51 u52 u53 u54 u55 u56 u57 : Value), (k ≤ (begsP c).length ∧ LpS w a cap c (.slice ad (begsP c).length vc) k L V ∧ Mks w.heap.size ms V) ∧ A = { tmps := #[.slice a c.length cap, .pointer (some ⟨w.heap.size, 0, none⟩), .slice none 0 0, .pointer (some ⟨w.heap.size + 1, 0, none⟩), undef, undef, u6, u7, undef, .slice a c.length cap, .func (.func 28) #[] #[.pointer (some ⟨w.heap.size + 2, 0, none⟩)], undef, undef, undef, undef, undef, undef, undef, undef, undef, undef, undef, undef, undef, undef, undef, undef, undef, undef, .slice ad (begsP c).length vc, .int .i64 (begsP c).length, .int .i64 k, u32, u33, u34, u35, u36, u37, u38, u39, u40, u41, undef, undef, undef, undef, undef, undef, undef, u49, u50, u51, u52, u53, u54, u55, u56, u57, undef], defers := ms.map fun D => { target := .collected D, args := #[] } })
      (fun A _ => (begsP c).length - (intOf (A.tmps.getD 31 undef)).toNat) ?_ ?_
    · exact ⟨0, [W2.heap.size], _, _, _, _, _, _, _, _, _, _, _, _, _, _, _, _, _, _, _, _, _, _, ⟨Nat.zero_le _, Hst.out, Hmk.out⟩, rfl⟩
    · rintro _ V ⟨k, ms, L, u6, u7, u32, u33, u34, u35, u36, u37, u38, u39, u40, u41, u49, u50, u51, u52, u53, u54, u55, u56, u57, ⟨hk, hst, hms⟩, rfl⟩
      by_cases hlt : k < (begsP c).length
      · have hLk : k < L.length := by have := hst.len; omega
        obtain ⟨x, hx⟩ : ∃ x, L[k]? = some x := ⟨_, List.getElem?_eq_getElem hLk⟩
        obtain ⟨g, rfl⟩ := Hsm.out (by omega)
        have hspk := hst.span k x hx
        have hsl := spans_lt c.length (begsP c) (begs_sorted c) (fun x => begs_lt) _ (List.mem_of_getElem? hspk)
        simp only at hsl
        obtain ⟨i, hic⟩ : ∃ i, c[x.hi - 1]? = some i := ⟨c[x.hi - 1], List.getElem?_eq_getElem (by omega)⟩
        have hki : (0 : Int) ≤ k ∧ (k : Int) < (begsP c).length := by omega
        have hkk : IntKind.i64.wrap ((k : Int) + 1) = (k : Int) + 1 := by
          have h2 : (begsP c).length ≤ c.length := by unfold begsP; exact Nat.le_trans (List.length_filter_le _ _) (by simp)
          rw [IntKind.wrap_i64]; have := Hn.out; omega
        have hk1 : IntKind.i64.wrap ((x.hi : Int) - 1) = ((x.hi - 1 : Nat) : Int) := by rw [IntKind.wrap_i64]; have := Hn.out; omega
        have hbB : Below V.heap.size V (V.alloc (.cells #[.slice none 0 0] 30)) := (Below.refl _ V).alloc (Nat.le_refl _) _
        have hqB : Holds (V.alloc (.cells #[.slice none 0 0] 30)) V.heap.size 30 [.slice none 0 0] := Holds.new V 30 [.slice none 0 0]
        have hsB : (V.alloc (.cells #[.slice none 0 0] 30)).heap.size = V.heap.size + 1 := by simp
        have hst1 := hst.stay hbB
        have hms1 := hms.below hbB
        have hVw : w.heap.size ≤ V.heap.size := hst.below.size
        have hw2V : w.heap.size + 1 < V.heap.size := hst.box.lt
        have hgV := (owns_lt hst.row (g := g) rfl).2
        have Hst1 := Lib.hid hst1; clear hst1 hst
        have Hms1 := Lib.hid hms1; clear hms1 hms
        have HqB := Lib.hid (And.intro hqB hsB); clear hqB hsB hbB
        have Hx := Lib.hid (And.intro hx (And.intro hic (And.intro hspk (And.intro hsl (And.intro hVw (And.intro hw2V hgV)))))); clear hx hic hspk hsl hVw hw2V hgV hLk
        clear hk Hst Hmk
        gi_upto_region 12 with fail
        generalize V.alloc (.cells #[.slice none 0 0] 30) = V1 at *
        gi_cut [41] from 59 (fun s wx => s = .func (.func 30) #[] #[.pointer (some ⟨V1.heap.size, 0, none⟩), .pointer (some ⟨V1.heap.size + 1, 0, none⟩)] ∧ Below V1.heap.size V1 wx ∧ Holds wx V1.heap.size 22 [.slice a c.length cap] ∧ Holds wx (V1.heap.size + 1) 3 [.int .i64 (x.hi - 1 : Nat)] ∧ wx.heap.size = V1.heap.size + 2)
        case first =>
          have e0 := Hst1.out.code.cell (i := 0) rfl
          have e1 := Hst1.out.box.cell (i := 0) rfl
          have e2 := (owns_cell Hst1.out.row (g := g) rfl (j := k * 3 + 1) (u := .int .i64 (x.hi : Nat)) (by rw [flatV_at L k 1 x Hx.out.1 (by omega)]; rfl)).1
          refine wpIn_noPanic ?_
          gi_region_with (gi_at_call 22; refine (callsIn_wide.2 (gos_make _ _ _ _ _)).mono ?_; rintro e w5 ⟨rfl, rfl⟩)
          all_goals
            refine NoPanic.normal ?_
            gi_wp2_with fail
            gi_meet
            case rel =>
              refine ⟨by simp, ?_, ?_, ?_, by simp⟩
              · exact ((below_drew1 (Below.refl _ V1)).alloc (by simp) _).alloc (by simp) _
              · exact (Holds.new V1.drew 22 [.slice a c.length cap]).alloc _
              · have := Holds.new (V1.drew.alloc (.cells #[.slice a c.length cap] 22)) 3 [.int .i64 (x.hi - 1 : Nat)]
                rwa [World.size_alloc] at this
        case rest =>
          obtain ⟨rfl, hbx, hqa, hqb, hsx⟩ := hcut
          obtain ⟨Bn, hBn⟩ : ∃ Bn, V.heap.size = Bn := ⟨_, rfl⟩
          rw [hBn] at HqB Hx
          simp only [hBn]
          clear hBn
          have hst2 := Hst1.out.stay hbx
          have hms2 := Hms1.out.below hbx
          have hqn : Holds wc Bn 30 [.slice none 0 0] := HqB.out.1.below hbx
          have hrow2 : ∃ q o, a = some ⟨q, o, none⟩ ∧ q < w.heap.size ∧ wc.rangeAt q (o + (x.hi - 1) * 5) i.cells := by
            obtain ⟨q, o, e, hq, hr⟩ := (HF.out.2.row Hx.out.2.1)
            exact ⟨q, o, e, hq, rangeAt_same hr (hst2.below.block q hq)⟩
          obtain ⟨q, o, rfl, hq, hr1⟩ := hrow2
          have hn1 : Bn < V1.heap.size := HqB.out.1.lt
          have hgs := gos_each wc.heap.size.succ V1.heap.size (V1.heap.size + 1) q o cap c (x.hi - 1) i Hx.out.2.1 Hn.out (Hi.out i (List.mem_of_getElem? Hx.out.2.1)) wc (HF.out.1.below hst2.below) ⟨hqa, hqb, hr1⟩ (fun b => b = V1.heap.size ∨ b = V1.heap.size + 1 ∨ b = q) (fun _ => False) ⟨.inl rfl, .inr (.inl rfl), .inr (.inr rfl)⟩
          have hne : (Bn ≠ V1.heap.size ∧ Bn ≠ V1.heap.size + 1 ∧ Bn ≠ q) ∧ V1.heap.size < wc.heap.size ∧ V1.heap.size + 1 < wc.heap.size ∧ q < wc.heap.size := ⟨⟨by omega, by omega, by have := Hx.out.2.2.2.2.1; omega⟩, by omega, by omega, by have := Hx.out.2.2.2.2.1; omega⟩
          have hwl : Bn < wc.heap.size ∧ w.heap.size ≤ Bn ∧ w.heap.size + 1 < Bn ∧ g < Bn := ⟨by omega, Hx.out.2.2.2.2.1, Hx.out.2.2.2.2.2.1, Hx.out.2.2.2.2.2.2⟩
          have HGS := Lib.hid hgs; clear hgs
          have HNE := Lib.hid hne; clear hne
          have HWL := Lib.hid hwl; clear hwl
          have Hst2 := Lib.hid hst2; clear hst2
          have Hms2 := Lib.hid hms2; clear hms2
          have Hqn := Lib.hid hqn; clear hqn
          clear hbx hqa hqb hsx hr1 hq hn1 Hst1 Hms1 HqB
          generalize V1.heap.size + 1 = Bb at *
          generalize V1.heap.size = Ba at *
          gi_wp2_with fail
          refine each_own rfl rfl (gf := 30) (lb := #[.pointer (some ⟨Ba, 0, none⟩), .pointer (some ⟨Bb, 0, none⟩)]) rfl trivial (enters_of Tryd.func30 (by kernel_rfl) rfl)
            HGS.out kpB_t kpB_b (fun _ => rfl) (NxI c Bn wc.heap.size wc) (fun _ _ _ => False) (nxI_own rfl) (fun _ _ _ _ _ hs _ _ => hs)
            ⟨Tch.refl _ _, _, Hqn.out, World.ownsRow_nil _ _ _ _, fun _ => rfl⟩ ?round2 ?done2 ?stop2
          case round2 =>
            rintro pre p rest X hx hl hI
            have hpl : pre.length ≤ 2 := by
              have h1 := congrArg List.length hx
              have h2 := gosP_len c (x.hi - 1)
              simp at h1; omega
            clear hx hl
            unfold RoundOwes
            simp only [encN]
            have HI2 := Lib.hid hI; clear hI
            gi_wp2
            refine BodyOwes.plain (nxI_own rfl) (kpB_r _) HI2.out (fun X2 hl hI2 => ?_)
            clear hl HI2
            obtain ⟨hT2, nv, hbn, hrw, -⟩ := hI2
            have e0 := hbn.cell (i := 0) rfl
            have f0 := hbn.free 0
            have e1 := (hT2.holds (by have := HWL.out; omega) Hst2.out.box).cell (i := 0) rfl
            have hsp := Hst2.out.spin.same (hT2.block g (by have := HWL.out; omega) (by have := HWL.out; omega))
            have hN := numOf_any (spansP c.length (begsP c)) g vc p X2.drew hsp (spans_mono _ _ (begs_sorted c) (fun x => begs_lt)) (by rw [spans_len]; exact Nat.le_trans (Nat.le_trans (List.length_filter_le _ _) (by simp)) Hn.out) (by rw [spans_len]; omega)
            rw [spans_len] at hN
            have hszX := hT2.size
            have HN := Lib.hid hN; clear hN hsp
            have HT2 := Lib.hid hT2; clear hT2
            have Hbn := Lib.hid hbn; clear hbn
            have Hrw := Lib.hid hrw; clear hrw
            have Hp := Lib.hid hpl; clear hpl
            gi_wp2_with fail
            gi_region_with (gi_at_call 18; refine (CallsIn.inRound _ (callsIn_wide.2 HN.out)).mono ?_; rintro e w5 ⟨rfl, hb5⟩; have hb5' := (below_drew1 (Below.refl X2.heap.size X2)).trans hb5; have hB5 := Hbn.out.below hb5'; have k5 := hB5.cell (i := 0) rfl; have k5a := (hB5.alloc (.cells #[.int .i64 (numS (spansP c.length (begsP c)) p : Nat)] 3)).cell (i := 0) rfl; obtain ⟨g6, cap6, w6, hap, hown6, hgr6⟩ := appN_own wc.heap.size nv pre.length _ (numS (spansP c.length (begsP c)) p : Nat) w5 (owns_same Hrw.out (fun gg eg => hb5'.block gg (owns_lt Hrw.out eg).2)) (by have := Hp.out; omega) (Nat.le_trans hszX hb5'.size); have hT6 : Tch (fun k => nv.ownBlock = some k) X2 w6 := ((Tch.of_idle hb5').alloc _).grown hgr6 (fun k e => .inl e); have hB6 : Holds w6 Bn 30 [nv] := hT6.holds (fun e => by have := (owns_lt Hrw.out e).1; have := HWL.out; omega) Hbn.out; have k6 := hB6.cell (i := 0) rfl; have f6 := hB6.free 0; have HB6 := Lib.hid hB6; have Hown6 := Lib.hid hown6; have HT6 := Lib.hid hT6; clear hB6 hown6 hT6 hgr6 hB5 hb5' hb5)
            all_goals
              gi_wp2
              have hT7 : Tch (fun k => k = Bn ∨ nv.ownBlock = some k) X2 (w6.setCell ⟨Bn, 0, none⟩ (.slice (some ⟨g6, 0, none⟩) (pre.length + 1) cap6)) := (HT6.out.mono (fun k _ e => .inr e)).setCell (p := ⟨Bn, 0, none⟩) (.inl (.inl rfl)) _
              refine ⟨hT7.keepsFrom (fun k ob h hk ho => ?_), hT7.kpB (fun b hb hC => ?_) (fun _ _ _ _ _ _ h => h), tch_trans2 HT2.out hT7 (fun k hk h => ?_), .slice (some ⟨g6, 0, none⟩) (pre.length + 1) cap6, HB6.out.set 0 _, ?_, fun e => by simp at e⟩
              · rcases h with h | h
                · have := HWL.out; omega
                · obtain ⟨cc, hc⟩ := owns_kind Hrw.out h
                  rw [hc] at ho; cases ho; rfl
              · have hne := HNE.out
                have hlt : b < wc.heap.size := by rcases hb with rfl | rfl | rfl <;> omega
                rcases hC with h | h
                · subst h; rcases hb with hb | hb | hb <;> simp_all
                · have := (owns_lt Hrw.out h).1; omega
              · rcases h with h | h
                · exact h
                · have := (owns_lt Hrw.out h).1; omega
              · rw [List.map_append, List.length_append, List.length_singleton]
                have e : cellsN (pre.map (numP c) ++ [p].map (numP c)) = cellsN (pre.map (numP c)) ++ [.int .i64 (numS (spansP c.length (begsP c)) p : Nat)] := by simp [cellsN, numP]
                rw [e]
                exact ownsRow_setCell_other Hown6.out (a := ⟨Bn, 0, none⟩) (fun h => by have h1 := (owns_lt Hown6.out h).1; have h2 := HWL.out; change wc.heap.size ≤ Bn at h1; omega) _
          case done2 =>
            rintro X ⟨hT, nv, hbn, hrw, hnil⟩ hK
            have hk7 : Mks w.heap.size (wc.heap.size :: ms) X := by
              have hm := Hms2.out.tch hT 30 (fun k e => by subst e; exact ⟨_, Hqn.out⟩)
              refine ⟨fun D hD => ?_, List.nodup_cons.2 ⟨fun h => by have := Hms2.out.lt _ h; omega, hm.2.1⟩, fun D hD => ?_⟩
              · rcases List.mem_cons.1 hD with rfl | hD
                · exact hK
                · exact hm.1 D hD
              · rcases List.mem_cons.1 hD with rfl | hD
                · have := HWL.out; omega
                · exact hm.2.2 D hD
            clear hK
            rw [show (gosP c (x.hi - 1)).length = ((gosP c (x.hi - 1)).map (numP c)).length by simp] at hrw
            by_cases hgo : gosP c (x.hi - 1) = []
            · have hnv : nv = .slice none 0 0 := hnil hgo
              subst hnv
              clear hrw hnil
              have e1 := hbn.cell (i := 0) rfl
              have Hgo := Lib.hid (show nextP c x.hi = [] by rw [next_tidy, hgo]; rfl)
              have HK := Lib.hid hk7; clear hk7
              have HT := Lib.hid hT; clear hT
              gi_wp2_with fail
              first | refine ⟨fun h => (by cases h), ?_⟩ | refine ⟨trivial, fun h => (by cases h), ?_⟩ | skip
              refine (callsIn_wide.2 (sort_none _)).mono ?_
              rintro e W8 ⟨rfl, hb8⟩
              have hb8d := below_drew1 hb8
              have hst8 := (Hst2.out.keep Hqn.out HWL.out.2.2.1 HT.out).stay hb8d
              have hbn8 : Holds W8.drew Bn 30 [.slice none 0 0] := hbn.below hb8d
              have hmk8 := HK.out.below hb8d
              have f2 := hst8.box.cell (i := 0) rfl
              have f3 := hbn8.cell (i := 0) rfl
              have f4 := owns_cell hst8.row (g := g) rfl (j := k * 3 + 2) (u := x.nv) (by rw [flatV_at L k 2 x Hx.out.1 (by omega)]; rfl)
              have f5 := f4.1
              have f6 := f4.2
              have Hst8 := Lib.hid hst8; clear hst8
              have Hmk8 := Lib.hid hmk8; clear hmk8
              clear f4 hb8 hb8d hbn8 hbn e1
              gi_wp2_with fail
              refine wpIn_noPanic ?_
              gi_region_with (gi_at_call 24; refine (callsIn_wide.2 (compact_none _)).mono ?_; rintro e w5 ⟨rfl, rfl⟩)
              all_goals
                refine NoPanic.normal ?_
                gi_wp2
                have hfin := Hst8.out.put Hst8.out.len Hx.out.1 (b := none) (n' := 0) (m' := 0) (by rw [Hgo.out]; exact World.ownsRow_nil _ _ _ _)
                refine ⟨⟨k + 1, wc.heap.size :: ms, _, _, _, _, _, _, _, _, _, _, _, _, _, _, _, _, _, _, _, _, _, _, ⟨by omega, hfin, Hmk8.out.setMk _ _⟩, rfl⟩, by simp [intOf]; omega⟩
            · have hpos : 0 < (gosP c (x.hi - 1)).length := List.length_pos_iff.2 hgo
              obtain ⟨na, ncap, rfl, hns⟩ := owns_slice hrw
              obtain ⟨gn, rfl⟩ := hns (by simpa using hpos)
              clear hns hpos hgo hnil
              have e1 := hbn.cell (i := 0) rfl
              have Hgo := Lib.hid (show nextP c x.hi = once (srt ((gosP c (x.hi - 1)).map (numP c))) by rw [next_tidy, once_srt _ (by rw [List.length_map]; exact gosP_len c _)])
              have hle : ((gosP c (x.hi - 1)).map (numP c)).length ≤ 2 := by rw [List.length_map]; exact gosP_len c _
              generalize (gosP c (x.hi - 1)).map (numP c) = ns at *
              have HK := Lib.hid hk7; clear hk7
              have HT := Lib.hid hT; clear hT
              have Hle := Lib.hid hle; clear hle
              gi_wp2_with fail
              first | refine ⟨fun h => (by cases h), ?_⟩ | refine ⟨trivial, fun h => (by cases h), ?_⟩ | skip
              refine (callsIn_wide.2 (sort_any gn ncap ns _ hrw Hle.out)).mono ?_
              rintro e W8 ⟨rfl, ho8, ht8⟩
              have hgl := (owns_lt hrw (g := gn) rfl)
              have hT8 : Tch (fun k => k = Bn) wc W8 := tch_trans2 HT.out ht8 (fun k hk e => by omega)
              have hbn8 : Holds W8.drew Bn 30 [.slice (some ⟨gn, 0, none⟩) ns.length ncap] := (ht8.holds (by have := HWL.out; omega) hbn).below (below_drew1 (Below.refl _ W8))
              have hmk8 : Mks w.heap.size (wc.heap.size :: ms) W8.drew := (HK.out.tch ht8 3 (fun k e => by subst e; exact owns_kind hrw rfl)).below (below_drew1 (Below.refl _ W8))
              have ho8d : W8.drew.ownsRow wc.heap.size 3 1 (.slice (some ⟨gn, 0, none⟩) (srt ns).length ncap) (srt ns).length (cellsN (srt ns)) := by rw [srt_len]; exact ho8
              have hC := compact_any gn ncap (srt ns) W8.drew ho8d (by rw [srt_len]; exact Hle.out)
              rw [srt_len] at hC
              have hst8 := (Hst2.out.keep Hqn.out HWL.out.2.2.1 hT8.drew)
              have f2 := hst8.box.cell (i := 0) rfl
              have f3 := hbn8.cell (i := 0) rfl
              have HC := Lib.hid hC; clear hC
              have Hst8 := Lib.hid hst8; clear hst8
              have Hmk8 := Lib.hid hmk8; clear hmk8
              have Ho8 := Lib.hid ho8d; clear ho8d ho8
              have HT8 := Lib.hid hT8.drew; clear hT8
              clear hbn8 hbn e1 ht8 hrw
              gi_wp2_with fail
              refine wpIn_noPanic ?_
              gi_region_with (gi_at_call 24; refine (callsIn_wide.2 HC.out).mono ?_; rintro e w9 ⟨rfl, ho9, ht9⟩; have hst9 := Hst2.out.keep Hqn.out HWL.out.2.2.1 (tch_trans2 HT8.out ht9 (fun k hk e => by omega)); have k2 := hst9.box.cell (i := 0) rfl; have k4 := owns_cell hst9.row (g := g) rfl (j := k * 3 + 2) (u := x.nv) (by rw [flatV_at L k 2 x Hx.out.1 (by omega)]; rfl); have k5 := k4.1; have k6 := k4.2; have Hst9 := Lib.hid hst9; have Ho9 := Lib.hid ho9; have Ht9 := Lib.hid ht9; clear hst9 ho9 ht9 k4)
              all_goals
                refine NoPanic.normal ?_
                gi_wp2
                have hfin := Hst9.out.put Hst9.out.len Hx.out.1 (by rw [Hgo.out]; exact owns_mono Ho9.out (fun gg e => by have := (owns_lt Ho9.out e).1; have := HWL.out; omega))
                refine ⟨⟨k + 1, wc.heap.size :: ms, _, _, _, _, _, _, _, _, _, _, _, _, _, _, _, _, _, _, _, _, _, _, ⟨by omega, hfin, (Hmk8.out.tch Ht9.out 3 (fun k e => by subst e; exact owns_kind Ho8.out rfl)).setMk _ _⟩, rfl⟩, by simp [intOf]; omega⟩
          case stop2 =>
            rintro _ _ _ _ h _
            exact h.elim
      · obtain rfl : k = (begsP c).length := by omega
        have e0 := hst.box.cell (i := 0) rfl
        have Hs := Lib.hid hst; clear hst
        have Hm := Lib.hid hms; clear hms
        clear hk
        gi_wp2_with fail
        refine leaves_marks (B := w.heap.size) (Z := fun U => PartsAt U w.heap.size (.slice ad (begsP c).length vc) (partsP c) ∧ Below w.heap.size w U) (partsZ_own _) ?_ ms _ Hm.out.1 Hm.out.2.1 Hm.out.2.2 ⟨Hs.out.parts, Hs.out.below⟩
        intro U hU
        exact ⟨_, results_tmp rfl _ _ _, .slice ad (begsP c).length vc, rfl, hU⟩
  case stop =>
    rintro _ _ _ _ h _
    exact h.elim

end Go.Proofs.YtehnailokgoekaaDoor
