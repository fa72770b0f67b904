/- The map of what was met, in memory: its keys are structs. Conditions: those stated in each theorem. -/
import Derived.Test.YteijhcibdglkeaaGreatDoorLntQ
import Derived.Test.YteijhcibdglkeaaGreatDoorCame
import Derived.Maps.OwnSet
import Derived.Maps.OwnIn
import Derived.DeepKeys4
namespace Go.Proofs.YteijhcibdglkeaaGreatDoor
open Go.RowKit Go.BigFrame Go.Maps Go.ChangeMaps

@[reducible] def spV (s : Spot) : Value := .agg #[.int .i64 (s.1 : Nat), .bool s.2]
theorem Tryz.laidOutL : laidOutB Tryz.prog = true := by kernel_rfl
theorem Tryz.keySp : Keyed Tryz.prog 89 := Keyed.of_law (deep_law_laid Tryz.laidOutL (m := 3) (by omega) (of_decide_eq_true (by kernel_rfl)) (by kernel_rfl) (by rw [Tryz.underlying89]))
theorem Tryz.keyTypeSp : Tryz.prog.keyType 89 = true := by kernel_rfl
theorem Tryz.cellsSp : Tryz.prog.cellsOf 89 = 2 := by kernel_rfl
theorem Tryz.cellsInt : Tryz.prog.cellsOf 3 = 1 := by kernel_rfl
theorem Tryz.cellsBool : Tryz.prog.cellsOf 4 = 1 := by kernel_rfl
theorem Tryz.zeroRg (w : World) : (zeroValue 91).run Tryz.prog w = .ok (.int .u64 0) w := by kernel_rfl
def keyL (s : Spot) : Lit := .string (keyBytes [.int .i64 (s.1 : Nat), .bool s.2])
theorem key_sp (s : Spot) (h : s.1 ≤ 2000) : keyOf Tryz.prog 89 (spV s) = some (keyL s) := by
  have hf : (spV s).formed Tryz.prog 89 = true := by simp [Value.formed, Tryz.underlying89, Tryz.cellsSp]
  obtain ⟨d, hd⟩ : ∃ d, Tryz.prog.types.size + 1 = d + 1 + 1 := ⟨Tryz.prog.types.size - 1, by
    have : 0 < Tryz.prog.types.size := of_decide_eq_true (by kernel_rfl)
    omega⟩
  have hw : (Lit.int .i64 (s.1 : Nat)).wf = true := by simp [Lit.wf, IntKind.min, IntKind.max, IntKind.signed, IntKind.bits]; omega
  unfold keyOf keyL
  rw [Tryz.underlying89, hd]
  simp only [Tryz.keyTypeSp, hf, Bool.and_self, if_true]
  simp [Program.keyLits, Tryz.underlying89, Tryz.underlying3, Tryz.underlying4, Tryz.cellsSp, Tryz.cellsInt, Tryz.cellsBool, Value.cells, hw]
theorem keyL_inj {s t : Spot} (hs : s.1 ≤ 2000) (ht : t.1 ≤ 2000) (h : keyL s = keyL t) : s = t := by
  have := Tryz.keySp.inj (key_sp s hs) (h ▸ key_sp t ht)
  obtain ⟨s1, s2⟩ := s
  obtain ⟨t1, t2⟩ := t
  simp only [spV, Value.agg.injEq, Array.mk.injEq, List.cons.injEq, Value.int.injEq, Value.bool.injEq, true_and, and_true] at this
  rw [Prod.mk.injEq]
  exact ⟨by omega, this.2⟩

/-- The datum says what the function says. -/
def IsRg (D : DataW Unit) (f : MV) : Prop :=
  IsMap D ∧ ∀ s : Spot, s.1 ≤ 2000 → Maps.has D (keyL s) = (f s).isSome ∧ ∀ m, f s = some m → ∀ z, D.atKey (keyL s) z = .lit (.int .u64 (m : Nat))
theorem isRg_none : IsRg (.map []) (fun _ => none) := ⟨isMap_empty, fun _ _ => ⟨rfl, fun _ h => by cases h⟩⟩
theorem IsRg.put {D : DataW Unit} {f : MV} (h : IsRg D f) {s : Spot} (hs : s.1 ≤ 2000) (m : Nat) : IsRg (D.put (keyL s) (.lit (.int .u64 (m : Nat)))) (f.put s m) := by
  refine ⟨h.1.put _ _, fun t ht => ?_⟩
  unfold MV.put
  by_cases e : t = s
  · subst e
    rw [if_pos rfl]
    exact ⟨has_put_same h.1 (by simp [WideAt.IsKeyLit, keyL]) _, fun k hk z => by cases hk; exact atKey_put_same h.1 (by simp [WideAt.IsKeyLit, keyL]) _ _⟩
  · have hne : keyL t ≠ keyL s := fun x => e (keyL_inj ht hs x)
    rw [if_neg e, has_put_other hne]
    exact ⟨(h.2 t ht).1, fun k hk z => by rw [atKey_put_other hne]; exact (h.2 t ht).2 k hk z⟩

/-- A map of at most n entries. -/
def RgAt (w : World) (b n : Nat) (f : MV) : Prop := ∃ D, w.ownsMap Tryz.prog 89 (plainElem (H := Unit) Tryz.prog 91) b n D ∧ IsRg D f
section
variable {w w' : World} {b n : Nat} {f : MV}
theorem RgAt.same (h : RgAt w b n f) (k : w'.heap[b]? = w.heap[b]?) : RgAt w' b n f := by
  obtain ⟨D, ⟨es, clock, hb, r⟩, h2⟩ := h
  exact ⟨D, ⟨es, clock, k.trans hb, r⟩, h2⟩
theorem RgAt.obj (h : RgAt w b n f) : ∃ es clock, w.heap[b]? = some (.map es clock) := by
  obtain ⟨D, ⟨es, clock, hb, r⟩, h2⟩ := h
  exact ⟨_, _, hb⟩
theorem RgAt.lt (h : RgAt w b n f) : b < w.heap.size := by obtain ⟨_, _, h⟩ := h.obj; exact (Array.getElem?_eq_some_iff.1 h).1
theorem RgAt.ne {c : Nat} (h : RgAt w b n f) {cs : Array Value} {t : TypeId} {fr : Nat × Nat} (hc : w.heap[c]? = some (.cells cs t fr)) : c ≠ b := by
  obtain ⟨_, _, h⟩ := h.obj
  rintro rfl
  rw [h] at hc; cases hc
theorem RgAt.made (w : World) : RgAt (w.alloc (.map #[] 0)) w.heap.size 0 (fun _ => none) := ⟨_, World.ownsMap_made w _ _ _, isRg_none⟩
theorem RgAt.more {m : Nat} (h : RgAt w b n f) (hm : n ≤ m) : RgAt w b m f := by
  obtain ⟨D, ⟨es, clock, hb, r, r2, r3⟩, h2⟩ := h
  exact ⟨D, ⟨es, clock, hb, r, Nat.le_trans r2 hm, r3⟩, h2⟩
theorem RgAt.below (h : RgAt w b n f) (hb : Below w.heap.size w w') : RgAt w' b n f := h.same (hb.block b h.lt)
theorem RgAt.run_ok (h : RgAt w b n f) {s : Spot} (hs : s.1 ≤ 2000) :
    (Instr.lookup 61 (.map (some b)) (spV s) true).run Tryz.prog w = .ok (.tuple #[.int .u64 ((f s).getD 0 : Nat), .bool (f s).isSome]) w := by
  obtain ⟨D, h1, h2⟩ := h
  obtain ⟨v, ps, hrun, hv⟩ := h1.look_ok Tryz.keySp Tryz.underlying61 (Tryz.zeroRg w) (plainElem_int Tryz.underlying91 (by decide)) (key_sp s hs)
  rw [(h2.2 s hs).1] at hrun
  obtain ⟨a, rfl, e, _⟩ := plainElem_int_inv Tryz.underlying91 hv
  rw [hrun]
  have e1 := (Prod.mk.inj e).1
  cases hf : f s with
  | some m =>
    rw [(h2.2 s hs).2 m hf] at e1
    cases e1; rfl
  | none =>
    have hh := (h2.2 s hs).1
    rw [hf] at hh
    rw [atKey_of_not_has hh] at e1
    cases e1; rfl
theorem RgAt.run (h : RgAt w b n f) {s : Spot} (hs : s.1 ≤ 2000) :
    (Instr.lookup 61 (.map (some b)) (spV s) false).run Tryz.prog w = .ok (.int .u64 ((f s).getD 0 : Nat)) w := by
  obtain ⟨D, h1, h2⟩ := h
  obtain ⟨c, hrun, hc, _⟩ := h1.lookup_int Tryz.keySp Tryz.underlying61 Tryz.underlying91 (Tryz.zeroRg w) (key_sp s hs)
  rw [hrun]
  cases hf : f s with
  | some m =>
    rw [(h2.2 s hs).2 m hf] at hc
    cases hc; rfl
  | none =>
    have hh := (h2.2 s hs).1
    rw [hf] at hh
    rw [atKey_of_not_has hh] at hc
    cases hc; rfl
end
/-- A key is put: the operation, run. -/
theorem rg_store {w : World} {b n : Nat} {f : MV} (h : RgAt w b n f) {s : Spot} (hs : s.1 ≤ 2000) {va : Nat} (hva : va < 256) (hn : n < maxLen) :
    ∃ w', (Instr.mapUpdate 61 (.map (some b)) (spV s) (.int .u64 (va : Nat))).run Tryz.prog w = .ok () w' ∧ RgAt w' b (n + 1) (f.put s va) ∧ w.grownBy w' (some b) ∧ w'.heap.size = w.heap.size := by
  obtain ⟨D, h1, h2⟩ := h
  obtain ⟨w', hrun, r1, r2⟩ := h1.store Tryz.keySp Tryz.underlying61 hn (key_sp s hs) (plainElem_int Tryz.underlying91 (show (Lit.int .u64 (va : Nat)).wf = true by simp [Lit.wf, IntKind.min, IntKind.max, IntKind.signed, IntKind.bits]; omega))
  refine ⟨w', hrun, ⟨_, r1, h2.put hs va⟩, r2.grown, ?_⟩
  obtain ⟨es, clock, es', clock', _, rfl⟩ := r2
  simp [setBlock]
section
variable {w : World} {ops : Array Oper} {rest : List Oper} {o : Oper} {a : Act} {Q : Exit → Act → World → Prop} {F : Fence} {nF : Nat}
theorem in_putL (hg : o.guard = none) (m x v : Operand) (hop : o.op = Op.mapUpdate 61 m x v ∨ o.op = Op.insert 61 m x v) (b n : Nat) (f : MV) (s : Spot) (va : Nat) (hm : a.eval m = .map (some b)) (hx : a.eval x = spV s) (hv : a.eval v = .int .u64 (va : Nat)) (h : RgAt w b n f) (hs : s.1 ≤ 2000) (hva : va < 256) (hn : n < maxLen)
    (hK : ∀ w', RgAt w' b (n + 1) (f.put s va) → w.grownBy w' (some b) → wpListIn F nF Tryz.prog ops Q rest (a.put o.dst undef) w') : wpListIn F nF Tryz.prog ops Q (o :: rest) a w := by
  obtain ⟨D, h1, h2⟩ := h
  refine wpListIn_plain hg fun K' hK' => ?_
  obtain ⟨w', hrun, r1, r2⟩ := h1.update Tryz.keySp Tryz.underlying61 hn (key_sp s hs) (plainElem_int Tryz.underlying91 (show (Lit.int .u64 (va : Nat)).wf = true by simp [Lit.wf, IntKind.min, IntKind.max, IntKind.signed, IntKind.bits]; omega))
  unfold Oper.wpIn
  rcases hop with hop | hop
  · refine ⟨by simp [Oper.about, hop], ?_⟩
    rw [Oper.semAt_plain F _ _ (by rw [hop]; intro c hc'; cases hc')]
    simp [execOp, hop, hm, hx, hv, hrun, Result.andThen]
    exact hK' _ _ (hK w' ⟨_, r1, h2.put hs va⟩ r2)
  · refine ⟨by simp [Oper.about, hop], ?_⟩
    rw [Oper.semAt_plain F _ _ (by rw [hop]; intro c hc'; cases hc')]
    simp [execOp, hop, hm, hx, hv, hrun, Result.andThen]
    exact hK' _ _ (hK w' ⟨_, r1, h2.put hs va⟩ r2)
end
end Go.Proofs.YteijhcibdglkeaaGreatDoor
