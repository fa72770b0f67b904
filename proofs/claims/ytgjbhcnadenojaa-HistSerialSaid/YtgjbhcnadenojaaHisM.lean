/- Maps of numbers in memory, as functions. Conditions: those stated in each theorem. -/
import Derived.Test.YtgjbhcnadenojaaHisP
import Derived.Test.YtgjbhcnadenojaaOwn0
import Derived.Maps.OwnSet
import Derived.Maps.RangeWalk
namespace Go.Proofs.Ytgjbhcnadenojaa
open Go.RowKit Go.BigFrame Go.Maps Go.ChangeMaps

theorem Try.keyI : Keyed Try.prog 3 := int_keyed Try.underlying3
theorem Try.zeroI (w : World) : (zeroValue 3).run Try.prog w = .ok (.int .i64 0) w := by kernel_rfl
theorem Try.zeroU (w : World) : (zeroValue 46).run Try.prog w = .ok (.int .u64 0) w := by kernel_rfl

/-- The datum says what the function says. -/
def IsMp (q : IntKind) (D : DataW Unit) (f : Mp) : Prop :=
  IsMap D ∧ ∀ a : Int, Maps.has D (.int .i64 a) = (f a).isSome ∧ ∀ v, f a = some v → ∀ z, D.atKey (.int .i64 a) z = .lit (.int q v)
theorem isMp_none (q : IntKind) : IsMp q (.map []) Mp.none := ⟨isMap_empty, fun _ => ⟨rfl, fun _ h => by cases h⟩⟩
theorem IsMp.put {q : IntKind} {D : DataW Unit} {f : Mp} (h : IsMp q D f) (a v : Int) : IsMp q (D.put (.int .i64 a) (.lit (.int q v))) (f.put a v) := by
  refine ⟨h.1.put _ _, fun b => ?_⟩
  unfold Mp.put
  by_cases hb : b = a
  · subst hb
    rw [if_pos rfl]
    exact ⟨has_put_same h.1 (by simp [WideAt.IsKeyLit]) _, fun k hk z => by cases hk; exact atKey_put_same h.1 (by simp [WideAt.IsKeyLit]) _ _⟩
  · have hne : (Lit.int .i64 b) ≠ Lit.int .i64 a := fun e => hb (by cases e; rfl)
    rw [if_neg hb, has_put_other hne]
    exact ⟨(h.2 b).1, fun k hk z => by rw [atKey_put_other hne]; exact (h.2 b).2 k hk z⟩
theorem IsMp.del {q : IntKind} {D : DataW Unit} {f : Mp} (h : IsMp q D f) (a : Int) : IsMp q (D.del (.int .i64 a)) (f.del a) := by
  refine ⟨h.1.del _, fun b => ?_⟩
  unfold Mp.del
  by_cases hb : b = a
  · subst hb
    rw [if_pos rfl]
    exact ⟨has_del_same, fun k hk => by cases hk⟩
  · have hne : (Lit.int .i64 b) ≠ Lit.int .i64 a := fun e => hb (by cases e; rfl)
    rw [if_neg hb, has_del_other hne]
    exact ⟨(h.2 b).1, fun k hk z => by rw [atKey_del_other hne]; exact (h.2 b).2 k hk z⟩

/-- A map of at most n entries. -/
def MpAt (w : World) (e : TypeId) (q : IntKind) (b n : Nat) (f : Mp) : Prop := ∃ D, w.ownsMap Try.prog 3 (plainElem (H := Unit) Try.prog e) b n D ∧ IsMp q D f
section
variable {w w' : World} {e : TypeId} {q : IntKind} {b n : Nat} {f : Mp}
theorem MpAt.same (h : MpAt w e q b n f) (k : w'.heap[b]? = w.heap[b]?) : MpAt w' e q b n f := by
  obtain ⟨D, ⟨es, clock, hb, r⟩, h2⟩ := h
  exact ⟨D, ⟨es, clock, k.trans hb, r⟩, h2⟩
theorem MpAt.obj (h : MpAt w e q b n f) : ∃ es clock, w.heap[b]? = some (.map es clock) := by
  obtain ⟨D, ⟨es, clock, hb, r⟩, h2⟩ := h
  exact ⟨_, _, hb⟩
theorem MpAt.lt (h : MpAt w e q b n f) : b < w.heap.size := by obtain ⟨_, _, h⟩ := h.obj; exact (Array.getElem?_eq_some_iff.1 h).1
theorem MpAt.ne {c : Nat} (h : MpAt w e q b n f) {cs : Array Value} {t : TypeId} {fr : Nat × Nat} (hc : w.heap[c]? = some (.cells cs t fr)) : c ≠ b := by
  obtain ⟨_, _, h⟩ := h.obj
  rintro rfl
  rw [h] at hc; cases hc
theorem MpAt.made (w : World) (e : TypeId) (q : IntKind) : MpAt (w.alloc (.map #[] 0)) e q w.heap.size 0 Mp.none := ⟨_, World.ownsMap_made w _ _ _, isMp_none q⟩
theorem MpAt.more {m : Nat} (h : MpAt w e q b n f) (hm : n ≤ m) : MpAt w e q b m f := by
  obtain ⟨D, ⟨es, clock, hb, r, r2, r3⟩, h2⟩ := h
  exact ⟨D, ⟨es, clock, hb, r, Nat.le_trans r2 hm, r3⟩, h2⟩
theorem MpAt.cong {g : Mp} (h : MpAt w e q b n f) (hg : ∀ a, f a = g a) : MpAt w e q b n g := by obtain rfl : f = g := funext hg; exact h
end

section
variable {w : World} {ops : Array Oper} {rest : List Oper} {o : Oper} {a : Act} {Q : Exit → Act → World → Prop} {t e : TypeId} {q : IntKind}
theorem mp_look_ok (ht : Try.prog.underlying t = some (.map 3 e)) (he : Try.prog.underlying e = some (.int q)) (hz : ∀ w, (zeroValue e).run Try.prog w = .ok (.int q 0) w) (hg : o.guard = none) (m x : Operand) (hop : o.op = Op.lookup t m x true) (b n : Nat) (f : Mp) (ad : Int) (hm : a.eval m = .map (some b)) (hx : a.eval x = .int .i64 ad) (h : MpAt w e q b n f) (hw : (Lit.int .i64 ad).wf = true)
    (hK : wpList Try.prog ops Q rest (a.put o.dst (.tuple #[.int q ((f ad).getD 0), .bool (f ad).isSome])) w) : wpList Try.prog ops Q (o :: rest) a w := by
  obtain ⟨D, h1, h2⟩ := h
  refine wpList_lookup_own_ok_int w hg m x t hop 3 e q Try.keyI ht he (hz w) b n D hm h1 _ _ hx (keyOf_int_mk Try.underlying3 hw) ?_
  intro c hat _
  rw [(h2.2 ad).1]
  cases hf : f ad with
  | some v =>
    rw [(h2.2 ad).2 v hf] at hat
    cases hat
    rw [hf] at hK
    exact hK
  | none =>
    have hh := (h2.2 ad).1
    rw [hf] at hh
    rw [atKey_of_not_has hh] at hat
    cases hat
    rw [hf] at hK
    exact hK
theorem mp_look (ht : Try.prog.underlying t = some (.map 3 e)) (he : Try.prog.underlying e = some (.int q)) (hz : ∀ w, (zeroValue e).run Try.prog w = .ok (.int q 0) w) (hg : o.guard = none) (m x : Operand) (hop : o.op = Op.lookup t m x false) (b n : Nat) (f : Mp) (ad : Int) (hm : a.eval m = .map (some b)) (hx : a.eval x = .int .i64 ad) (h : MpAt w e q b n f) (hw : (Lit.int .i64 ad).wf = true)
    (hK : wpList Try.prog ops Q rest (a.put o.dst (.int q ((f ad).getD 0))) w) : wpList Try.prog ops Q (o :: rest) a w := by
  obtain ⟨D, h1, h2⟩ := h
  refine wpList_lookup_own_int w hg m x t hop 3 e q Try.keyI ht he (hz w) b n D hm h1 _ _ hx (keyOf_int_mk Try.underlying3 hw) ?_
  intro c hat _
  cases hf : f ad with
  | some v =>
    rw [(h2.2 ad).2 v hf] at hat
    cases hat
    rw [hf] at hK
    exact hK
  | none =>
    have hh := (h2.2 ad).1
    rw [hf] at hh
    rw [atKey_of_not_has hh] at hat
    cases hat
    rw [hf] at hK
    exact hK
theorem mp_put (ht : Try.prog.underlying t = some (.map 3 e)) (he : Try.prog.underlying e = some (.int q)) (hg : o.guard = none) (m x v : Operand) (hop : o.op = Op.mapUpdate t m x v) (b n : Nat) (f : Mp) (ad va : Int) (hm : a.eval m = .map (some b)) (hx : a.eval x = .int .i64 ad) (hv : a.eval v = .int q va) (h : MpAt w e q b n f) (hw : (Lit.int .i64 ad).wf = true) (hwv : (Lit.int q va).wf = true) (hn : n < maxLen)
    (hK : ∀ w', MpAt w' e q b (n + 1) (f.put ad va) → w.grownBy w' (some b) → wpList Try.prog ops Q rest (a.put o.dst undef) w') : wpList Try.prog ops Q (o :: rest) a w := by
  obtain ⟨D, h1, h2⟩ := h
  refine wpList_mapUpdate_own w hg m x v t hop 3 e Try.keyI ht _ b n D hm h1 hn _ _ _ hx hv (keyOf_int_mk Try.underlying3 hw) (.lit (.int q va)) [] (plainElem_int he hwv) ?_
  intro w' k1 k2
  exact hK w' ⟨_, k1, h2.put ad va⟩ k2
theorem mp_del (ht : Try.prog.underlying t = some (.map 3 e)) (hg : o.guard = none) (m x : Operand) (hop : o.op = Op.call { callee := Callee.builtin Builtin.delete, args := #[m, x], argTypes := #[t, 3] }) (b n : Nat) (f : Mp) (ad : Int) (hm : a.eval m = .map (some b)) (hx : a.eval x = .int .i64 ad) (h : MpAt w e q b n f) (hw : (Lit.int .i64 ad).wf = true)
    (hK : ∀ w', MpAt w' e q b n (f.del ad) → w.grownBy w' (some b) → wpList Try.prog ops Q rest (a.put o.dst (.tuple #[])) w') : wpList Try.prog ops Q (o :: rest) a w := by
  obtain ⟨D, h1, h2⟩ := h
  refine wpList_delete_own w hg m x t 3 hop e Try.keyI ht _ b n D hm h1 _ _ hx (keyOf_int_mk Try.underlying3 hw) ?_
  intro w' k1 k2
  exact hK w' ⟨_, k1, h2.del ad⟩ k2.grown
end

end Go.Proofs.Ytgjbhcnadenojaa
