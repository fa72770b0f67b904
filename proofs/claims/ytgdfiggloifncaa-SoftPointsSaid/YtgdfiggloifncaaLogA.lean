/- A list of pairs in memory, with the map of its places; a log. Conditions: those stated in each theorem. -/
import Derived.Test.YtgdfiggloifncaaLogP
import Derived.Test.YtgdfiggloifncaaOwn0
import Derived.Maps.OwnSet
namespace Go.Proofs.Ytgdfiggloifncaa
open Go.RowKit Go.BigFrame Go.Maps Go.ChangeMaps

/-! ### Places -/
theorem Try.keyI : Keyed Try.prog 3 := int_keyed Try.underlying3
theorem Try.zeroI (w : World) : (zeroValue 3).run Try.prog w = .ok (.int .i64 0) w := by kernel_rfl
theorem Try.infoPair : (Try.prog.info? 84).map (fun i => (i.zero, i.size, i.bytes)) = some (some (.agg #[.int .i64 0, .int .u64 0]), 2, 16) := by kernel_rfl
theorem Try.sizePair : (Try.prog.info? 84).map (·.size) = some 2 := by kernel_rfl

/-- The map tells where each address stands. -/
def IsPl (D : DataW Unit) (l : List Pr) : Prop :=
  IsMap D ∧ ∀ a : Int, Maps.has D (.int .i64 a) = (posL l a).isSome ∧ ∀ k, posL l a = some k → ∀ z, D.atKey (.int .i64 a) z = .lit (.int .i64 (k : Nat))

theorem isPl_nil : IsPl (.map []) [] := ⟨isMap_empty, fun a => ⟨rfl, fun k h => by cases h⟩⟩
theorem IsPl.snoc {D : DataW Unit} {l : List Pr} (h : IsPl D l) (x : Pr) (hx : posL l x.a = none) : IsPl (D.put (.int .i64 x.a) (.lit (.int .i64 (l.length : Nat)))) (l ++ [x]) := by
  refine ⟨h.1.put _ _, fun a => ?_⟩
  rw [posL_snoc]
  by_cases ha : a = x.a
  · subst ha
    rw [hx]
    simp only [if_true]
    exact ⟨has_put_same h.1 (by simp [WideAt.IsKeyLit]) _, fun k hk z => by cases hk; exact atKey_put_same h.1 (by simp [WideAt.IsKeyLit]) _ _⟩
  · have hne : (Lit.int .i64 a) ≠ Lit.int .i64 x.a := fun e => ha (by cases e; rfl)
    rw [has_put_other hne]
    cases hp : posL l a with
    | none =>
      have := (h.2 a).1
      rw [hp] at this
      rw [if_neg (fun e : x.a = a => ha e.symm)]
      exact ⟨this, fun k hk => by cases hk⟩
    | some k =>
      have h1 := (h.2 a).1
      have h2 := (h.2 a).2 k hp
      rw [hp] at h1
      refine ⟨h1, fun k' hk z => ?_⟩
      rw [atKey_put_other hne, h2]
      cases hk; rfl
theorem IsPl.set {D : DataW Unit} {l : List Pr} (h : IsPl D l) {i : Nat} {x : Pr} (hx : l[i]? = some x) (v : Int) : IsPl D (l.set i ⟨x.a, v⟩) :=
  ⟨h.1, fun a => by rw [posL_set hx]; exact h.2 a⟩

def MapAt (w : World) (b : Nat) (l : List Pr) : Prop := ∃ n D, w.ownsMap Try.prog 3 (plainElem (H := Unit) Try.prog 3) b n D ∧ n ≤ l.length ∧ IsPl D l
theorem MapAt.same {w w' : World} {b : Nat} {l : List Pr} (h : MapAt w b l) (e : w'.heap[b]? = w.heap[b]?) : MapAt w' b l := by
  obtain ⟨n, D, ⟨es, clock, hb, r⟩, h2, h3⟩ := h
  exact ⟨n, D, ⟨es, clock, e.trans hb, r⟩, h2, h3⟩
theorem MapAt.obj {w : World} {b : Nat} {l : List Pr} (h : MapAt w b l) : ∃ es clock, w.heap[b]? = some (.map es clock) := by
  obtain ⟨n, D, ⟨es, clock, hb, r⟩, h2, h3⟩ := h
  exact ⟨_, _, hb⟩
theorem MapAt.lt {w : World} {b : Nat} {l : List Pr} (h : MapAt w b l) : b < w.heap.size := by obtain ⟨_, _, h⟩ := h.obj; exact (Array.getElem?_eq_some_iff.1 h).1
theorem MapAt.ne {w : World} {b c : Nat} {l : List Pr} (h : MapAt w b l) {cs : Array Value} {t : TypeId} {fr : Nat × Nat} (hc : w.heap[c]? = some (.cells cs t fr)) : c ≠ b := by
  obtain ⟨_, _, h⟩ := h.obj
  rintro rfl
  rw [h] at hc; cases hc
theorem MapAt.made (w : World) : MapAt (w.alloc (.map #[] 0)) w.heap.size [] := ⟨0, _, World.ownsMap_made w _ _ _, Nat.le_refl _, isPl_nil⟩
theorem MapAt.wset {w : World} {b : Nat} {l : List Pr} (h : MapAt w b l) {i : Nat} {x : Pr} (hx : l[i]? = some x) (v : Int) : MapAt w b (l.set i ⟨x.a, v⟩) := by
  obtain ⟨n, D, h1, h2, h3⟩ := h
  exact ⟨n, D, h1, by simpa using h2, h3.set hx v⟩

section
variable {w : World} {ops : Array Oper} {rest : List Oper} {o : Oper} {a : Act} {Q : Exit → Act → World → Prop}
theorem wpList_look_yes (hg : o.guard = none) (m x : Operand) (hop : o.op = Op.lookup 68 m x true) (b : Nat) (l : List Pr) (ad : Int) (i : Nat) (hm : a.eval m = .map (some b)) (hx : a.eval x = .int .i64 ad) (h : MapAt w b l) (hw : (Lit.int .i64 ad).wf = true) (hp : posL l ad = some i)
    (hK : wpList Try.prog ops Q rest (a.put o.dst (.tuple #[.int .i64 (i : Nat), .bool true])) w) : wpList Try.prog ops Q (o :: rest) a w := by
  obtain ⟨n, D, h1, h2, h3⟩ := h
  refine wpList_lookup_own_ok_int w hg m x 68 hop 3 3 .i64 Try.keyI Try.underlying68 Try.underlying3 (Try.zeroI w) b n D hm h1 _ _ hx (keyOf_int_mk Try.underlying3 hw) ?_
  intro c hat _
  rw [(h3.2 ad).2 i hp] at hat
  rw [(h3.2 ad).1, hp]
  cases hat
  exact hK
theorem wpList_look_no (hg : o.guard = none) (m x : Operand) (hop : o.op = Op.lookup 68 m x true) (b : Nat) (l : List Pr) (ad : Int) (hm : a.eval m = .map (some b)) (hx : a.eval x = .int .i64 ad) (h : MapAt w b l) (hw : (Lit.int .i64 ad).wf = true) (hp : posL l ad = none)
    (hK : wpList Try.prog ops Q rest (a.put o.dst (.tuple #[.int .i64 0, .bool false])) w) : wpList Try.prog ops Q (o :: rest) a w := by
  obtain ⟨n, D, h1, h2, h3⟩ := h
  refine wpList_lookup_own_ok_int w hg m x 68 hop 3 3 .i64 Try.keyI Try.underlying68 Try.underlying3 (Try.zeroI w) b n D hm h1 _ _ hx (keyOf_int_mk Try.underlying3 hw) ?_
  intro c hat _
  have hh := (h3.2 ad).1
  rw [hp] at hh
  rw [atKey_of_not_has hh] at hat
  rw [hh]
  cases hat
  exact hK
theorem wpList_put_pl (hg : o.guard = none) (m x v : Operand) (hop : o.op = Op.mapUpdate 68 m x v) (b : Nat) (l : List Pr) (y : Pr) (hm : a.eval m = .map (some b)) (hx : a.eval x = .int .i64 y.a) (hv : a.eval v = .int .i64 (l.length : Nat)) (h : MapAt w b l) (hw : (Lit.int .i64 y.a).wf = true) (hp : posL l y.a = none) (hl : l.length ≤ 1000)
    (hK : ∀ w', MapAt w' b (l ++ [y]) → w.grownBy w' (some b) → wpList Try.prog ops Q rest (a.put o.dst undef) w') : wpList Try.prog ops Q (o :: rest) a w := by
  obtain ⟨n, D, h1, h2, h3⟩ := h
  refine wpList_mapUpdate_own w hg m x v 68 hop 3 3 Try.keyI Try.underlying68 _ b n D hm h1 (by unfold maxLen; omega) _ _ _ hx hv (keyOf_int_mk Try.underlying3 hw) (.lit (.int .i64 (l.length : Nat))) [] (plainElem_int Try.underlying3 (WalkArith.wf_i64 (by omega))) ?_
  intro w' k1 k2
  exact hK w' ⟨n + 1, _, k1, by simp; omega, h3.snoc y hp⟩ k2
end

/-! ### A list; a log -/
structure LsAt (w : World) (pv : Value) (b : Nat) (l : List Pr) : Prop where
  row : w.ownsRow 0 84 2 pv l.length (flatP l)
  map : MapAt w b l
  len : l.length ≤ 128
  fit : FitL l
theorem LsAt.same {w w' : World} {pv : Value} {b : Nat} {l : List Pr} (h : LsAt w pv b l) (hb : w'.heap[b]? = w.heap[b]?) (hr : ∀ g, pv.ownBlock = some g → w'.heap[g]? = w.heap[g]?) : LsAt w' pv b l :=
  ⟨owns_same h.row hr, h.map.same hb, h.len, h.fit⟩

def lcells (a : Nat) (pr : Value) (br : Nat) (pw : Value) (bw : Nat) : List Value := [.pointer (some ⟨a, 0, none⟩), pr, .map (some br), pw, .map (some bw)]
structure LgPt (w : World) (a : Nat) (pr : Value) (br : Nat) (pw : Value) (bw : Nat) (f : Lg) : Prop where
  head : Holds w a 89 (lcells a pr br pw bw)
  rl : LsAt w pr br f.r
  wl : LsAt w pw bw f.w
  maps : br ≠ bw
  rows : ∀ g, pr.ownBlock = some g → pw.ownBlock ≠ some g
/-- Whose blocks they are. -/
def Own (a : Nat) (pr : Value) (br : Nat) (pw : Value) (bw : Nat) (k : Nat) : Prop := k = a ∨ k = br ∨ k = bw ∨ pr.ownBlock = some k ∨ pw.ownBlock = some k
def LgAt (w : World) (S : Nat → Prop) (a : Nat) (f : Lg) : Prop := ∃ pr br pw bw, LgPt w a pr br pw bw f ∧ ∀ k, Own a pr br pw bw k → S k

section
variable {w w' : World} {a br bw : Nat} {pr pw : Value} {f : Lg} {S : Nat → Prop}
theorem LgPt.same (h : LgPt w a pr br pw bw f) (hb : ∀ k, Own a pr br pw bw k → w'.heap[k]? = w.heap[k]?) : LgPt w' a pr br pw bw f :=
  ⟨h.head.same (hb a (.inl rfl)), h.rl.same (hb br (.inr (.inl rfl))) (fun g e => hb g (.inr (.inr (.inr (.inl e))))), h.wl.same (hb bw (.inr (.inr (.inl rfl)))) (fun g e => hb g (.inr (.inr (.inr (.inr e))))), h.maps, h.rows⟩
theorem LgPt.lt (h : LgPt w a pr br pw bw f) {k : Nat} (hk : Own a pr br pw bw k) : k < w.heap.size := by
  rcases hk with rfl | rfl | rfl | e | e
  · exact h.head.lt
  · exact h.rl.map.lt
  · exact h.wl.map.lt
  · exact (owns_lt h.rl.row e).2
  · exact (owns_lt h.wl.row e).2
theorem LgAt.frame {C : Nat → Prop} (h : LgAt w S a f) (ht : Tch C w w') (hC : ∀ k, S k → ¬ C k) : LgAt w' S a f := by
  obtain ⟨pr, br, pw, bw, h1, h2⟩ := h
  exact ⟨pr, br, pw, bw, h1.same (fun k hk => ht.block k (h1.lt hk) (hC k (h2 k hk))), h2⟩
theorem LgAt.below (h : LgAt w S a f) (hb : Below w.heap.size w w') : LgAt w' S a f := h.frame (C := fun _ => False) (Tch.of_idle hb) (fun _ _ e => e)
theorem LgAt.more {T : Nat → Prop} (h : LgAt w S a f) (hT : ∀ k, k < w.heap.size → S k → T k) : LgAt w T a f := by
  obtain ⟨pr, br, pw, bw, h1, h2⟩ := h
  exact ⟨pr, br, pw, bw, h1, fun k hk => hT k (h1.lt hk) (h2 k hk)⟩
theorem LgAt.lt (h : LgAt w S a f) : a < w.heap.size := by obtain ⟨pr, br, pw, bw, h1, h2⟩ := h; exact h1.lt (.inl rfl)
theorem LgAt.fit (h : LgAt w S a f) : FitL f.r ∧ FitL f.w ∧ f.r.length ≤ 128 ∧ f.w.length ≤ 128 := by obtain ⟨pr, br, pw, bw, h1, h2⟩ := h; exact ⟨h1.rl.fit, h1.wl.fit, h1.rl.len, h1.wl.len⟩
end
/-- What may have turned behind a call: what was owned, and what is new. -/
def Gr (S : Nat → Prop) (w w' : World) (k : Nat) : Prop := S k ∨ (w.heap.size ≤ k ∧ k < w'.heap.size)

end Go.Proofs.Ytgdfiggloifncaa
