/- What a transaction's stores leave, and what its abort brings back: plain facts. Conditions: those stated in each theorem. -/
import Derived.Test.YtddajnpichchfaaNodeU
namespace Go.Proofs.Ytddajnpichchfaa

/-- One entry turned: what is found behind it. -/
theorem findX_upd {n ways : Nat} {ss : Sets} {u u' : Int} (h : Inv n ways ss u) (hn : 1 ≤ n) {l0 : Int} {i j : Nat} (hf : Finds ss l0 = some (i, j)) {e' : Ent} (hs : e'.state ≠ 0) (hl : e'.line = l0) (h' : Inv n ways (upd ss i j e') u') (l : Int) :
    findX (upd ss i j e') l = if l = l0 then (e', true) else findX ss l := by
  obtain ⟨_, _, hil, hjl, _, hll⟩ := h.finds_some hn hf
  have g := h.getE_upd hil hjl e'
  by_cases hc : l = l0
  · subst hc
    rw [if_pos rfl]
    have g0 : getE (upd ss i j e') i j = e' := by rw [g, if_pos ⟨rfl, rfl⟩]
    have := h'.finds_of hn (i := i) (j := j) (by rw [g0]; exact hs)
    rw [g0, hl] at this
    rw [findX_some this, g0]
  · rw [if_neg hc]
    cases hF : Finds ss l with
    | some x =>
      obtain ⟨i2, j2⟩ := x
      obtain ⟨_, _, _, _, s2, l2⟩ := h.finds_some hn hF
      have g2 : getE (upd ss i j e') i2 j2 = getE ss i2 j2 := by
        rw [g, if_neg]
        rintro ⟨rfl, rfl⟩
        exact hc (l2.symm.trans hll)
      have := h'.finds_of hn (i := i2) (j := j2) (by rw [g2]; exact s2)
      rw [g2, l2] at this
      rw [findX_some this, g2, findX_some hF]
    | none =>
      cases hG : Finds (upd ss i j e') l with
      | none => rw [findX_none hG, findX_none hF]
      | some x =>
        exfalso
        obtain ⟨i2, j2⟩ := x
        obtain ⟨_, _, _, _, s2, l2⟩ := h'.finds_some hn hG
        rw [g] at s2 l2
        split at s2
        · rename_i hx
          rw [if_pos hx] at l2
          exact hc (l2.symm.trans hl)
        · rename_i hx
          rw [if_neg hx] at l2
          exact h.finds_none hF s2 l2

/-- What an entry is within a transaction, where it was e0 as it began. -/
def BackN (e0 e : Ent) : Prop := e.line = e0.line ∧ e.state = e0.state ∧ ((e.write = true ∧ e.old = e0.data) ∨ (e.write = false ∧ e.data = e0.data))
/-- All but marks to read and uses. -/
def SameR (e e' : Ent) : Prop := e'.line = e.line ∧ e'.state = e.state ∧ e'.write = e.write ∧ e'.old = e.old ∧ e'.data = e.data
theorem SameR.refl (e : Ent) : SameR e e := ⟨rfl, rfl, rfl, rfl, rfl⟩
theorem SameR.trans {a b c : Ent} (h : SameR a b) (k : SameR b c) : SameR a c := ⟨k.1.trans h.1, k.2.1.trans h.2.1, k.2.2.1.trans h.2.2.1, k.2.2.2.1.trans h.2.2.2.1, k.2.2.2.2.trans h.2.2.2.2⟩
theorem BackN.same {e0 e e' : Ent} (h : BackN e0 e) (k : SameR e e') : BackN e0 e' := by
  obtain ⟨h1, h2, h3⟩ := h
  obtain ⟨k1, k2, k3, k4, k5⟩ := k
  exact ⟨k1.trans h1, k2.trans h2, by rw [k3, k4, k5]; exact h3⟩
/-- What is found, line by line. -/
def Rel (R : Ent → Ent → Prop) (s s' : Sets) : Prop := ∀ l, (findX s' l).2 = (findX s l).2 ∧ ((findX s l).2 = true → R (findX s l).1 (findX s' l).1)
theorem Rel.refl {R : Ent → Ent → Prop} (h : ∀ e, R e e) (s : Sets) : Rel R s s := fun _ => ⟨rfl, fun _ => h _⟩
theorem Rel.trans {R Q T : Ent → Ent → Prop} (h : ∀ a b c, R a b → Q b c → T a c) {s s' s'' : Sets} (a : Rel R s s') (b : Rel Q s' s'') : Rel T s s'' := fun l =>
  ⟨(b l).1.trans (a l).1, fun hh => h _ _ _ ((a l).2 hh) ((b l).2 ((a l).1.trans hh))⟩
theorem Rel.turn {R : Ent → Ent → Prop} (hr : ∀ e, R e e) {n ways : Nat} {ss : Sets} {u u' : Int} (h : Inv n ways ss u) (hn : 1 ≤ n) {l0 : Int} {i j : Nat} (hf : Finds ss l0 = some (i, j)) {e' : Ent} (hs : e'.state = (getE ss i j).state) (hl : e'.line = (getE ss i j).line) (h' : Inv n ways (upd ss i j e') u') (he : R (getE ss i j) e') :
    Rel R ss (upd ss i j e') := fun l => by
  obtain ⟨_, _, _, _, s0, l0'⟩ := h.finds_some hn hf
  rw [findX_upd h hn hf (by rw [hs]; exact s0) (hl.trans l0') h' l]
  by_cases hc : l = l0
  · subst hc
    rw [if_pos rfl, findX_some hf]
    exact ⟨rfl, fun _ => he⟩
  · rw [if_neg hc]
    exact ⟨rfl, fun _ => hr _⟩

section
variable {k ways : Nat} {n : Nd}
theorem ask_ss (n : Nd) (kd l : Int) : (n.ask kd l).1.ss = n.ss ∧ (n.ask kd l).1.live = n.live ∧ (n.ask kd l).1.lines = n.lines := by unfold Nd.ask; split <;> exact ⟨rfl, rfl, rfl⟩
theorem mark_live (n : Nd) (l : Int) (w : Bool) : (n.mark l w).live = n.live ∧ (n.mark l w).lines = n.lines ∧ (n.mark l w).u = n.u := by unfold Nd.mark; split <;> exact ⟨rfl, rfl, rfl⟩
theorem load_live (n : Nd) (a : Int) : (n.load a).1.live = n.live ∧ (n.load a).1.lines = n.lines := by
  unfold Nd.load; split
  · exact ⟨rfl, rfl⟩
  split
  · exact (ask_ss _ _ _).2
  · exact ⟨(mark_live _ _ _).1, (mark_live _ _ _).2.1⟩
theorem store_live (n : Nd) (a v : Int) : (n.store a v).1.live = n.live ∧ (n.store a v).1.lines = n.lines := by
  unfold Nd.store; split
  · exact ⟨rfl, rfl⟩
  split
  · exact (ask_ss _ _ _).2
  · exact ⟨(mark_live _ _ _).1, (mark_live _ _ _).2.1⟩
theorem markR_rel (h : NI k ways n) (l : Int) : Rel SameR n.ss (n.mark l false).ss := by
  have hi := (h.mark l false).inv
  rw [(mark_live n l false).2.2] at hi
  unfold Nd.mark at hi ⊢
  split
  · rename_i hv
    rw [if_pos hv] at hi
    show Rel SameR n.ss (markL n.ss n.u l false).1
    have hi' : Inv k ways (markL n.ss n.u l false).1 n.u := hi
    unfold markL at hi' ⊢
    split
    · exact Rel.refl SameR.refl _
    · rename_i i j hf
      rw [hf] at hi'
      exact Rel.turn SameR.refl h.inv h.k1 hf rfl rfl hi' ⟨rfl, rfl, rfl, rfl, rfl⟩
  · exact Rel.refl SameR.refl _
theorem wordL_rel (h : NI k ways n) (a : Int) : Rel SameR n.ss (wordL n.ss n.u a).1 := by
  have hi := (h.wordL a).inv
  simp only at hi
  unfold wordL at hi ⊢
  split
  · exact Rel.refl SameR.refl _
  · rename_i ha
    rw [if_neg ha] at hi
    split
    · exact Rel.refl SameR.refl _
    · rename_i i j hf
      simp only [hf] at hi
      exact Rel.turn SameR.refl h.inv h.k1 hf rfl rfl hi ⟨rfl, rfl, rfl, rfl, rfl⟩
theorem load_rel (h : NI k ways n) (a : Int) : Rel SameR n.ss (n.load a).1.ss := by
  unfold Nd.load; split
  · exact Rel.refl SameR.refl _
  split
  · rw [(ask_ss _ _ _).1]; exact Rel.refl SameR.refl _
  · have h2 := wordL_rel (h.mark (a / 8) false) a
    rw [(mark_live n (a / 8) false).2.2] at h2
    exact Rel.trans (R := SameR) (Q := SameR) (T := SameR) (fun _ _ _ => SameR.trans) (markR_rel h (a / 8)) h2
theorem lineOf_ok {n : Nd} {a : Int} (h : ¬ (n.lineOf a).2 ≠ 0) : 0 ≤ a ∧ (n.lineOf a).2 = 0 := by
  have h0 : (n.lineOf a).2 = 0 := by simpa using h
  refine ⟨?_, h0⟩
  unfold Nd.lineOf at h0
  split at h0
  · rename_i hc; simp only [Bool.and_eq_true, decide_eq_true_eq] at hc; exact hc.1
  · simp at h0
theorem store_done (h : NI k ways n) (hv : n.live = true) {a v : Int} (hd : (n.store a v).2.1 = true) :
    0 ≤ a ∧ (n.lineOf a).2 = 0 ∧ ∃ e u', findX n.ss (a / 8) = (e, true) ∧ e.state = 2 ∧ ∀ l, findX (n.store a v).1.ss l = if l = a / 8 then ({ e.keep with used := u', data := e.keep.data.set (a.toNat % 8) v }, true) else findX n.ss l := by
  unfold Nd.store at hd ⊢
  split
  · rename_i hc; rw [if_pos hc] at hd; cases hd
  rename_i hc
  obtain ⟨ha, hlo⟩ := lineOf_ok hc
  rw [if_neg hc] at hd
  split
  · rename_i hs; rw [if_pos hs] at hd; cases hd
  rename_i hs
  clear hd
  have hs2 : stateL n.ss (a / 8) = 2 := by simpa using hs
  have ha8 : ((a.toNat / 8 : Nat) : Int) = a / 8 := by omega
  unfold stateL at hs2
  cases hf : Finds n.ss (a / 8) with
  | none => rw [findX_none hf] at hs2; simp [Ent.zero] at hs2
  | some x =>
    obtain ⟨i, j⟩ := x
    rw [findX_some hf] at hs2
    simp only at hs2
    refine ⟨ha, hlo, getE n.ss i j, n.u + 1, findX_some hf, hs2, fun l => ?_⟩
    obtain ⟨_, _, hil, hjl, s0, l0⟩ := h.inv.finds_some h.k1 hf
    have hks := Ent.keep_same (getE n.ss i j)
    have hm : (n.mark (a / 8) true).ss = upd n.ss i j (getE n.ss i j).keep := by
      unfold Nd.mark
      rw [if_pos hv]
      show (markL n.ss n.u (a / 8) true).1 = _
      unfold markL
      rw [hf]
      show (if true = true then (if (getE n.ss i j).state = 2 then _ else _) else _ : Sets × Int × Value).1 = _
      rw [if_pos rfl, if_pos hs2]
    have i1 := (h.mark (a / 8) true).inv
    have i2 := ((h.mark (a / 8) true).putL a v).inv
    simp only at i2
    rw [(mark_live n (a / 8) true).2.2, hm] at i1 i2
    show findX (putL (n.mark (a / 8) true).ss n.u a v).1 l = _
    rw [hm]
    have g1 : getE (upd n.ss i j (getE n.ss i j).keep) i j = (getE n.ss i j).keep := by rw [h.inv.getE_upd hil hjl, if_pos ⟨rfl, rfl⟩]
    have f0 := findX_upd h.inv h.k1 hf (e' := (getE n.ss i j).keep) (by rw [hks.1]; exact s0) (hks.2.1.trans l0) i1 l
    generalize e1 : upd n.ss i j (getE n.ss i j).keep = sa at *
    have f1 : Finds sa (a / 8) = some (i, j) := by
      have := i1.finds_of h.k1 (i := i) (j := j) (by rw [g1, hks.1]; exact s0)
      rwa [g1, hks.2.1, l0] at this
    have hp : (putL sa n.u a v).1 = upd sa i j { getE sa i j with used := n.u + 1, data := (getE sa i j).data.set (a.toNat % 8) v } ∧ (putL sa n.u a v).2.1 = n.u + 1 := by
      unfold putL
      rw [if_neg (by omega), ha8, f1]
      show (if (getE sa i j).state = 2 then _ else _ : Sets × Int × Value).1 = _ ∧ (if (getE sa i j).state = 2 then _ else _ : Sets × Int × Value).2.1 = _
      rw [if_pos (by rw [g1, hks.1]; exact hs2)]
      exact ⟨rfl, rfl⟩
    rw [hp.1, hp.2, g1] at i2
    rw [hp.1, g1]
    rw [findX_upd i1 h.k1 f1 (by simp only; rw [hks.1]; exact s0) (by simp only; rw [hks.2.1]; exact l0) i2 l, f0]
    by_cases hl : l = a / 8
    · rw [if_pos hl, if_pos hl]
    · rw [if_neg hl, if_neg hl, if_neg hl]
theorem store_not {a v : Int} (hd : (n.store a v).2.1 = false) : (n.store a v).1.ss = n.ss := by
  unfold Nd.store at hd ⊢
  split
  · rfl
  rename_i hc
  rw [if_neg hc] at hd
  split
  · exact (ask_ss _ _ _).1
  · rename_i hs; rw [if_neg hs] at hd; cases hd
theorem load_word (h : NI k ways n) {a : Int} (ha : 0 ≤ a) (hl : (n.lineOf a).2 = 0) {e : Ent} (hf : findX n.ss (a / 8) = (e, true)) (hs : e.state ≠ 0) : (n.load a).2.1 = e.data.get (a.toNat % 8) ∧ (n.load a).2.2.1 = true := by
  have hst : ¬ stateL n.ss (a / 8) = 0 := by unfold stateL; rw [hf]; exact hs
  unfold Nd.load
  rw [if_neg (by rw [hl]; simp), if_neg hst]
  refine ⟨?_, rfl⟩
  show (wordX (n.mark (a / 8) false).ss a).1 = _
  have hr := markR_rel h (a / 8) (a / 8)
  rw [hf] at hr
  have hr2 := hr.2 rfl
  obtain ⟨i, j, hF, hG⟩ := findX_of (ss := (n.mark (a / 8) false).ss) (l := a / 8) (e := (findX (n.mark (a / 8) false).ss (a / 8)).1) (Prod.ext rfl hr.1)
  have ha8 : ((a.toNat / 8 : Nat) : Int) = a / 8 := by omega
  unfold wordX
  rw [if_neg (by omega), ha8, hF]
  show (getE (n.mark (a / 8) false).ss i j).data.get (a.toNat % 8) = _
  rw [hG, hr2.2.2.2.2]

/-- A store, and the word that is read behind it. -/
def Nd.put (n : Nd) (a v : Int) : Nd := ((n.store a v).1.load a).1
def Nd.puts (n : Nd) (ys : List (Int × Int)) : Nd := ys.foldl (fun n y => n.put y.1 y.2) n
theorem puts_take (ys : List (Int × Int)) (n : Nd) {k : Nat} {y : Int × Int} (h : ys[k]? = some y) : n.puts (ys.take (k + 1)) = (n.puts (ys.take k)).put y.1 y.2 := by
  simp [Nd.puts, List.take_add_one, h]
theorem lineOf_store (n : Nd) (a v b : Int) : ((n.store a v).1.lineOf b) = n.lineOf b := by
  have := (store_live n a v).2
  unfold Nd.lineOf Nd.isLine
  rw [this]
theorem L8.get_set (d : L8) (i : Nat) (v : Int) (hi : i < 8) : (d.set i v).get i = v := by
  match i, hi with
  | 0, _ | 1, _ | 2, _ | 3, _ | 4, _ | 5, _ | 6, _ | 7, _ => rfl
theorem put_word (h : NI k ways n) (hv : n.live = true) {a v : Int} (hd : (n.store a v).2.1 = true) : ((n.store a v).1.load a).2.1 = v ∧ ((n.store a v).1.load a).2.2.1 = true := by
  obtain ⟨ha, hlo, e, u', _, hs, hall⟩ := store_done h hv hd
  have hf := hall (a / 8)
  rw [if_pos rfl] at hf
  have := load_word (h.store a v) ha (by rw [lineOf_store]; exact hlo) hf (by simp only; rw [(Ent.keep_same e).1, hs]; decide)
  rw [this.1, this.2]
  exact ⟨L8.get_set _ _ _ (Nat.mod_lt _ (by omega)), rfl⟩
theorem findX_false {ss : Sets} {l : Int} (h : (findX ss l).2 = false) : (findX ss l).1 = Ent.zero := by
  cases hf : Finds ss l with
  | none => rw [findX_none hf]
  | some x => obtain ⟨i, j⟩ := x; rw [findX_some hf] at h; cases h
theorem load_data (h : NI k ways n) (a l : Int) : (findX (n.load a).1.ss l).1.data = (findX n.ss l).1.data := by
  have hr := load_rel h a l
  cases hb : (findX n.ss l).2 with
  | true => exact (hr.2 hb).2.2.2.2
  | false => rw [findX_false hb, findX_false (by rw [hr.1]; exact hb)]
theorem keep_data (e : Ent) : e.keep.data = e.data := by unfold Ent.keep; split <;> rfl
theorem put_data (h : NI k ways n) (hv : n.live = true) (a v l : Int) : (findX (n.put a v).ss l).1.data = if (n.store a v).2.1 = true ∧ l = a / 8 then (findX n.ss l).1.data.set (a.toNat % 8) v else (findX n.ss l).1.data := by
  unfold Nd.put
  rw [load_data (h.store a v) a l]
  cases hd : (n.store a v).2.1 with
  | true =>
    obtain ⟨_, _, e, u', hf, _, hall⟩ := store_done h hv hd
    rw [hall l]
    by_cases hl : l = a / 8
    · subst hl
      rw [if_pos rfl, if_pos ⟨rfl, rfl⟩, hf, keep_data]
    · rw [if_neg hl, if_neg (by simp [hl])]
  | false => rw [store_not hd, if_neg (by simp)]
theorem BackN.keepPut {e0 e : Ent} (h : BackN e0 e) (u : Int) (d : L8) : BackN e0 { e.keep with used := u, data := d } := by
  obtain ⟨h1, h2, h3⟩ := h
  unfold Ent.keep
  split
  · rename_i hw
    refine ⟨h1, h2, .inl ?_⟩
    rcases h3 with h3 | h3
    · exact h3
    · rw [hw] at h3; cases h3.1
  · rename_i hw
    refine ⟨h1, h2, .inl ⟨rfl, ?_⟩⟩
    rcases h3 with h3 | h3
    · exact absurd h3.1 hw
    · exact h3.2
theorem put_back (h : NI k ways n) (hv : n.live = true) {s1 : Sets} (hb : Rel BackN s1 n.ss) (a v : Int) : Rel BackN s1 (n.put a v).ss := by
  unfold Nd.put
  refine Rel.trans (R := BackN) (Q := SameR) (T := BackN) (fun _ _ _ => BackN.same) ?_ (load_rel (h.store a v) a)
  cases hd : (n.store a v).2.1 with
  | true =>
    obtain ⟨_, _, e, u', hf, _, hall⟩ := store_done h hv hd
    intro l
    rw [hall l]
    by_cases hl : l = a / 8
    · subst hl
      rw [if_pos rfl]
      have := hb (a / 8)
      rw [hf] at this
      exact ⟨this.1, fun hh => (this.2 hh).keepPut _ _⟩
    · rw [if_neg hl]; exact hb l
  | false => rw [store_not hd]; exact hb
/-- What the stores of a transaction keep. -/
structure TxI (k ways : Nat) (n1 n : Nd) : Prop where
  ni : NI k ways n
  live : n.live = true
  lines : n.lines = n1.lines
  back : Rel BackN n1.ss n.ss
theorem TxI.put {n1 : Nd} (h : TxI k ways n1 n) (a v : Int) : TxI k ways n1 (n.put a v) :=
  ⟨(h.ni.store a v).load a, by unfold Nd.put; rw [(load_live _ _).1, (store_live _ _ _).1]; exact h.live, by unfold Nd.put; rw [(load_live _ _).2, (store_live _ _ _).2]; exact h.lines, put_back h.ni h.live h.back a v⟩
theorem TxI.puts {n1 : Nd} : ∀ (ys : List (Int × Int)) {n : Nd}, TxI k ways n1 n → TxI k ways n1 (n.puts ys)
  | [], _, h => h
  | y :: ys, _, h => TxI.puts ys (h.put y.1 y.2)
theorem gr_put (n : Nd) (a v : Int) : Grow 4 2 n (n.put a v) := by
  have h1 := gr_step n ⟨1, a, v, 0, MsgV.zero⟩
  have h2 := gr_step (n.store a v).1 ⟨0, a, 0, 0, MsgV.zero⟩
  exact (Grow.trans (a := 2) (b := 1) h1 h2).mono (by omega) (by omega)
theorem gr_puts : ∀ (ys : List (Int × Int)) (n : Nd), Grow (4 * ys.length) (2 * ys.length) n (n.puts ys)
  | [], n => (Grow.refl n).mono (by simp) (by simp)
  | y :: ys, n => by
    have h := (gr_put n y.1 y.2).trans (gr_puts ys (n.put y.1 y.2))
    exact h.mono (by simp; omega) (by simp; omega)

/-! ### The rows behind it -/
theorem fm_rel (f g : Nat → Option Ent) (R : Ent → Ent → Prop) (h : ∀ k, ((f k).isSome = (g k).isSome) ∧ ∀ a b, f k = some a → g k = some b → R a b) : ∀ l : List Nat, (l.filterMap g).length = (l.filterMap f).length ∧ ∀ (i : Nat) a b, (l.filterMap f)[i]? = some a → (l.filterMap g)[i]? = some b → R a b
  | [] => ⟨rfl, fun i a b h1 _ => by simp at h1⟩
  | x :: l => by
    obtain ⟨h1, h2⟩ := fm_rel f g R h l
    obtain ⟨hs, hr⟩ := h x
    cases hf : f x with
    | none =>
      cases hg : g x with
      | some b => rw [hf, hg] at hs; cases hs
      | none =>
        rw [List.filterMap_cons_none hf, List.filterMap_cons_none hg]
        exact ⟨h1, h2⟩
    | some a =>
      cases hg : g x with
      | none => rw [hf, hg] at hs; cases hs
      | some b =>
        rw [List.filterMap_cons_some hf, List.filterMap_cons_some hg]
        refine ⟨by simp [h1], fun i a' b' ha hb => ?_⟩
        cases i with
        | zero => simp at ha hb; subst ha hb; exact hr a b hf hg
        | succ i => simp at ha hb; exact h2 i a' b' ha hb
theorem all_rel {R : Ent → Ent → Prop} {n n' : Nd} (hl : n'.lines = n.lines) (h : Rel R n.ss n'.ss) : n'.all.length = n.all.length ∧ ∀ (i : Nat) e e', n.all[i]? = some e → n'.all[i]? = some e' → R e e' := by
  unfold Nd.all
  rw [hl]
  refine fm_rel _ _ R (fun k => ?_) _
  have hk := h k
  rw [hk.1]
  cases hb : (findX n.ss (k : Int)).2 with
  | true => exact ⟨rfl, fun a b ha hb' => by simp at ha hb'; subst ha hb'; exact hk.2 hb⟩
  | false => exact ⟨rfl, fun a b ha _ => by simp at ha⟩
/-- What is written down of the stores. -/
def wantL (es : List Ent) (ss : Sets) : List Ent := es.map fun e => { e with data := (findX ss e.line).1.data }
theorem wantL_len (es : List Ent) (ss : Sets) : (wantL es ss).length = es.length := by simp [wantL]
theorem wantL_start {k ways : Nat} {n : Nd} (h : NI k ways n) : wantL n.all n.ss = n.all := by
  unfold wantL
  conv => rhs; rw [← List.map_id n.all]
  refine List.map_congr_left (fun e he => ?_)
  rw [h.all_find he]
  rfl
theorem wantL_put {k ways : Nat} {n : Nd} (h : NI k ways n) (hv : n.live = true) (es : List Ent) (a v : Int) : wantL es (n.put a v).ss = (wantL es n.ss).map fun e => if (n.store a v).2.1 = true ∧ e.line = a / 8 then { e with data := e.data.set (a.toNat % 8) v } else e := by
  unfold wantL
  rw [List.map_map]
  refine List.map_congr_left (fun e _ => ?_)
  rw [put_data h hv]
  simp only [Function.comp]
  by_cases hc : (n.store a v).2.1 = true ∧ e.line = a / 8
  · rw [if_pos hc, if_pos hc]
  · rw [if_neg hc, if_neg hc]
/-- As law wants the rows: marks gone. -/
def FinR (e e' : Ent) : Prop := e'.line = e.line ∧ e'.data = e.data ∧ e'.state = e.state ∧ e'.read = false ∧ e'.write = false
theorem back_fin {e0 e : Ent} (h : BackN e0 e) : FinR e0 e.back.clear := by
  obtain ⟨h1, h2, h3⟩ := h
  refine ⟨(back_line e).trans h1, ?_, (back_state e).trans h2, rfl, rfl⟩
  rcases h3 with ⟨hw, ho⟩ | ⟨hw, hd⟩
  · rw [back_data hw, ho]
  · unfold Ent.back Ent.clear
    rw [if_neg (by rw [hw]; simp)]
    exact hd
theorem disc_fin {s1 s : Sets} (h : Rel BackN s1 s) {k ways : Nat} {u : Int} (hi : Inv k ways s u) (hk : 1 ≤ k) : Rel FinR s1 (disc s) := fun l => by
  have hl := h l
  cases hf : Finds s l with
  | none =>
    have h2 : Finds (disc s) l = none := by rw [disc_finds]; exact hf
    rw [findX_none hf] at hl
    rw [findX_none h2]
    exact ⟨hl.1, fun hh => by rw [hh] at hl; cases hl.1⟩
  | some x =>
    obtain ⟨i, j⟩ := x
    have h2 : Finds (disc s) l = some (i, j) := by rw [disc_finds]; exact hf
    have hs := (hi.finds_some hk hf).2.2.2.2.1
    rw [findX_some hf] at hl
    rw [findX_some h2, disc_getE _ _ _ hs]
    exact ⟨hl.1, fun hh => back_fin (hl.2 hh)⟩
/-- The rows behind a commit, against those that were written down. -/
def FinW (ss : Sets) (e e' : Ent) : Prop := FinR { e with data := (findX ss e.line).1.data } e'
theorem clear_fin {s1 s : Sets} (h : Rel BackN s1 s) {k ways : Nat} {u u1 : Int} (hi : Inv k ways s u) (hi1 : Inv k ways s1 u1) (hk : 1 ≤ k) : Rel (FinW s) s1 (turnAll Ent.clear s) := fun l => by
  have hl := h l
  cases hf : Finds s l with
  | none =>
    have h2 : Finds (turnAll Ent.clear s) l = none := by rw [finds_all Ent.clear (fun e => (Ent.clear_same e).1) (fun e => (Ent.clear_same e).2.1)]; exact hf
    rw [findX_none hf] at hl
    rw [findX_none h2]
    exact ⟨hl.1, fun hh => by rw [hh] at hl; cases hl.1⟩
  | some x =>
    obtain ⟨i, j⟩ := x
    have h2 : Finds (turnAll Ent.clear s) l = some (i, j) := by rw [finds_all Ent.clear (fun e => (Ent.clear_same e).1) (fun e => (Ent.clear_same e).2.1)]; exact hf
    have hs := (hi.finds_some hk hf).2.2.2.2.1
    have hX := findX_some hf
    rw [hX] at hl
    rw [findX_some h2, getE_turnAll, if_pos hs]
    refine ⟨hl.1, fun hh => ?_⟩
    obtain ⟨b1, b2, b3⟩ := hl.2 hh
    have hln : (findX s1 l).1.line = l := by
      obtain ⟨i', j', hF, hG⟩ := findX_of (ss := s1) (l := l) (e := (findX s1 l).1) (Prod.ext rfl hh)
      rw [← hG]
      exact (hi1.finds_some hk hF).2.2.2.2.2
    refine ⟨b1, ?_, b2, rfl, rfl⟩
    show (getE s i j).data = (findX s (findX s1 l).1.line).1.data
    rw [hln, hX]
end

end Go.Proofs.Ytddajnpichchfaa
