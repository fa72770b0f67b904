/- A node's steps: plain facts. Conditions: those stated in each theorem. -/
import Derived.Test.YtddajnpichchfaaNodeP
namespace Go.Proofs.Ytddajnpichchfaa

/-- A step that came in. -/
structure StepN where
  kind : Int
  n : Int
  v : Int
  old : Int
  m : MsgV
def Nd.step (nd : Nd) (x : StepN) : Nd × List MsgV :=
  if x.kind == 0 then ((nd.load x.n).1, (nd.load x.n).2.2.2.1)
  else if x.kind == 1 then ((nd.store x.n x.v).1, (nd.store x.n x.v).2.2.1)
  else if x.kind == 2 then ((nd.cas x.n x.old x.v).1, (nd.cas x.n x.old x.v).2.2.2.1)
  else if x.kind == 3 then (nd.begin.1, [])
  else if x.kind == 4 then (nd.commit.1, [])
  else if x.kind == 5 then ((nd.abortC x.n).1, [])
  else if x.kind == 6 then ((nd.hear x.m).1, (nd.hear x.m).2.1)
  else if x.kind == 7 then ((nd.drop x.n).1, (nd.drop x.n).2.1)
  else (nd, [])
def Nd.play (nd : Nd) (xs : List StepN) : Nd := xs.foldl (fun n x => (n.step x).1) nd

/-! ### All entries -/
def AllE (Q : Ent → Prop) (ss : Sets) : Prop := ∀ i j, Q (getE ss i j)
theorem getE_upd' (ss : Sets) (i j : Nat) (e : Ent) (i' j' : Nat) : getE (upd ss i j e) i' j' = e ∨ getE (upd ss i j e) i' j' = getE ss i' j' := by
  unfold getE upd
  simp only [List.getD_eq_getElem?_getD, List.getElem?_set]
  split
  · rename_i h
    subst h
    split
    · rename_i hi
      simp only [Option.getD_some, List.getElem?_set]
      split
      · split
        · exact .inl rfl
        · right
          rename_i h2 h3
          subst h2
          rw [List.getElem?_eq_none (l := ss[i]?.getD []) (by omega)]
      · exact .inr rfl
    · right
      rename_i hi
      rw [List.getElem?_eq_none (l := ss) (by omega)]
  · exact .inr rfl
theorem AllE.upd {Q : Ent → Prop} {ss : Sets} (h : AllE Q ss) (i j : Nat) {e : Ent} (he : Q e) : AllE Q (upd ss i j e) := fun i' j' => by
  rcases getE_upd' ss i j e i' j' with h1 | h1 <;> rw [h1]
  · exact he
  · exact h i' j'
theorem AllE.mono {Q R : Ent → Prop} {ss : Sets} (h : AllE Q ss) (hq : ∀ e, Q e → R e) : AllE R ss := fun i j => hq _ (h i j)

/-- What is so of an entry's marks. -/
def MarkQ (live : Bool) (e : Ent) : Prop := (live = false → e.read = false ∧ e.write = false) ∧ (e.write = true → e.state = 2)
structure NI (k ways : Nat) (n : Nd) : Prop where
  inv : Inv k ways n.ss n.u
  k1 : 1 ≤ k
  u0 : 0 ≤ n.u
  marks : AllE (MarkQ n.live) n.ss
theorem MarkQ.clean {live : Bool} {e : Ent} (h1 : e.read = false) (h2 : e.write = false) : MarkQ live e := ⟨fun _ => ⟨h1, h2⟩, fun h => by rw [h2] at h; cases h⟩

section
variable {k ways : Nat} {n : Nd}
theorem clean_all {ss : Sets} {u : Int} (h : Inv k ways ss u) (live : Bool) (f : Ent → Ent) (hf : ∀ e, (f e).read = false ∧ (f e).write = false) : AllE (MarkQ live) (turnAll f ss) := fun i j => by
  rw [getE_turnAll]
  split
  · exact MarkQ.clean (hf _).1 (hf _).2
  · rename_i hs
    rw [h.zero i j (by simpa using hs)]
    exact MarkQ.clean rfl rfl
theorem inv_back {ss : Sets} {u : Int} (h : Inv k ways ss u) : Inv k ways (turnAll Ent.back ss) u := h.all (fun e => (Ent.back_same e).1) (fun e => (Ent.back_same e).2.1) (fun e => (Ent.back_same e).2.2)
theorem NI.abort (h : NI k ways n) (c : Int) : NI k ways (n.abort c) := ⟨h.inv.discard, h.k1, h.u0, clean_all (inv_back h.inv) _ _ (fun _ => ⟨rfl, rfl⟩)⟩
theorem NI.lose (h : NI k ways n) (l : Int) : NI k ways (n.lose l) := by unfold Nd.lose; split <;> exact h.abort _
theorem finds_all {ss : Sets} (f : Ent → Ent) (h1 : ∀ e, (f e).state = e.state) (h2 : ∀ e, (f e).line = e.line) (l : Int) : Finds (turnAll f ss) l = Finds ss l := by
  unfold Finds
  split
  · rfl
  · have hl : (turnAll f ss).length = ss.length := by simp [turnAll]
    rw [hl]
    congr 1
    unfold turnAll
    simp only [List.getD_eq_getElem?_getD, List.getElem?_map]
    cases hs : ss[l.toNat % ss.length]? with
    | none => rfl
    | some s =>
      simp only [Option.map_some, Option.getD_some, List.findIdx?_map]
      congr 1
      funext e
      simp only [Function.comp, Ent.is]
      by_cases h0 : e.state = 0
      · simp [h0]
      · simp [h0, h1, h2]
theorem NI.mark (h : NI k ways n) (l : Int) (wr : Bool) : NI k ways (n.mark l wr) := by
  unfold Nd.mark
  split
  · rename_i hl
    have hi := h.inv.markL h.k1 h.u0 l wr
    rw [markL_u] at hi
    refine ⟨hi, h.k1, h.u0, ?_⟩
    show AllE (MarkQ n.live) (markL n.ss n.u l wr).1
    rw [hl]
    have hm := h.marks
    rw [hl] at hm
    unfold markL
    split
    · exact hm
    · rename_i i j hf
      split
      · split
        · rename_i hs
          refine hm.upd i j ⟨fun h => (by cases h), fun _ => ?_⟩
          rw [(Ent.keep_same _).1]; exact hs
        · exact hm
      · exact hm.upd i j ⟨fun h => (by cases h), (hm i j).2⟩
  · exact h
theorem NI.wordL (h : NI k ways n) (a : Int) : NI k ways { n with ss := (Go.Proofs.Ytddajnpichchfaa.wordL n.ss n.u a).1, u := (Go.Proofs.Ytddajnpichchfaa.wordL n.ss n.u a).2.1 } := by
  refine ⟨h.inv.wordL h.k1 h.u0 a, h.k1, ?_, ?_⟩
  · show 0 ≤ (Go.Proofs.Ytddajnpichchfaa.wordL n.ss n.u a).2.1
    have := h.u0
    unfold Go.Proofs.Ytddajnpichchfaa.wordL; (repeat' split) <;> simp <;> omega
  · show AllE (MarkQ n.live) (Go.Proofs.Ytddajnpichchfaa.wordL n.ss n.u a).1
    unfold Go.Proofs.Ytddajnpichchfaa.wordL
    split
    · exact h.marks
    · split
      · exact h.marks
      · exact h.marks.upd _ _ (h.marks _ _)
theorem NI.putL (h : NI k ways n) (a v : Int) : NI k ways { n with ss := (Go.Proofs.Ytddajnpichchfaa.putL n.ss n.u a v).1, u := (Go.Proofs.Ytddajnpichchfaa.putL n.ss n.u a v).2.1 } := by
  refine ⟨h.inv.putL h.k1 h.u0 a v, h.k1, ?_, ?_⟩
  · show 0 ≤ (Go.Proofs.Ytddajnpichchfaa.putL n.ss n.u a v).2.1
    have := h.u0
    unfold Go.Proofs.Ytddajnpichchfaa.putL; (repeat' split) <;> simp <;> omega
  · show AllE (MarkQ n.live) (Go.Proofs.Ytddajnpichchfaa.putL n.ss n.u a v).1
    unfold Go.Proofs.Ytddajnpichchfaa.putL
    split
    · exact h.marks
    · split
      · exact h.marks
      · split
        · exact h.marks.upd _ _ (h.marks _ _)
        · exact h.marks
theorem NI.dropL (h : NI k ways n) (l : Int) : NI k ways (n.dropL l) := by
  have hi := h.inv.dropL h.k1 l
  rw [dropL_u] at hi
  refine ⟨hi, h.k1, h.u0, ?_⟩
  show AllE (MarkQ n.live) (Go.Proofs.Ytddajnpichchfaa.dropL n.ss n.u l).1
  unfold Go.Proofs.Ytddajnpichchfaa.dropL
  split
  · exact h.marks
  · exact h.marks.upd _ _ (MarkQ.clean rfl rfl)
theorem NI.fillL (h : NI k ways n) (l st : Int) (d : L8) : NI k ways (n.fillL l st d) := by
  refine ⟨h.inv.fillL h.k1 h.u0 l st d, h.k1, ?_, ?_⟩
  · show 0 ≤ (Go.Proofs.Ytddajnpichchfaa.fillL n.ss n.u l st d).2.1
    have := h.u0
    unfold Go.Proofs.Ytddajnpichchfaa.fillL; (repeat' split) <;> simp <;> omega
  · show AllE (MarkQ n.live) (Go.Proofs.Ytddajnpichchfaa.fillL n.ss n.u l st d).1
    unfold Go.Proofs.Ytddajnpichchfaa.fillL
    split
    · exact h.marks
    · split
      · exact h.marks
      · split
        · exact h.marks
        · exact h.marks.upd _ _ (MarkQ.clean rfl rfl)
theorem NI.out (h : NI k ways n) (m : MsgV) : NI k ways { n with out := m } := ⟨h.inv, h.k1, h.u0, h.marks⟩
theorem NI.backs (h : NI k ways n) (l : List Int) : NI k ways { n with backs := l } := ⟨h.inv, h.k1, h.u0, h.marks⟩
theorem NI.ask (h : NI k ways n) (kd l : Int) : NI k ways (n.ask kd l).1 := by
  unfold Nd.ask; split
  · exact h
  · exact h.out _
theorem NI.letGo (h : NI k ways n) (e : Ent) : NI k ways (n.letGo e).1 := by
  unfold Nd.letGo; split
  · exact h.backs _
  · exact h
theorem NI.fill (h : NI k ways n) (l st : Int) (d : L8) : NI k ways (n.fill l st d).1 := by
  unfold Nd.fill; split
  · exact ((h.abort 3).fillL l st d).letGo _
  · exact (h.fillL l st d).letGo _
theorem NI.promoteL (h : NI k ways n) (l : Int) (d : L8) : NI k ways { n with ss := (Go.Proofs.Ytddajnpichchfaa.promoteL n.ss n.u l d).1 } := by
  have hi := h.inv.promoteL h.k1 h.u0 l d
  rw [promoteL_u] at hi
  refine ⟨hi, h.k1, h.u0, ?_⟩
  show AllE (MarkQ n.live) (Go.Proofs.Ytddajnpichchfaa.promoteL n.ss n.u l d).1
  unfold Go.Proofs.Ytddajnpichchfaa.promoteL
  split
  · exact h.marks
  · split
    · exact h.marks.upd _ _ ⟨(h.marks _ _).1, fun _ => rfl⟩
    · exact h.marks
theorem NI.demoteL (h : NI k ways n) (l : Int) (hw : ∀ i j, Finds n.ss l = some (i, j) → (getE n.ss i j).write = false) : NI k ways { n with ss := (Go.Proofs.Ytddajnpichchfaa.demoteL n.ss n.u l).1 } := by
  have hi := h.inv.demoteL h.k1 h.u0 l
  rw [demoteL_u] at hi
  refine ⟨hi, h.k1, h.u0, ?_⟩
  show AllE (MarkQ n.live) (Go.Proofs.Ytddajnpichchfaa.demoteL n.ss n.u l).1
  unfold Go.Proofs.Ytddajnpichchfaa.demoteL
  split
  · exact h.marks
  · rename_i i j hf
    split
    · exact h.marks.upd _ _ ⟨(h.marks _ _).1, fun hc => by simp only [hw i j hf] at hc; cases hc⟩
    · exact h.marks
theorem findX_some {ss : Sets} {l : Int} {i j : Nat} (h : Finds ss l = some (i, j)) : findX ss l = (getE ss i j, true) := by unfold findX; rw [h]
theorem findX_none {ss : Sets} {l : Int} (h : Finds ss l = none) : findX ss l = (Ent.zero, false) := by unfold findX; rw [h]
theorem lost_clean (h : NI k ways n) (l : Int) : AllE (fun e => e.read = false ∧ e.write = false) (n.lose l).ss := fun i j => ((h.lose l).marks i j).1 (by unfold Nd.lose; split <;> rfl)
theorem NI.hearRS (h : NI k ways n) (l : Int) : NI k ways (n.hearRS l).1 := by
  unfold Nd.hearRS
  split
  · rename_i hh
    cases hf : Finds n.ss l with
    | none => rw [findX_none hf] at hh; cases hh
    | some x =>
      obtain ⟨i, j⟩ := x
      rw [findX_some hf]
      dsimp only
      split
      · exact (h.lose l).demoteL l (fun i j _ => (lost_clean h l i j).2)
      · rename_i hw
        refine h.demoteL l (fun i' j' h' => ?_)
        rw [hf] at h'; cases h'
        simpa using hw
  · exact h
theorem NI.hearRM (h : NI k ways n) (l : Int) : NI k ways (n.hearRM l).1 := by
  unfold Nd.hearRM
  split
  · dsimp only
    split
    · exact (h.lose l).dropL l
    · exact h.dropL l
  · exact h
theorem NI.hearInv (h : NI k ways n) (l : Int) : NI k ways (n.hearInv l).1 := by
  unfold Nd.hearInv
  split
  · dsimp only
    split
    · exact (h.lose l).dropL l
    · exact h.dropL l
  · exact h
theorem NI.hearG (h : NI k ways n) (m : MsgV) (st : Int) : NI k ways (n.hearG m st).1 := by
  unfold Nd.hearG
  dsimp only
  split
  · exact (h.out MsgV.zero).promoteL m.line m.data
  · exact (h.out MsgV.zero).fill _ _ _
theorem NI.take (h : NI k ways n) (m : MsgV) : NI k ways (n.take m).1 := by
  unfold Nd.take
  split
  · exact h.hearInv _
  split
  · exact h.hearRS _
  split
  · exact h.hearRM _
  split
  · exact h.hearG _ _
  split
  · exact h.hearG _ _
  · exact h.backs _
theorem NI.hear (h : NI k ways n) (m : MsgV) : NI k ways (n.hear m).1 := by
  unfold Nd.hear; split
  · exact h
  · exact h.take m
theorem NI.drop (h : NI k ways n) (l : Int) : NI k ways (n.drop l).1 := by
  unfold Nd.drop
  split
  · exact h
  split
  · exact h
  · dsimp only
    split
    · exact ((h.abort 4).dropL l).letGo _
    · exact (h.dropL l).letGo _
theorem NI.load (h : NI k ways n) (a : Int) : NI k ways (n.load a).1 := by
  unfold Nd.load
  split
  · exact h
  split
  · exact h.ask _ _
  · have := (h.mark (a / 8) false).wordL a
    rwa [show (n.mark (a / 8) false).u = n.u from by unfold Nd.mark; split <;> rfl] at this
theorem NI.store (h : NI k ways n) (a v : Int) : NI k ways (n.store a v).1 := by
  unfold Nd.store
  split
  · exact h
  split
  · exact h.ask _ _
  · have := (h.mark (a / 8) true).putL a v
    rwa [show (n.mark (a / 8) true).u = n.u from by unfold Nd.mark; split <;> rfl] at this
theorem NI.cas (h : NI k ways n) (a o v : Int) : NI k ways (n.cas a o v).1 := by
  unfold Nd.cas
  split
  · exact h
  split
  · exact h
  split
  · exact h.ask _ _
  split
  · exact h.wordL a
  · exact (h.wordL a).putL a v
theorem NI.begin (h : NI k ways n) : NI k ways n.begin.1 := by
  unfold Nd.begin; split
  · exact h
  · exact ⟨h.inv, h.k1, h.u0, fun i j => ⟨fun h => (by cases h), (h.marks i j).2⟩⟩
theorem NI.commit (h : NI k ways n) : NI k ways n.commit.1 := by
  unfold Nd.commit; split
  · exact ⟨h.inv.commit, h.k1, h.u0, clean_all h.inv _ _ (fun _ => ⟨rfl, rfl⟩)⟩
  · exact h
theorem NI.abortC (h : NI k ways n) (c : Int) : NI k ways (n.abortC c).1 := by
  unfold Nd.abortC; split
  · split
    · exact h
    · exact h.abort c
  · exact h
theorem NI.step (h : NI k ways n) (x : StepN) : NI k ways (n.step x).1 := by
  unfold Nd.step
  split
  · exact h.load _
  split
  · exact h.store _ _
  split
  · exact h.cas _ _ _
  split
  · exact h.begin
  split
  · exact h.commit
  split
  · exact h.abortC _
  split
  · exact h.hear _
  split
  · exact h.drop _
  · exact h
theorem ni_new (core lines : Int) (sets ways : Nat) (h1 : 1 ≤ sets) : NI sets ways (Nd.new core lines (newSets sets ways)) := by
  have hi := inv_new sets ways
  refine ⟨hi, h1, Int.le_refl _, fun i j => ?_⟩
  have hz : (getE (newSets sets ways) i j).state = 0 := by
    by_cases hs : (getE (newSets sets ways) i j).state = 0
    · exact hs
    · have := (hi.used i j hs); omega
  show MarkQ false (getE (newSets sets ways) i j)
  rw [hi.zero i j hz]
  exact MarkQ.clean rfl rfl
end

end Go.Proofs.Ytddajnpichchfaa
