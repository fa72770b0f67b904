/- Ranges over functions (Each) over blocks known whole: what turned. Conditions: those stated in each theorem. -/
import Derived.Test.YteijhcibdglkeaaGreatDoorEach
import Derived.Test.YteijhcibdglkeaaGreatDoorOwn0
import Derived.BigFrameIn
import Derived.Shelf.Abstract
import Derived.Shelf.RegionOpen
import Derived.Maps.OwnIn
namespace Go.Proofs.YteijhcibdglkeaaGreatDoor
open Go.RowKit Go.BigFrame Go.Shelf

theorem Holds.putObj {w : World} {b : Nat} {t : TypeId} {L : List Value} (h : Holds w b t L) {l : Nat} {o : Obj} (hl : w.heap[l]? = some o) (ho : o.isCells = false) (o' : Obj) : Holds (w.putObj l o') b t L :=
  (World.putObj_heap_other (fun e => by subst e; unfold Holds at h; rw [h] at hl; cases hl; cases ho)).trans h
theorem Tch.putObj {C : Nat → Prop} {a w : World} (h : Tch C a w) {l : Nat} (hl : C l ∨ a.heap.size ≤ l) (o : Obj) : Tch C a (w.putObj l o) :=
  h.grown (grownBy_putObj' w l o) (fun k e => by cases e; exact hl)
theorem Tch.kpBox {C : Nat → Prop} {w w' : World} (h : Tch C w w') {B : Nat} (hb : ¬ C B) : KpBox B w w' := fun _ _ _ e => (h.block B (Array.getElem?_eq_some_iff.1 e).1 hb).trans e
theorem ownFrom_tch {β : Type} {C : Nat → Prop} {B : Nat} {w₀ : World} (hB : w₀.heap.size ≤ B) : OwnFrom B (fun (_ : β) W => Tch C w₀ W) :=
  fun _ _ _ _ hs hg hr => hs.grown hg (fun k e => .inr (Nat.le_trans hB (hr k e).1))
theorem ownFrom_holds {β : Type} (B b : Nat) (t : TypeId) (f : β → List Value) : OwnFrom B (fun s W => Holds W b t (f s)) :=
  fun s X Y row hs hg hr => (hg.block b hs.lt (fun e => by
    obtain ⟨o, ho, hc⟩ := (hr b e.symm).2
    unfold Holds at hs; rw [hs] at ho; cases ho; cases hc)).trans hs
theorem Tch.keepsFrom {C : Nat → Prop} {B : Nat} {W W' : World} (h : Tch C W W') (hC : ∀ k o, C k → B ≤ k → W.heap[k]? = some o → o.isCells = true) : KeepsFrom B W W' :=
  ⟨h.size, fun k o hB hk ho => (h.block k (Array.getElem?_eq_some_iff.1 hk).1 (fun c => by rw [hC k o c hB hk] at ho; cases ho)).trans hk⟩
theorem ownsRow_own {β : Type} (B base : Nat) (e : TypeId) (size : Nat) (v : Value) (f : β → Nat) (g : β → List Value) : OwnFrom B (fun s W => W.ownsRow base e size v (f s) (g s)) := fun s X Y row hs hg hr => by
  refine hs.kept hg ?_
  by_cases h : v.ownBlock = none
  · exact .inl h
  · refine .inr fun e' => ?_
    cases hrow : row with
    | none => rw [hrow] at e'; exact h e'
    | some r =>
      obtain ⟨_, o, ho, hc⟩ := hr r hrow
      rw [hrow] at e'
      obtain ⟨_, h1 | ⟨g', _, _, h1, _, h2, _⟩⟩ := hs
      · rw [h1.1] at e'; cases e'
      · rw [h1] at e'
        simp only [Value.ownBlock, Option.some.injEq] at e'
        rw [← e', h2] at ho; cases ho; cases hc
theorem in_load_want {F : Fence} {P : Program} {n : Nat} {ops : Array Oper} {rest : List Oper} {o : Oper} {a : Act} {w : World} {Q : Exit → Act → World → Prop} (hw : Region.wanted o (yielded ops a.tmps) = true) (ty : TypeId) (x : Operand) (hop : o.op = .load ty x)
    (b off : Nat) (hx : a.eval x = .pointer (some ⟨b, off, none⟩)) (cs : List Value) (d : TypeDesc) (hc : w.rangeAt b off cs) (hu : P.underlying ty = some d) (hd : d.isRow = true) (hi : (P.info? ty).map (·.size) = some cs.length)
    (h : wpListIn F n P ops Q rest (a.put o.dst (.agg cs.toArray)) w) : wpListIn F n P ops Q (o :: rest) a w := by
  refine wpListIn_want hw fun K hK => ?_
  unfold Oper.wpIn
  refine ⟨?_, ?_⟩
  · simp [Oper.about, hop]
  · rw [Oper.semAt_plain F _ _ (by rw [hop]; intro c hc; cases hc)]
    unfold execOp
    simp only [hop, hx, Instr.loadAt, Instr.sureAddr, Sem.run_bind, Sem.run_pure, Result.andThen_ok, run_loadVar_mid w b off ty cs d hc hu hd hi]
    exact hK _ _ h
theorem grown_below {w w' : World} (h : Below w.heap.size w w') : w.grownBy w' none := ⟨h.os, h.tape, h.output, h.size, fun k hk _ => h.block k hk⟩

/-- What a round keeps: all but C. -/
def KpC (C : Nat → Prop) (W W' : World) : Prop := Tch C W W'
theorem kpC_t {C : Nat → Prop} {X Y Z : World} (h : KpC C X Y) (k : KpC C Y Z) : KpC C X Z := Tch.trans h k
theorem kpC_b {C : Nat → Prop} {l : Nat} (hl : C l) (W : World) (o o' : Loop) (_ : W.heap[l]? = some (.loop o)) : KpC C W (W.putObj l (.loop o')) := (Tch.refl _ W).putObj (.inl hl) _

end Go.Proofs.YteijhcibdglkeaaGreatDoor
