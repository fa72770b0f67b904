/- Regions that only read, one operation behind the other. Conditions: those stated in each theorem. -/
import Derived.Test.YtnhainjdaafmiaaDoorRows
import Derived.WalkKit
import Derived.Lib.Hide
import Derived.Deep.MidRow
import Derived.StillTailTactics
namespace Go.Proofs.YtnhainjdaafmiaaDoor
open Go.RowKit

/-- wpStill behind a wall: no tactic looks into it. -/
structure StillG (P : Program) (ops : Array Oper) (w : World) (Q : Act → Prop) (l : List Oper) (a : Act) : Prop where
  out : wpStill P ops w Q l a

section
variable {P : Program} {ops : Array Oper} {rest : List Oper} {o : Oper} {a : Act} {w : World} {Q : Act → Prop}
theorem StillG.nil (h : Q a) : StillG P ops w Q [] a := ⟨h⟩
/-- An operation that is wanted: it has no guard, or one that lets it by. -/
theorem StillG.want (hw : Region.wanted o (yielded ops a.tmps) = true) (h : ∀ K : Act → Prop, (∀ a, StillG P ops w Q rest a → K a) → o.still P a w K) : StillG P ops w Q (o :: rest) a :=
  ⟨wpStill_step fun K hK => by rw [if_pos hw]; exact h K fun a hs => hK a hs.out⟩
/-- An operation that its guard shuts out. -/
theorem StillG.skip (hw : Region.wanted o (yielded ops a.tmps) = false) (h : ∀ K : Act → Prop, (∀ a, StillG P ops w Q rest a → K a) → K (a.put o.dst undef)) : StillG P ops w Q (o :: rest) a :=
  ⟨wpStill_step fun K hK => by rw [if_neg (by rw [hw]; exact Bool.false_ne_true)]; exact h K fun a hs => hK a hs.out⟩
/-- A whole struct, or array, is loaded. -/
theorem StillG.load (hw : Region.wanted o (yielded ops a.tmps) = true) (ty : TypeId) (x : Operand) (ho : o.op = .load ty x)
    (b off : Nat) (hx : a.eval x = .pointer (some ⟨b, off, none⟩)) (cs : List Value) (d : TypeDesc) (hc : w.rangeAt b off cs)
    (hu : P.underlying ty = some d) (hd : d.isRow = true) (hi : (P.info? ty).map (·.size) = some cs.length)
    (h : ∀ K : Act → Prop, (∀ a, StillG P ops w Q rest a → K a) → K (a.put o.dst (.agg cs.toArray))) : StillG P ops w Q (o :: rest) a :=
  StillG.want hw fun K hK => by
    unfold Oper.still execOp
    simp only [ho, hx, Instr.loadAt, Instr.sureAddr, Sem.run_bind, Sem.run_pure, Result.andThen_ok, run_loadVar_mid w b off ty cs d hc hu hd hi, Oper.stillUpon]
    exact ⟨trivial, h K hK⟩
end
theorem still_region {P : Program} {id : Nat} {Q : Exit → Act → World → Prop} {a : Act} {w : World} {l : List Oper} (hm : P.follows .mixedOrders = true) (hB : Region.lexB .any l.toArray = true)
    (h : StillG P l.toArray w.drew (fun a' => Q .normal a' w.drew) l a) : (Code.region id l.toArray true).wp P Q a w := wp_region_still_lit hm hB h.out

end Go.Proofs.YtnhainjdaafmiaaDoor
