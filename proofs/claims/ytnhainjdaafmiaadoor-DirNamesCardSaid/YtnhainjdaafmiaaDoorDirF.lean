/- Rows of records. Conditions: those stated in each theorem. -/
import Derived.Test.YtnhainjdaafmiaaDoorDirE
namespace Go.Proofs.YtnhainjdaafmiaaDoor
open Go.RowKit

theorem flat_get {α : Type} (f : α → List Value) (K : Nat) (hf : ∀ e, (f e).length = K) : ∀ (es : List α) (j k : Nat) (e : α), es[j]? = some e → k < K → (es.flatMap f)[j * K + k]? = (f e)[k]?
  | [], j, _, _, h, _ => by simp at h
  | a :: es, 0, k, e, h, hk => by
    simp only [List.getElem?_cons_zero, Option.some.injEq] at h
    subst h
    simp only [List.flatMap_cons, Nat.zero_mul, Nat.zero_add]
    rw [List.getElem?_append_left (by rw [hf]; exact hk)]
  | a :: es, j + 1, k, e, h, hk => by
    simp only [List.getElem?_cons_succ] at h
    simp only [List.flatMap_cons]
    rw [List.getElem?_append_right (by rw [hf, Nat.add_mul]; omega), hf, show (j + 1) * K + k - K = j * K + k from by rw [Nat.add_mul]; omega]
    exact flat_get f K hf es j k e h hk

end Go.Proofs.YtnhainjdaafmiaaDoor
