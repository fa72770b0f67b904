/- Instructions and registers that came in. Conditions: those stated in each theorem. -/
import Derived.Test.YtehnailokgoekaaDoorFlwP
import Derived.Test.YtehnailokgoekaaDoorCame
import Derived.Test.YtehnailokgoekaaDoorDat
namespace Go.Proofs.YtehnailokgoekaaDoor
open Go.RowKit Go.BigFrame

def instrKinds5 : List CK := [⟨0, .i64⟩, ⟨0, .i64⟩, ⟨0, .i64⟩, ⟨0, .i64⟩, ⟨0, .i64⟩]
theorem instr_mk5 (vs : List Value) (h : Fit instrKinds5 vs) : ∃ x : In, x.cells = vs ∧ x.Ok := by
  have h1 := h.1
  have h2 := h.2
  match vs, h1 with
  | [c0, c1, c2, c3, c4], _ =>
    obtain ⟨x0, rfl, w0⟩ := h2 0 _ _ rfl rfl
    obtain ⟨x1, rfl, w1⟩ := h2 1 _ _ rfl rfl
    obtain ⟨x2, rfl, w2⟩ := h2 2 _ _ rfl rfl
    obtain ⟨x3, rfl, w3⟩ := h2 3 _ _ rfl rfl
    obtain ⟨x4, rfl, w4⟩ := h2 4 _ _ rfl rfl
    have g : ∀ z, (Lit.int .i64 z).wf = true → I64 z := fun z h => by simp [Lit.wf, IntKind.min, IntKind.max, IntKind.signed, IntKind.bits] at h; unfold I64; omega
    exact ⟨⟨x0, x1, x2, x3, x4⟩, rfl, g _ w0, g _ w1, g _ w2, g _ w3, g _ w4⟩

end Go.Proofs.YtehnailokgoekaaDoor
