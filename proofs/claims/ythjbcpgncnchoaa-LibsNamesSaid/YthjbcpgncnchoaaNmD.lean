/- The chapter's example of Join: its parts as they lie. Conditions: those stated in each theorem. -/
import Derived.Test.YthjbcpgncnchoaaNmB
namespace Go.Proofs.Ythjbcpgncnchoaa
open Go.RowKit Go.BigFrame

theorem rows_holds {W : World} {g : Nat} {l : List In} (h : Holds W g 40 (flatI l)) : RowsIn W (some ⟨g, 0, none⟩) 5 In.cells l := by
  refine .inr ⟨g, 0, rfl, h.lt, fun k y hy j v hj => ?_⟩
  rw [Nat.zero_add]
  exact h.cell (flatI_at l k y hy j v hj)
theorem jn_parts {W : World} {g1 g2 g3 : Nat} (h1 : Holds W g1 40 (flatI [⟨13, 0, 0, 0, 0⟩, ⟨1, 0, 0, 0, 0⟩])) (h2 : Holds W g2 40 (flatI [⟨13, 0, 0, 0, 1⟩])) (h3 : Holds W g3 32 [.slice (some ⟨g1, 0, none⟩) 2 2, .slice (some ⟨g2, 0, none⟩) 1 1]) : PartsIn W (some ⟨g3, 0, none⟩) jnL := fun k l hl => by
  match k, hl with
  | 0, hl =>
    obtain rfl : [⟨13, 0, 0, 0, 0⟩, ⟨1, 0, 0, 0, 0⟩] = l := by simpa [jnL] using hl
    exact ⟨g3, 0, _, 2, rfl, h3.cell (i := 0) rfl, rows_holds h1⟩
  | 1, hl =>
    obtain rfl : [⟨13, 0, 0, 0, 1⟩] = l := by simpa [jnL] using hl
    exact ⟨g3, 0, _, 1, rfl, h3.cell (i := 1) rfl, rows_holds h2⟩
  | k + 2, hl => simp [jnL] at hl

end Go.Proofs.Ythjbcpgncnchoaa
