/- The document's Bools. Conditions: those stated in each theorem. -/
import Derived.Test.YtehnailokgoekaaDoorFlwM
import Derived.Deep.QuietTactic
namespace Go.Proofs.YtehnailokgoekaaDoor
open Go.RowKit Go.BigFrame Go.Shelf

set_option maxRecDepth 100000 in
theorem bools_any (ga gb : Nat) (l : List Bool) (W : World) (hn : l.length ≤ 1024) (ha : Holds W ga 4 (cellsB l)) (hb : Holds W gb 4 (cellsB l)) :
    Calls Tryd.prog 14 #[.slice (some ⟨ga, 0, none⟩) l.length l.length, .slice (some ⟨gb, 0, none⟩) l.length l.length] W fun e w' => e = .returned (.bool true) ∧ Below W.heap.size W w' := by
  have H := Lib.hid (And.intro hn (And.intro ha hb)); clear hn ha hb
  go_enter Tryd.func14, Tryd.ntmps14
  go_wp2_with fail
  go_loopw [5] (fun s V => ∃ k : Nat, s = .int .i64 k ∧ k ≤ l.length ∧ ∃ q, V = W.drewN q) (fun s _ => l.length - (intOf s).toNat)
  case atStart => exact ⟨0, rfl, Nat.zero_le _, 0, rfl⟩
  case round =>
    obtain ⟨k, rfl, hk, q, rfl⟩ := hrel
    by_cases hlt : k < l.length
    · have ca := H.out.2.1.cell (i := k) (v := .bool (isAt l k)) (by rw [cellsB, List.getElem?_map, isAt_get hlt]; rfl)
      have cb := H.out.2.2.cell (i := k) (v := .bool (isAt l k)) (by rw [cellsB, List.getElem?_map, isAt_get hlt]; rfl)
      have hki : (0 : Int) ≤ (k : Int) ∧ (k : Int) < l.length := by omega
      have hkk : IntKind.i64.wrap ((k : Int) + 1) = (k : Int) + 1 := by rw [IntKind.wrap_i64]; have := H.out.1; omega
      have Hk := Lib.hid (And.intro hk hlt); clear hk hlt
      generalize isAt l k = b at *
      go_wp2_with fail
      go_quiet (fail)
      go_wp2_with fail
      go_roundw
      case rel => exact ⟨k + 1, rfl, by have := Hk.out; omega, _, rfl⟩
      case measure => simp [intOf]; have := Hk.out; omega
    · have hke : k = l.length := by omega
      subst hke
      clear hk hlt
      go_wp2_with fail
      go_ret
      exact ⟨rfl, below_drewN (Below.refl _ W) _⟩

end Go.Proofs.YtehnailokgoekaaDoor
