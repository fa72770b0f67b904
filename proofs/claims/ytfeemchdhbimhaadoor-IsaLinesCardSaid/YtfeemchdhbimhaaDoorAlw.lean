/- The chapter's first examples, as the laws ask them. Conditions: those stated in each theorem. -/
import Derived.Test.YtfeemchdhbimhaaDoorAlv
namespace Go.Proofs.YtfeemchdhbimhaaDoor
open Go.RowKit Go.BigFrame

@[local go_sem ↓ high] theorem same_efv (w : World) : (Op.equalIn 10000 27 (.agg #[.int .i64 1, .int .i64 4, .int .i64 0, .int .u64 4, .int .u64 0]) (.agg #[.int .i64 1, .int .i64 4, .int .i64 0, .int .u64 4, .int .u64 0])).run Tryd.prog w = .ok true w := by
  rw [same_ef]; simp

theorem add_ok : add012.Ok := ⟨⟨by simp [add012], by simp [add012]⟩, ⟨by simp [add012], by simp [add012]⟩, ⟨by simp [add012], by simp [add012]⟩, ⟨by simp [add012], by simp [add012]⟩, ⟨by simp [add012], by simp [add012]⟩⟩
def regs3 : L8 := ⟨0, 5, 18446744073709551615, 0, 0, 0, 0, 0⟩
theorem regs3_ok : regs3.Ok := fun k hk => by
  match k, hk with
  | 0, _ | 1, _ | 2, _ | 3, _ | 4, _ | 5, _ | 6, _ | 7, _ => exact ⟨by simp [L8.get, regs3], by simp [L8.get, regs3]⟩
theorem do_add : doP add012 regs3 3 = ⟨1, 4, 0, 4, 0⟩ := by decide
theorem legal_add : legalP add012 = true := by decide
theorem a_parse {w : World} (h : Std w) : Calls Tryd.prog 14 #[.string ⟨#[97, 100, 100, 32, 48, 32, 49, 32, 50]⟩] w fun e w' => e = .returned (.tuple #[.agg #[.int .i64 4, .int .i64 0, .int .i64 1, .int .i64 2, .int .i64 0], .int .i64 0]) ∧ Below w.heap.size w w' := by
  have := parse_std [97, 100, 100, 32, 48, 32, 49, 32, 50] (by simp) h
  rw [parse_add] at this
  exact this
theorem a_do {w : World} (h : Std w) : Calls Tryd.prog 10 #[.agg #[.int .i64 4, .int .i64 0, .int .i64 1, .int .i64 2, .int .i64 0], .agg #[.int .u64 0, .int .u64 5, .int .u64 18446744073709551615, .int .u64 0, .int .u64 0, .int .u64 0, .int .u64 0, .int .u64 0], .int .i64 3] w fun e w' => e = .returned (.agg #[.int .i64 1, .int .i64 4, .int .i64 0, .int .u64 4, .int .u64 0]) ∧ Below w.heap.size w w' := by
  have := do_any add012 regs3 3 w h.forms regs3_ok
  rw [do_add] at this
  exact this
theorem a_text {w : World} (h : Std w) : Calls Tryd.prog 16 #[.agg #[.int .i64 4, .int .i64 0, .int .i64 1, .int .i64 2, .int .i64 0]] w fun e w' => e = .returned (.string ⟨#[97, 100, 100, 32, 48, 32, 49, 32, 50]⟩) ∧ Below w.heap.size w w' := by
  have := text_std add012 add_ok h
  rw [text_add] at this
  exact this
theorem a_legal {w : World} (h : Std w) : Calls Tryd.prog 12 #[.agg #[.int .i64 4, .int .i64 0, .int .i64 1, .int .i64 2, .int .i64 0]] w fun e w' => e = .returned (.bool true) ∧ Below w.heap.size w w' := by
  have := legal_any add012 w h.forms
  rw [legal_add] at this
  exact this
theorem a_enc {W : World} {q : Nat} (hq : Holds W q 23 [.int .i64 2, .int .i64 3, .int .i64 0, .int .i64 0, .int .i64 (-2)]) : Calls Tryd.prog 20 #[.slice (some ⟨q, 0, none⟩) 1 1] W fun e w' => ∃ g cap, e = .returned (.tuple #[.slice (some ⟨g, 0, none⟩) 8 cap, .int .i64 0]) ∧ RowM w' W.heap.size (.slice (some ⟨g, 0, none⟩) 8 cap) 8 (Lib.byteCells [2, 3, 0, 0, 255, 255, 255, 254]) ∧ Below W.heap.size W w' := by
  refine (encode_any (some ⟨q, 0, none⟩) 1 [⟨2, 3, 0, 0, -2⟩] W (.inr ⟨q, 0, rfl, hq.lt, fun k x hk => ?_⟩) (by simp)).mono ?_
  · match k, hk with
    | 0, hk => simp only [List.getElem?_cons_zero, Option.some.injEq] at hk; subst hk; exact hq.full
  · intro e w' h
    rw [enc_set] at h
    obtain ⟨v, h1, h2, h3⟩ := h
    have hr := RowM.of_owns h2 (by simp)
    obtain ⟨g, cap, rfl, -⟩ := hr.form
    exact ⟨g, cap, h1, hr, h3⟩

end Go.Proofs.YtfeemchdhbimhaaDoor
