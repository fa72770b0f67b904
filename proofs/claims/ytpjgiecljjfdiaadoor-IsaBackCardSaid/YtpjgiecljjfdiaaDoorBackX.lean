/- What is written is read as it was: any lists. Conditions: what came in. -/
import Derived.Test.YtpjgiecljjfdiaaDoorBackW
namespace Go.Proofs.YtpjgiecljjfdiaaDoor
open Go.RowKit Go.BigFrame

theorem add0 (ad : Addr) : ad.add 0 = ad := by
  unfold Addr.add
  split <;> simp_all
theorem slice_to {a : Option Addr} {n c h : Nat} (hh : h ≤ c) (W : World) : (Instr.sliceAt 42 (.slice a n c) none (some (.int .i64 (h : Int))) none).run Tryd.prog W = .ok (.slice a h c) W := by
  have he : Tryd.prog.underlying 42 = some (.slice (Tryd.prog.elem 42)) := by simp [Program.elem, Tryd.underlying42]
  have hz : ∀ W, (sizeOf (Tryd.prog.elem 42)).run Tryd.prog W = .ok 1 W := fun W => by
    rw [show Tryd.prog.elem 42 = 5 by simp [Program.elem, Tryd.underlying42]]
    kernel_rfl
  rw [run_sliceAt_slice W 42 _ _ _ _ he, run_slice_h W 42 a n c he .i64 h (by omega) (by omega), hz]
  have hm : a.map (fun x => x.add 0) = a := by cases a <;> simp [add0]
  simp [Result.andThen, sliced, hm]

def backKinds : List CK := [⟨0, .i64⟩, ⟨0, .i64⟩, ⟨0, .i64⟩, ⟨0, .i64⟩, ⟨0, .i64⟩]
theorem back_mk (vs : List Value) (h : Fit backKinds vs) : ∃ x : In, x.cells = vs ∧ True := by
  have h1 := h.1
  have h2 := h.2
  match vs, h1 with
  | [c0, c1, c2, c3, c4], _ =>
    obtain ⟨x0, rfl, _⟩ := h2 0 _ _ rfl rfl
    obtain ⟨x1, rfl, _⟩ := h2 1 _ _ rfl rfl
    obtain ⟨x2, rfl, _⟩ := h2 2 _ _ rfl rfl
    obtain ⟨x3, rfl, _⟩ := h2 3 _ _ rfl rfl
    obtain ⟨x4, rfl, _⟩ := h2 4 _ _ rfl rfl
    exact ⟨⟨x0, x1, x2, x3, x4⟩, rfl, trivial⟩
def backBytes : List CK := [⟨0, .u8⟩]
theorem backB_mk (vs : List Value) (h : Fit backBytes vs) : ∃ x : UInt8, cell1 x = vs ∧ True := by
  have h1 := h.1
  have h2 := h.2
  match vs, h1 with
  | [c0], _ =>
    obtain ⟨x0, rfl, w0⟩ := h2 0 _ _ rfl rfl
    have hb : 0 ≤ x0 ∧ x0 < 256 := by
      have : (Lit.int .u8 x0).wf = true := w0
      simp [Lit.wf, IntKind.min, IntKind.max, IntKind.signed, IntKind.bits] at this
      omega
    refine ⟨byP x0, ?_, trivial⟩
    unfold cell1
    rw [u8_val, show x0 % 256 = x0 by omega]

theorem back_any (a0 a1 : Option Addr) (n0 c0 n1 c1 : Nat) (w : World) (hs : Std w) (h0 : Came w a0 n0 backKinds) (h1 : Came w a1 n1 backBytes) (hc : n1 ≤ c1) :
    Calls Tryd.prog 6 #[.slice a0 n0 c0, .slice a1 n1 c1] w fun e w' => e = .returned (.bool true) ∧ Below w.heap.size w w' := by
  by_cases hl : 3000 < n0 ∨ 20000 < n1
  · exact back_long a0 a1 n0 n1 c0 c1 w hs hl
  · obtain ⟨xs, hxs, hr0, _⟩ := rows_in (Pr := fun _ => True) h0 (by simp [backKinds]) back_mk
    obtain ⟨bs, hbs, hr1, _⟩ := rows_in (Pr := fun _ => True) h1 (by simp [backBytes]) backB_mk
    subst hxs hbs
    exact back_some a0 a1 c0 c1 xs bs w hs hr0 hr1 hc (by omega) (by omega) (fun W => slice_to (by have := (enc_dec bs).2; omega) W)

end Go.Proofs.YtpjgiecljjfdiaaDoor
