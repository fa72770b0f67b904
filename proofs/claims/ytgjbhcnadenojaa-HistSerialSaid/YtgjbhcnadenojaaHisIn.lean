/- Histories and words that came in, as lists. Conditions: those stated in each theorem. -/
import Derived.Test.YtgjbhcnadenojaaCame
import Derived.Test.YtgjbhcnadenojaaHisT
import Derived.Deep.Slices
namespace Go.Proofs.Ytgjbhcnadenojaa
open Go.ChangeShapes Go.WideShapes Go.ChangeAt Go.RowKit Go.Deep

def evKinds : List CK := [⟨0, .i64⟩, ⟨0, .i64⟩, ⟨0, .i64⟩, ⟨0, .i64⟩, ⟨0, .i64⟩, ⟨0, .i64⟩, ⟨0, .i64⟩, ⟨0, .u64⟩, ⟨0, .i64⟩]
def uKinds : List CK := [⟨0, .u64⟩]
theorem ev_mk (vs : List Value) (h : Fit evKinds vs) : ∃ x : Ev, x.cells = vs ∧ x.fit := by
  have h1 := h.1
  have h2 := h.2
  match vs, h1 with
  | [c0, c1, c2, c3, c4, c5, c6, c7, c8], _ =>
    obtain ⟨x0, rfl, w0⟩ := h2 0 _ _ rfl rfl
    obtain ⟨x1, rfl, w1⟩ := h2 1 _ _ rfl rfl
    obtain ⟨x2, rfl, w2⟩ := h2 2 _ _ rfl rfl
    obtain ⟨x3, rfl, w3⟩ := h2 3 _ _ rfl rfl
    obtain ⟨x4, rfl, w4⟩ := h2 4 _ _ rfl rfl
    obtain ⟨x5, rfl, w5⟩ := h2 5 _ _ rfl rfl
    obtain ⟨x6, rfl, w6⟩ := h2 6 _ _ rfl rfl
    obtain ⟨x7, rfl, w7⟩ := h2 7 _ _ rfl rfl
    obtain ⟨x8, rfl, w8⟩ := h2 8 _ _ rfl rfl
    exact ⟨⟨x0, x1, x2, x3, x4, x5, x6, x7, x8⟩, rfl, w2, w6, w7⟩
theorem u_mk (vs : List Value) (h : Fit uKinds vs) : ∃ x : Int, ucell x = vs ∧ (Lit.int .u64 x).wf = true := by
  have h1 := h.1
  have h2 := h.2
  match vs, h1 with
  | [c0], _ =>
    obtain ⟨x0, rfl, w0⟩ := h2 0 _ _ rfl rfl
    exact ⟨x0, rfl, w0⟩
theorem evs_in {w : World} {a : Option Addr} {len : Nat} (h : Came w a len evKinds) : ∃ xs : List Ev, xs.length = len ∧ RowsIn w a 9 Ev.cells xs ∧ ∀ x ∈ xs, x.fit := rows_in h (by simp [evKinds]) ev_mk
theorem us_in {w : World} {a : Option Addr} {len : Nat} (h : Came w a len uKinds) : ∃ xs : List Int, xs.length = len ∧ RowsIn w a 1 ucell xs ∧ ∀ x ∈ xs, (Lit.int .u64 x).wf = true := rows_in h (by simp [uKinds]) u_mk
/-- A slice that came in: nil, or of a block. -/
theorem nil_or {H : Type} {enc : TypeId × Value → H} {P : Program} {w : World} {base : Nat} {spare held : _} {t e : TypeId} {fuel : Nat} {a : Option Addr} {len cap : Nat} {x : DataW H × List MemPlace} (ht : P.underlying t = some (.slice e))
    (h : DataW.trod enc P w base spare held fuel t [.slice a len cap] = some x) : a = none → cap = 0 := by
  rcases open_slice ht h with ⟨h0, _⟩ | ⟨b, l, c, m, n, D, Pl, hcs, _⟩
  · simp only [List.cons.injEq, Value.slice.injEq, and_true] at h0
    exact fun _ => h0.2.2
  · simp only [List.cons.injEq, Value.slice.injEq, and_true] at hcs
    exact fun e => by rw [hcs.1] at e; cases e

end Go.Proofs.Ytgjbhcnadenojaa
