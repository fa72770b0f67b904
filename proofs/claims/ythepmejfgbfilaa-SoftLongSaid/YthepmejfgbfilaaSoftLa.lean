/- SoftLong: any rounds, any row. -/
import Derived.Test.YthepmejfgbfilaaSoftLn
import Derived.Test.YthepmejfgbfilaaDat
namespace Go.Proofs.Ythepmejfgbfilaa
open Go.ChangeShapes Go.WideShapes Go.ChangeAt Go.RowKit Go.Deep

/-- A slice that came in: nil, or of a block. -/
theorem nil_or {H : Type} {enc : TypeId × Value → H} {P : Program} {w : World} {base : Nat} {spare held : _} {t e : TypeId} {fuel : Nat} {a : Option Addr} {len cap : Nat} {x : DataW H × List MemPlace} (ht : P.underlying t = some (.slice e))
    (h : DataW.trod enc P w base spare held fuel t [.slice a len cap] = some x) : (a = none ∧ len = 0 ∧ cap = 0) ∨ ∃ b, a = some b := by
  rcases open_slice ht h with ⟨h0, _⟩ | ⟨b, l, c, m, n, D, Pl, hcs, _⟩
  · simp only [List.cons.injEq, Value.slice.injEq, and_true] at h0
    exact .inl h0
  · simp only [List.cons.injEq, Value.slice.injEq, and_true] at hcs
    exact .inr ⟨b, hcs.1⟩

theorem slong_any (r s : Int) (a0 : Option Addr) (len0 cap0 : Nat) (w : World) (hx : Came w a0 len0 opKinds) (hn : (a0 = none ∧ len0 = 0 ∧ cap0 = 0) ∨ ∃ b, a0 = some b) :
    Calls Try.prog 4 #[.int .i64 r, .int .i64 s, .slice a0 len0 cap0] w fun e w' => e = .returned (.bool true) ∧ Below w.heap.size w w' := by
  by_cases ho : r < 0 ∨ s < 0 ∨ 200 < r ∨ 200 < s ∨ 300 < len0
  · exact slong_out r s a0 len0 cap0 w ho
  obtain ⟨R, rfl⟩ : ∃ R : Nat, r = R := ⟨r.toNat, by omega⟩
  obtain ⟨N, rfl⟩ : ∃ N : Nat, s = N := ⟨s.toNat, by omega⟩
  rcases hn with ⟨rfl, rfl, rfl⟩ | ⟨b, rfl⟩
  · exact slong_nil R N w (by omega) (by omega)
  · obtain ⟨xs, rfl, h1, h2⟩ := ops_in hx
    exact slong_some R N b xs cap0 w (by omega) (by omega) h1 h2 (by omega)

end Go.Proofs.Ythepmejfgbfilaa
