/- Plain functions of an instruction: its numbers, its form, whether it is legal. No conditions. -/
import Derived.Test.YtlppmjbfgclkgaaB0
namespace Go.Proofs.Ytlppmjbfgclkgaa
open Go.RowKit

/-- An instruction. -/
structure In where
  op : Int
  a : Int
  b : Int
  c : Int
  imm : Int
deriving DecidableEq

def In.zero : In := ⟨0, 0, 0, 0, 0⟩
def In.cells (i : In) : List Value := [.int .i64 i.op, .int .i64 i.a, .int .i64 i.b, .int .i64 i.c, .int .i64 i.imm]
def In.val (i : In) : Value := .agg #[.int .i64 i.op, .int .i64 i.a, .int .i64 i.b, .int .i64 i.c, .int .i64 i.imm]
def In.get (i : In) (k : Nat) : Int := match k with | 0 => i.op | 1 => i.a | 2 => i.b | 3 => i.c | _ => i.imm
def In.set (i : In) (k : Nat) (v : Int) : In := match k with | 0 => { i with op := v } | 1 => { i with a := v } | 2 => { i with b := v } | 3 => { i with c := v } | _ => { i with imm := v }
theorem In.cell_get (i : In) {k : Nat} (h : k < 5) : i.cells[k]? = some (.int .i64 (i.get k)) := by
  match k, h with
  | 0, _ => rfl | 1, _ => rfl | 2, _ => rfl | 3, _ => rfl | 4, _ => rfl
theorem In.cells_set (i : In) {k : Nat} (h : k < 5) (v : Int) : (i.set k v).cells = i.cells.set k (.int .i64 v) := by
  match k, h with
  | 0, _ => rfl | 1, _ => rfl | 2, _ => rfl | 3, _ => rfl | 4, _ => rfl
theorem In.ext_get {i j : In} (h : ∀ k, k < 5 → i.get k = j.get k) : i = j := by
  obtain ⟨a0, a1, a2, a3, a4⟩ := i
  obtain ⟨b0, b1, b2, b3, b4⟩ := j
  have h0 := h 0 (by omega)
  have h1 := h 1 (by omega)
  have h2 := h 2 (by omega)
  have h3 := h 3 (by omega)
  have h4 := h 4 (by omega)
  simp only [In.get] at h0 h1 h2 h3 h4
  subst h0 h1 h2 h3 h4; rfl

def I64 (x : Int) : Prop := -9223372036854775808 ≤ x ∧ x ≤ 9223372036854775807
def U64 (x : Int) : Prop := 0 ≤ x ∧ x < 18446744073709551616
def In.Ok (i : In) : Prop := I64 i.op ∧ I64 i.a ∧ I64 i.b ∧ I64 i.c ∧ I64 i.imm
theorem In.Ok.get {i : In} (h : i.Ok) (k : Nat) : I64 (i.get k) := by
  obtain ⟨h0, h1, h2, h3, h4⟩ := h
  match k with
  | 0 => exact h0 | 1 => exact h1 | 2 => exact h2 | 3 => exact h3 | k + 4 => exact h4

theorem newAt {w : World} {N : Nat} (hN : w.heap.size = N) (t : TypeId) (L : List Value) : Holds (w.alloc (.cells L.toArray t)) N t L := by subst hN; exact Holds.new w t L
theorem Holds.full {w : World} {b : Nat} {t : TypeId} {L : List Value} (h : Holds w b t L) : w.rangeAt b 0 L := h.range (fun i v hi => by rw [Nat.zero_add]; exact hi)

end Go.Proofs.Ytlppmjbfgclkgaa
