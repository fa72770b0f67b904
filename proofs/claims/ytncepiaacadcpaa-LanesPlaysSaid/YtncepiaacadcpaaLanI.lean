/- Numbers and calls that came in. Conditions: those stated in each theorem. -/
import Derived.Test.YtncepiaacadcpaaLanF
import Derived.Test.YtncepiaacadcpaaCame
namespace Go.Proofs.Ytncepiaacadcpaa
open Go.ChangeShapes Go.WideShapes Go.ChangeAt Go.RowKit

def intKinds : List CK := [⟨0, .i64⟩]
def icells (n : Int) : List Value := [.int .i64 n]
theorem int_mk (vs : List Value) (h : Fit intKinds vs) : ∃ x : Int, icells x = vs ∧ True := by
  obtain ⟨h1, h2⟩ := h
  match vs, h1 with
  | [a], _ =>
    obtain ⟨n, rfl, _⟩ := h2 0 _ _ rfl rfl
    exact ⟨n, rfl, trivial⟩
theorem ints_in {w : World} {a : Option Addr} {len : Nat} (h : Came w a len intKinds) : ∃ xs : List Int, xs.length = len ∧ RowsIn w a 1 icells xs := by
  obtain ⟨xs, h1, h2, _⟩ := rows_in h (by simp [intKinds]) int_mk
  exact ⟨xs, h1, h2⟩
/-- A call that came in. -/
structure OpV where
  kind : Int
  code : Int
def OpV.cells (x : OpV) : List Value := [.int .i64 x.kind, .int .i64 x.code]
def OpV.zero : OpV := ⟨0, 0⟩
def opKinds : List CK := [⟨0, .i64⟩, ⟨0, .i64⟩]
theorem oneOp (x : OpV) : (x.cells.toArray).all (·.oneCell') = true := by simp [OpV.cells, Value.oneCell']
theorem Try.sizeOp : (Try.prog.info? 36).map (·.size) = some 2 := by kernel_rfl
theorem op_mk (vs : List Value) (h : Fit opKinds vs) : ∃ x : OpV, x.cells = vs ∧ True := by
  obtain ⟨h1, h2⟩ := h
  match vs, h1 with
  | [a, b], _ =>
    obtain ⟨n0, rfl, _⟩ := h2 0 _ _ rfl rfl
    obtain ⟨n1, rfl, _⟩ := h2 1 _ _ rfl rfl
    exact ⟨⟨n0, n1⟩, rfl, trivial⟩
theorem ops_in {w : World} {a : Option Addr} {len : Nat} (h : Came w a len opKinds) : ∃ xs : List OpV, xs.length = len ∧ RowsIn w a 2 OpV.cells xs := by
  obtain ⟨xs, h1, h2, _⟩ := rows_in h (by simp [opKinds]) op_mk
  exact ⟨xs, h1, h2⟩
theorem row_later {w w' : World} {q c n : Nat} {cs : List Value} (hr : w.rangeAt q (c + n) cs) (hq : q < w.heap.size) (hb : Below w.heap.size w w') : w'.rangeAt q (c + n) cs := fun i v hi => by
  rw [World.cell?_of_block (a := ⟨q, c + n + i, none⟩) (hb.block q hq)]
  exact hr i v hi

/-- What an abort leaves of the budget. -/
theorem Ct.inc_lim (c : Ct) : c.inc.f = c.f ∧ c.inc.s = c.s ∧ c.inc.o = c.o := by unfold Ct.inc; split <;> exact ⟨rfl, rfl, rfl⟩
theorem Ct.abort_lim (c : Ct) (n : Int) : (c.abort n).f = c.f ∧ (c.abort n).s = c.s ∧ (c.abort n).o = c.o := by
  unfold Ct.abort
  split
  · exact c.inc_lim
  · exact ⟨rfl, rfl, rfl⟩
theorem Ct.enter_lim (c : Ct) : c.enter.f = c.f ∧ c.enter.s = c.s ∧ c.enter.o = c.o := by
  unfold Ct.enter; split <;> exact ⟨rfl, rfl, rfl⟩
theorem Ct.leave_lim (c : Ct) : c.leave.f = c.f ∧ c.leave.s = c.s ∧ c.leave.o = c.o := by
  unfold Ct.leave; split <;> exact ⟨rfl, rfl, rfl⟩
theorem Ct.from3 (c : Ct) : c.from 3 = if c.o = 0 then 4 else 3 := by
  unfold Ct.from
  rw [if_neg (by omega), if_neg (by omega)]
  by_cases h : c.o = 0
  · rw [if_neg (by omega), if_pos h]
  · rw [if_pos ⟨by omega, h⟩, if_neg h]
theorem Ct.abort3 {c : Ct} (h : c.ln = 1 ∨ c.ln = 2) : c.errA 3 = 0 ∧ c.ansA 3 = ((if c.o = 0 then 4 else 3 : Nat) : Int) ∧ c.abort 3 = { c.inc with ln := if c.o = 0 then 4 else 3 } := by
  have he : c.errA 3 = 0 := by unfold Ct.errA; rw [if_neg (by omega)]; rfl
  have hi : c.inc.ln = c.ln := by unfold Ct.inc; split <;> rfl
  have hf : c.inc.follow 3 = if c.o = 0 then 4 else 3 := by
    unfold Ct.follow
    rw [hi, if_pos ⟨h, rfl⟩, Ct.from3, c.inc_lim.2.2]
  refine ⟨he, ?_, ?_⟩
  · unfold Ct.ansA; rw [he, if_pos rfl, hf]
  · unfold Ct.abort; rw [he, if_pos rfl, hf]

end Go.Proofs.Ytncepiaacadcpaa
