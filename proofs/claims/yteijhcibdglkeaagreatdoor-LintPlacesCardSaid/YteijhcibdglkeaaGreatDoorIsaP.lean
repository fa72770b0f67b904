/- Plain functions of an instruction: its numbers, its form, whether it is legal. No conditions. -/
import Derived.Test.YteijhcibdglkeaaGreatDoorB0
namespace Go.Proofs.YteijhcibdglkeaaGreatDoor
open Go.RowKit

/-- An instruction. -/
structure In where
  op : Int
  a : Int
  b : Int
  c : Int
  imm : Int
deriving DecidableEq

def In.zero : In := ⟨0, 0, 0, 0, 0⟩
def In.cells (i : In) : List Value := [.int .i64 i.op, .int .i64 i.a, .int .i64 i.b, .int .i64 i.c, .int .i64 i.imm]
def In.val (i : In) : Value := .agg #[.int .i64 i.op, .int .i64 i.a, .int .i64 i.b, .int .i64 i.c, .int .i64 i.imm]
def In.get (i : In) (k : Nat) : Int := match k with | 0 => i.op | 1 => i.a | 2 => i.b | 3 => i.c | _ => i.imm
def In.set (i : In) (k : Nat) (v : Int) : In := match k with | 0 => { i with op := v } | 1 => { i with a := v } | 2 => { i with b := v } | 3 => { i with c := v } | _ => { i with imm := v }
theorem In.cell_get (i : In) {k : Nat} (h : k < 5) : i.cells[k]? = some (.int .i64 (i.get k)) := by
  match k, h with
  | 0, _ => rfl | 1, _ => rfl | 2, _ => rfl | 3, _ => rfl | 4, _ => rfl
theorem In.cells_set (i : In) {k : Nat} (h : k < 5) (v : Int) : (i.set k v).cells = i.cells.set k (.int .i64 v) := by
  match k, h with
  | 0, _ => rfl | 1, _ => rfl | 2, _ => rfl | 3, _ => rfl | 4, _ => rfl
theorem In.ext_get {i j : In} (h : ∀ k, k < 5 → i.get k = j.get k) : i = j := by
  obtain ⟨a0, a1, a2, a3, a4⟩ := i
  obtain ⟨b0, b1, b2, b3, b4⟩ := j
  have h0 := h 0 (by omega)
  have h1 := h 1 (by omega)
  have h2 := h 2 (by omega)
  have h3 := h 3 (by omega)
  have h4 := h 4 (by omega)
  simp only [In.get] at h0 h1 h2 h3 h4
  subst h0 h1 h2 h3 h4; rfl

def I64 (x : Int) : Prop := -9223372036854775808 ≤ x ∧ x ≤ 9223372036854775807
def U64 (x : Int) : Prop := 0 ≤ x ∧ x < 18446744073709551616
def In.Ok (i : In) : Prop := I64 i.op ∧ I64 i.a ∧ I64 i.b ∧ I64 i.c ∧ I64 i.imm
theorem In.Ok.get {i : In} (h : i.Ok) (k : Nat) : I64 (i.get k) := by
  obtain ⟨h0, h1, h2, h3, h4⟩ := h
  match k with
  | 0 => exact h0 | 1 => exact h1 | 2 => exact h2 | 3 => exact h3 | k + 4 => exact h4

/-- Which numbers a form names: a bit for each. -/
def mask : Nat → Nat
  | 0 => 31 | 1 => 0 | 2 => 18 | 3 => 6 | 11 => 22 | 12 => 22 | 13 => 16 | 14 => 22 | 15 => 22 | 16 => 22 | 17 => 0 | 18 => 0 | _ => 14
def hasP (m k : Nat) : Bool := m / 2 ^ k % 2 == 1
def placesP (m : Nat) : List Nat := (List.range 5).filter (hasP m)
/-- A form's word. -/
def word : Nat → List UInt8
  | 0 => [114, 97, 119] | 1 => [104, 97, 108, 116] | 2 => [115, 101, 116] | 3 => [109, 111, 118] | 4 => [97, 100, 100] | 5 => [115, 117, 98] | 6 => [109, 117, 108] | 7 => [97, 110, 100] | 8 => [120, 111, 114]
  | 9 => [115, 104, 108] | 10 => [115, 104, 114] | 11 => [108, 111, 97, 100] | 12 => [115, 116, 111, 114, 101] | 13 => [106, 117, 109, 112] | 14 => [101, 113] | 15 => [110, 101] | 16 => [108, 116] | 17 => [98, 101, 103, 105, 110] | _ => [101, 110, 100]
def wordS (r : Nat) : ByteArray := ⟨(word r).toArray⟩
/-- The table's cells. -/
def formCells : List Value := (List.range 19).flatMap fun r => [.string (wordS r), .int .i64 (mask r)]
/-- The table, in memory. -/
def FormsAt (w : World) : Prop := ∀ r, r < 19 → w.cell? ⟨0, 2 * r, none⟩ = some (.string (wordS r)) ∧ w.cell? ⟨0, 2 * r + 1, none⟩ = some (.int .i64 (mask r))
theorem FormsAt.lt {w : World} (h : FormsAt w) : 0 < w.heap.size := World.block_lt_of_cell? _ _ (h 0 (by omega)).1
theorem FormsAt.same {w w' : World} (h : FormsAt w) (hb : w'.heap[(0 : Nat)]? = w.heap[(0 : Nat)]?) : FormsAt w' := fun r hr =>
  ⟨(World.cell?_of_block (a := ⟨0, 2 * r, none⟩) hb).trans (h r hr).1, (World.cell?_of_block (a := ⟨0, 2 * r + 1, none⟩) hb).trans (h r hr).2⟩
theorem FormsAt.below {w w' : World} (h : FormsAt w) (hb : Below w.heap.size w w') : FormsAt w' := h.same (hb.block _ h.lt)
theorem FormsAt.tch {C : Nat → Prop} {w w' : World} (h : FormsAt w) (hb : Tch C w w') (hC : ¬ C 0) : FormsAt w' := h.same (hb.block _ h.lt hC)

/-- The registers that a form names. -/
def regPl (m : Nat) : List Nat := placesP (m &&& 14)
def regOk (i : In) (k : Nat) : Bool := decide (0 ≤ i.get k) && decide (i.get k < 8)
def legalP (i : In) : Bool := decide (1 ≤ i.op) && decide (i.op ≤ 18) && (regPl (mask i.op.toNat)).all (regOk i)

theorem mask_lt (r : Nat) : mask r < 32 := by unfold mask; split <;> omega
theorem placesP_lt {m k : Nat} (h : k ∈ placesP m) : k < 5 := by
  unfold placesP at h; exact List.mem_range.1 (List.mem_filter.1 h).1
theorem and14 (r : Nat) : ((mask r &&& 14 : Nat) : Int) = Go.bits .and .i64 ((mask r : Nat) : Int) 14 := by
  unfold mask; split <;> decide
theorem and14_lt (r : Nat) : mask r &&& 14 < 32 := by unfold mask; split <;> decide
theorem has_fin : ∀ (m : Fin 32) (k : Fin 5), (Go.bits .and .i64 ((m.val : Nat) : Int) (wrap64 (2 ^ k.val)) != 0) = hasP m.val k.val := by decide +kernel
theorem has_nat {m k : Nat} (hm : m < 32) (hk : k < 5) : (Go.bits .and .i64 (m : Int) (wrap64 (2 ^ k)) != 0) = hasP m k := has_fin ⟨m, hm⟩ ⟨k, hk⟩
theorem newAt {w : World} {N : Nat} (hN : w.heap.size = N) (t : TypeId) (L : List Value) : Holds (w.alloc (.cells L.toArray t)) N t L := by subst hN; exact Holds.new w t L
theorem Holds.full {w : World} {b : Nat} {t : TypeId} {L : List Value} (h : Holds w b t L) : w.rangeAt b 0 L := h.range (fun i v hi => by rw [Nat.zero_add]; exact hi)

end Go.Proofs.YteijhcibdglkeaaGreatDoor
