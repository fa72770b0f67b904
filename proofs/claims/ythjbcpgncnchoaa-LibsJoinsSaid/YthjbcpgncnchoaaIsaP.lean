/- Plain functions of an instruction: its numbers, its form, whether it is legal. No conditions. -/
import Derived.Test.YthjbcpgncnchoaaOwn0
import Derived.Deep.RegionHeld3
import Derived.StillTailTactics
import Derived.IntWalk
namespace Go.Proofs.Ythjbcpgncnchoaa
open Go.RowKit Go.BigFrame

/-- An instruction. -/
structure In where
  op : Int
  a : Int
  b : Int
  c : Int
  imm : Int
deriving DecidableEq

def In.zero : In := ⟨0, 0, 0, 0, 0⟩
def In.cells (i : In) : List Value := [.int .i64 i.op, .int .i64 i.a, .int .i64 i.b, .int .i64 i.c, .int .i64 i.imm]
def In.val (i : In) : Value := .agg #[.int .i64 i.op, .int .i64 i.a, .int .i64 i.b, .int .i64 i.c, .int .i64 i.imm]
def In.get (i : In) (k : Nat) : Int := match k with | 0 => i.op | 1 => i.a | 2 => i.b | 3 => i.c | _ => i.imm
def In.set (i : In) (k : Nat) (v : Int) : In := match k with | 0 => { i with op := v } | 1 => { i with a := v } | 2 => { i with b := v } | 3 => { i with c := v } | _ => { i with imm := v }
theorem In.cell_get (i : In) {k : Nat} (h : k < 5) : i.cells[k]? = some (.int .i64 (i.get k)) := by
  match k, h with
  | 0, _ => rfl | 1, _ => rfl | 2, _ => rfl | 3, _ => rfl | 4, _ => rfl
theorem In.cells_set (i : In) {k : Nat} (h : k < 5) (v : Int) : (i.set k v).cells = i.cells.set k (.int .i64 v) := by
  match k, h with
  | 0, _ => rfl | 1, _ => rfl | 2, _ => rfl | 3, _ => rfl | 4, _ => rfl
theorem In.ext_get {i j : In} (h : ∀ k, k < 5 → i.get k = j.get k) : i = j := by
  obtain ⟨a0, a1, a2, a3, a4⟩ := i
  obtain ⟨b0, b1, b2, b3, b4⟩ := j
  have h0 := h 0 (by omega)
  have h1 := h 1 (by omega)
  have h2 := h 2 (by omega)
  have h3 := h 3 (by omega)
  have h4 := h 4 (by omega)
  simp only [In.get] at h0 h1 h2 h3 h4
  subst h0 h1 h2 h3 h4; rfl

def I64 (x : Int) : Prop := -9223372036854775808 ≤ x ∧ x ≤ 9223372036854775807
def U64 (x : Int) : Prop := 0 ≤ x ∧ x < 18446744073709551616
def In.Ok (i : In) : Prop := I64 i.op ∧ I64 i.a ∧ I64 i.b ∧ I64 i.c ∧ I64 i.imm
theorem In.Ok.get {i : In} (h : i.Ok) (k : Nat) : I64 (i.get k) := by
  obtain ⟨h0, h1, h2, h3, h4⟩ := h
  match k with
  | 0 => exact h0 | 1 => exact h1 | 2 => exact h2 | 3 => exact h3 | k + 4 => exact h4

/-- Which numbers a form names: a bit for each. -/
def mask : Nat → Nat
  | 0 => 31 | 1 => 0 | 2 => 18 | 3 => 6 | 11 => 22 | 12 => 22 | 13 => 16 | 14 => 22 | 15 => 22 | 16 => 22 | 17 => 0 | 18 => 0 | _ => 14
def hasP (m k : Nat) : Bool := m / 2 ^ k % 2 == 1
def placesP (m : Nat) : List Nat := (List.range 5).filter (hasP m)
/-- A form's word. -/
def word : Nat → List UInt8
  | 0 => [114, 97, 119] | 1 => [104, 97, 108, 116] | 2 => [115, 101, 116] | 3 => [109, 111, 118] | 4 => [97, 100, 100] | 5 => [115, 117, 98] | 6 => [109, 117, 108] | 7 => [97, 110, 100] | 8 => [120, 111, 114]
  | 9 => [115, 104, 108] | 10 => [115, 104, 114] | 11 => [108, 111, 97, 100] | 12 => [115, 116, 111, 114, 101] | 13 => [106, 117, 109, 112] | 14 => [101, 113] | 15 => [110, 101] | 16 => [108, 116] | 17 => [98, 101, 103, 105, 110] | _ => [101, 110, 100]
def wordS (r : Nat) : ByteArray := ⟨(word r).toArray⟩
/-- The registers that a form names. -/
def regPl (m : Nat) : List Nat := placesP (m &&& 14)
def regOk (i : In) (k : Nat) : Bool := decide (0 ≤ i.get k) && decide (i.get k < 8)
def legalP (i : In) : Bool := decide (1 ≤ i.op) && decide (i.op ≤ 18) && (regPl (mask i.op.toNat)).all (regOk i)

theorem mask_lt (r : Nat) : mask r < 32 := by unfold mask; split <;> omega
theorem placesP_lt {m k : Nat} (h : k ∈ placesP m) : k < 5 := by
  unfold placesP at h; exact List.mem_range.1 (List.mem_filter.1 h).1
theorem newAt {w : World} {N : Nat} (hN : w.heap.size = N) (t : TypeId) (L : List Value) : Holds (w.alloc (.cells L.toArray t)) N t L := by subst hN; exact Holds.new w t L
theorem Holds.full {w : World} {b : Nat} {t : TypeId} {L : List Value} (h : Holds w b t L) : w.rangeAt b 0 L := h.range (fun i v hi => by rw [Nat.zero_add]; exact hi)

/-- What is asked for. -/
structure Ef where
  kind : Int
  next : Int
  reg : Int
  val : Int
  addr : Int
deriving DecidableEq
def Ef.zero : Ef := ⟨0, 0, 0, 0, 0⟩
def Ef.cells (e : Ef) : List Value := [.int .i64 e.kind, .int .i64 e.next, .int .i64 e.reg, .int .u64 e.val, .int .u64 e.addr]
def Ef.value (e : Ef) : Value := .agg #[.int .i64 e.kind, .int .i64 e.next, .int .i64 e.reg, .int .u64 e.val, .int .u64 e.addr]

def addrP (i : In) (x : L8) : Int := IntKind.u64.wrap (x.get i.b.toNat + IntKind.u64.wrap i.imm)
def reckP (op x y : Int) : Int :=
  if op == 4 then IntKind.u64.wrap (x + y) else if op == 5 then IntKind.u64.wrap (x - y) else if op == 6 then IntKind.u64.wrap (x * y)
  else if op == 7 then Go.bits .and .u64 x y else if op == 8 then Go.bits .xor .u64 x y
  else if op == 9 then IntKind.u64.wrap (x * 2 ^ (y % 64).toNat) else if op == 10 then x / 2 ^ (y % 64).toNat else 0
def valueP (i : In) (x : L8) : Int := if i.op = 2 then IntKind.u64.wrap i.imm else if i.op = 3 then x.get i.b.toNat else reckP i.op (x.get i.b.toNat) (x.get i.c.toNat)
def goesP (i : In) (x : L8) : Bool :=
  if i.op = 14 then x.get i.a.toNat == x.get i.b.toNat else if i.op = 15 then x.get i.a.toNat != x.get i.b.toNat else if i.op = 16 then decide (x.get i.a.toNat < x.get i.b.toNat) else true
def branchP (i : In) (x : L8) (next : Int) : Ef :=
  if goesP i x = false then ⟨2, next, 0, 0, 0⟩ else if i.imm < 0 ∨ 1024 < i.imm then Ef.zero else ⟨2, i.imm, 0, 0, 0⟩
def doP (i : In) (x : L8) (pc : Int) : Ef :=
  if legalP i = false ∨ pc < 0 ∨ 1024 ≤ pc then Ef.zero
  else if i.op = 1 then ⟨7, pc + 1, 0, 0, 0⟩ else if i.op = 17 then ⟨5, pc + 1, 0, 0, 0⟩ else if i.op = 18 then ⟨6, pc + 1, 0, 0, 0⟩
  else if i.op = 11 then ⟨3, pc + 1, i.a, 0, addrP i x⟩ else if i.op = 12 then ⟨4, pc + 1, 0, x.get i.a.toNat, addrP i x⟩
  else if i.op = 13 ∨ i.op = 14 ∨ i.op = 15 ∨ i.op = 16 then branchP i x (pc + 1) else ⟨1, pc + 1, i.a, valueP i x, 0⟩

/-- Registers are numbers of 64 bits. -/
def L8.Ok (x : L8) : Prop := ∀ k, k < 8 → U64 (x.get k)

/-- The named ones are in range. -/
theorem legal_regs {i : In} (h : legalP i = true) : (1 ≤ i.op ∧ i.op ≤ 18) ∧ ∀ k, k ∈ regPl (mask i.op.toNat) → ∃ r : Nat, i.get k = r ∧ r < 8 := by
  simp only [legalP, Bool.and_eq_true, decide_eq_true_eq, List.all_eq_true] at h
  refine ⟨h.1, fun k hk => ?_⟩
  have := h.2 k hk
  simp only [regOk, Bool.and_eq_true, decide_eq_true_eq] at this
  exact ⟨(i.get k).toNat, by omega, by omega⟩
theorem two_cells (i : In) (x : L8) (w : World) {k : Nat} (h8 : k < 8) (q : Nat) : ((((w.alloc (.cells #[.int .i64 i.op, .int .i64 i.a, .int .i64 i.b, .int .i64 i.c, .int .i64 i.imm] 40)).alloc (.cells #[.int .u64 x.x0, .int .u64 x.x1, .int .u64 x.x2, .int .u64 x.x3, .int .u64 x.x4, .int .u64 x.x5, .int .u64 x.x6, .int .u64 x.x7] 63))).drewN q).cell? ⟨w.heap.size + 1, k, none⟩ = some (.int .u64 (x.get k)) :=
  (newAt (w := w.alloc (.cells #[.int .i64 i.op, .int .i64 i.a, .int .i64 i.b, .int .i64 i.c, .int .i64 i.imm] 40)) (by simp) 63 x.cells).cell (L8.cell_get x h8)
theorem two_below (i : In) (x : L8) (w : World) (q : Nat) : Below w.heap.size w ((((w.alloc (.cells #[.int .i64 i.op, .int .i64 i.a, .int .i64 i.b, .int .i64 i.c, .int .i64 i.imm] 40)).alloc (.cells #[.int .u64 x.x0, .int .u64 x.x1, .int .u64 x.x2, .int .u64 x.x3, .int .u64 x.x4, .int .u64 x.x5, .int .u64 x.x6, .int .u64 x.x7] 63))).drewN q) :=
  below_drewN (((Below.refl _ w).alloc (Nat.le_refl _) _).alloc (by simp) _) q

theorem oneEf (e : Ef) : (e.cells.toArray).all (·.oneCell') = true := by simp [Ef.cells, Value.oneCell']
theorem Try.sizeEf : (Try.prog.info? 82).map (·.size) = some 5 := by kernel_rfl
theorem Try.loadEf {w : World} {b : Nat} (e : Ef) (h : Holds w b 82 e.cells) : (loadVar 82 ⟨b, 0, none⟩).run Try.prog w = .ok e.value w :=
  run_loadVar_mid w b 0 82 e.cells _ h.full Try.underlying82 rfl Try.sizeEf

/-- Do's three boxes. -/
structure Bx3 (w : World) (N : Nat) (i : In) (x : L8) : Prop where
  b0 : Holds w N 40 i.cells
  b1 : Holds w (N + 1) 63 x.cells
  b2 : Holds w (N + 2) 82 Ef.zero.cells
theorem Bx3.below {w w' : World} {N : Nat} {i : In} {x : L8} (h : Bx3 w N i x) (hb : Below w.heap.size w w') : Bx3 w' N i x := ⟨h.b0.below hb, h.b1.below hb, h.b2.below hb⟩
theorem bx3_new (w : World) (i : In) (x : L8) : Bx3 (((w.alloc (.cells i.cells.toArray 40)).alloc (.cells x.cells.toArray 63)).alloc (.cells Ef.zero.cells.toArray 82)) w.heap.size i x :=
  ⟨((Holds.new w _ _).alloc _).alloc _, (newAt (by simp) _ _).alloc _, newAt (by simp) _ _⟩

/-- Behind the last store: the box holds what is answered. -/
theorem Bx3.fin {w w' : World} {N : Nat} {i : In} {x : L8} (h : Bx3 w' N i x) (hN : N = w.heap.size) (hb : Below w.heap.size w w') (e : Ef) : Holds (w'.setCells (N + 2) 0 e.cells) (N + 2) 82 e.cells ∧ Below w.heap.size w (w'.setCells (N + 2) 0 e.cells) :=
  ⟨h.b2.sets e.cells 0, below_cells (by omega) _ _ _ hb⟩

end Go.Proofs.Ythjbcpgncnchoaa
