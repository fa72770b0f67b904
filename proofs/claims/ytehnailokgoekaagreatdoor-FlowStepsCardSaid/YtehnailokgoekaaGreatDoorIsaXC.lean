/- What an instruction asks for: the plain function; addr, goes, reckoned, value, branch. Conditions: those stated in each theorem. -/
import Derived.Test.YtehnailokgoekaaGreatDoorIsaB
namespace Go.Proofs.YtehnailokgoekaaGreatDoor
open Go.RowKit Go.BigFrame

/-- What is asked for. -/
structure Ef where
  kind : Int
  next : Int
  reg : Int
  val : Int
  addr : Int
deriving DecidableEq
def Ef.zero : Ef := ⟨0, 0, 0, 0, 0⟩
def Ef.cells (e : Ef) : List Value := [.int .i64 e.kind, .int .i64 e.next, .int .i64 e.reg, .int .u64 e.val, .int .u64 e.addr]
def Ef.value (e : Ef) : Value := .agg #[.int .i64 e.kind, .int .i64 e.next, .int .i64 e.reg, .int .u64 e.val, .int .u64 e.addr]

def addrP (i : In) (x : L8) : Int := IntKind.u64.wrap (x.get i.b.toNat + IntKind.u64.wrap i.imm)
def reckP (op x y : Int) : Int :=
  if op == 4 then IntKind.u64.wrap (x + y) else if op == 5 then IntKind.u64.wrap (x - y) else if op == 6 then IntKind.u64.wrap (x * y)
  else if op == 7 then Go.bits .and .u64 x y else if op == 8 then Go.bits .xor .u64 x y
  else if op == 9 then IntKind.u64.wrap (x * 2 ^ (y % 64).toNat) else if op == 10 then x / 2 ^ (y % 64).toNat else 0
def valueP (i : In) (x : L8) : Int := if i.op = 2 then IntKind.u64.wrap i.imm else if i.op = 3 then x.get i.b.toNat else reckP i.op (x.get i.b.toNat) (x.get i.c.toNat)
def goesD (i : In) (x : L8) : Bool :=
  if i.op = 14 then x.get i.a.toNat == x.get i.b.toNat else if i.op = 15 then x.get i.a.toNat != x.get i.b.toNat else if i.op = 16 then decide (x.get i.a.toNat < x.get i.b.toNat) else true
def branchP (i : In) (x : L8) (next : Int) : Ef :=
  if goesD i x = false then ⟨2, next, 0, 0, 0⟩ else if i.imm < 0 ∨ 1024 < i.imm then Ef.zero else ⟨2, i.imm, 0, 0, 0⟩
def doP (i : In) (x : L8) (pc : Int) : Ef :=
  if legalP i = false ∨ pc < 0 ∨ 1024 ≤ pc then Ef.zero
  else if i.op = 1 then ⟨7, pc + 1, 0, 0, 0⟩ else if i.op = 17 then ⟨5, pc + 1, 0, 0, 0⟩ else if i.op = 18 then ⟨6, pc + 1, 0, 0, 0⟩
  else if i.op = 11 then ⟨3, pc + 1, i.a, 0, addrP i x⟩ else if i.op = 12 then ⟨4, pc + 1, 0, x.get i.a.toNat, addrP i x⟩
  else if i.op = 13 ∨ i.op = 14 ∨ i.op = 15 ∨ i.op = 16 then branchP i x (pc + 1) else ⟨1, pc + 1, i.a, valueP i x, 0⟩

/-- Registers are numbers of 64 bits. -/
def L8.Ok (x : L8) : Prop := ∀ k, k < 8 → U64 (x.get k)

/-- The named ones are in range. -/
theorem legal_regs {i : In} (h : legalP i = true) : (1 ≤ i.op ∧ i.op ≤ 18) ∧ ∀ k, k ∈ regPl (mask i.op.toNat) → ∃ r : Nat, i.get k = r ∧ r < 8 := by
  simp only [legalP, Bool.and_eq_true, decide_eq_true_eq, List.all_eq_true] at h
  refine ⟨h.1, fun k hk => ?_⟩
  have := h.2 k hk
  simp only [regOk, Bool.and_eq_true, decide_eq_true_eq] at this
  exact ⟨(i.get k).toNat, by omega, by omega⟩
theorem two_cells (i : In) (x : L8) (w : World) {k : Nat} (h8 : k < 8) (q : Nat) : ((((w.alloc (.cells #[.int .i64 i.op, .int .i64 i.a, .int .i64 i.b, .int .i64 i.c, .int .i64 i.imm] 51)).alloc (.cells #[.int .u64 x.x0, .int .u64 x.x1, .int .u64 x.x2, .int .u64 x.x3, .int .u64 x.x4, .int .u64 x.x5, .int .u64 x.x6, .int .u64 x.x7] 43))).drewN q).cell? ⟨w.heap.size + 1, k, none⟩ = some (.int .u64 (x.get k)) :=
  (newAt (w := w.alloc (.cells #[.int .i64 i.op, .int .i64 i.a, .int .i64 i.b, .int .i64 i.c, .int .i64 i.imm] 51)) (by simp) 43 x.cells).cell (L8.cell_get x h8)
theorem two_below (i : In) (x : L8) (w : World) (q : Nat) : Below w.heap.size w ((((w.alloc (.cells #[.int .i64 i.op, .int .i64 i.a, .int .i64 i.b, .int .i64 i.c, .int .i64 i.imm] 51)).alloc (.cells #[.int .u64 x.x0, .int .u64 x.x1, .int .u64 x.x2, .int .u64 x.x3, .int .u64 x.x4, .int .u64 x.x5, .int .u64 x.x6, .int .u64 x.x7] 43))).drewN q) :=
  below_drewN (((Below.refl _ w).alloc (Nat.le_refl _) _).alloc (by simp) _) q

set_option maxRecDepth 100000 in
set_option maxHeartbeats 1000000 in
theorem addr_any (i : In) (x : L8) (w : World) (r : Nat) (hr : i.b = r) (h8 : r < 8) : Calls Tryz.prog 23 #[i.val, x.val] w fun e w' => e = .returned (.int .u64 (addrP i x)) ∧ Below w.heap.size w w' := by
  obtain ⟨op, a, b, c, imm⟩ := i
  simp only at hr; subst hr
  have hb : (0 : Int) ≤ r ∧ (r : Int) < 8 := by omega
  have q0 := two_cells ⟨op, a, r, c, imm⟩ x w h8
  have hbel := two_below ⟨op, a, r, c, imm⟩ x w
  have Hbel := Lib.hid hbel; clear hbel
  go_enter Tryz.func23, Tryz.ntmps23
  unfold In.val L8.val
  go_wp2_with fail
  go_quiet (fail)
  go_wp2
  refine bodyPost_ret (results_tmp rfl _ _ _) rfl ⟨rfl, Hbel.out _⟩

set_option maxRecDepth 100000 in
set_option maxHeartbeats 1000000 in
theorem reckoned_any (op x y : Int) (w : World) (hx : U64 x) (hy : U64 y) : Calls Tryz.prog 36 #[.int .i64 op, .int .u64 x, .int .u64 y] w fun e w' => e = .returned (.int .u64 (reckP op x y)) ∧ w = w' := by
  unfold U64 at hx hy
  obtain ⟨hx0, hx1⟩ := hx
  obtain ⟨hy0, hy1⟩ := hy
  go_enter Tryz.func36, Tryz.ntmps36
  go_wp2
  all_goals (go_ret; refine ⟨?_, rfl⟩; simp only [reckP, *, if_true, Bool.false_eq_true, if_false, reduceIte]; try rfl)

set_option maxRecDepth 100000 in
set_option maxHeartbeats 1000000 in
theorem goes_14 (a b c imm : Int) (x : L8) (w : World) (r s : Nat) (hr : a = r) (hs : b = s) (h8 : r < 8) (h9 : s < 8) : Calls Tryz.prog 35 #[(In.mk 14 a b c imm).val, x.val] w fun e w' => e = .returned (.bool (goesD ⟨14, a, b, c, imm⟩ x)) ∧ Below w.heap.size w w' := by
  subst hr hs
  have hb : (0 : Int) ≤ r ∧ (r : Int) < 8 := by omega
  have hc : (0 : Int) ≤ s ∧ (s : Int) < 8 := by omega
  have q0 := two_cells ⟨14, r, s, c, imm⟩ x w h8
  have q1 := two_cells ⟨14, r, s, c, imm⟩ x w h9
  have hbel := two_below ⟨14, r, s, c, imm⟩ x w
  have Hbel := Lib.hid hbel; clear hbel
  go_enter Tryz.func35, Tryz.ntmps35
  unfold In.val L8.val
  go_wp2_with fail
  go_quiet (fail)
  go_wp2
  refine bodyPost_ret (results_tmp rfl _ _ _) rfl ⟨?_, Hbel.out _⟩
  rfl

set_option maxRecDepth 100000 in
set_option maxHeartbeats 1000000 in
theorem goes_15 (a b c imm : Int) (x : L8) (w : World) (r s : Nat) (hr : a = r) (hs : b = s) (h8 : r < 8) (h9 : s < 8) : Calls Tryz.prog 35 #[(In.mk 15 a b c imm).val, x.val] w fun e w' => e = .returned (.bool (goesD ⟨15, a, b, c, imm⟩ x)) ∧ Below w.heap.size w w' := by
  subst hr hs
  have hb : (0 : Int) ≤ r ∧ (r : Int) < 8 := by omega
  have hc : (0 : Int) ≤ s ∧ (s : Int) < 8 := by omega
  have q0 := two_cells ⟨15, r, s, c, imm⟩ x w h8
  have q1 := two_cells ⟨15, r, s, c, imm⟩ x w h9
  have hbel := two_below ⟨15, r, s, c, imm⟩ x w
  have Hbel := Lib.hid hbel; clear hbel
  go_enter Tryz.func35, Tryz.ntmps35
  unfold In.val L8.val
  go_wp2_with fail
  go_quiet (fail)
  go_wp2
  refine bodyPost_ret (results_tmp rfl _ _ _) rfl ⟨?_, Hbel.out _⟩
  rfl

set_option maxRecDepth 100000 in
set_option maxHeartbeats 1000000 in
theorem goes_16 (a b c imm : Int) (x : L8) (w : World) (r s : Nat) (hr : a = r) (hs : b = s) (h8 : r < 8) (h9 : s < 8) : Calls Tryz.prog 35 #[(In.mk 16 a b c imm).val, x.val] w fun e w' => e = .returned (.bool (goesD ⟨16, a, b, c, imm⟩ x)) ∧ Below w.heap.size w w' := by
  subst hr hs
  have hb : (0 : Int) ≤ r ∧ (r : Int) < 8 := by omega
  have hc : (0 : Int) ≤ s ∧ (s : Int) < 8 := by omega
  have q0 := two_cells ⟨16, r, s, c, imm⟩ x w h8
  have q1 := two_cells ⟨16, r, s, c, imm⟩ x w h9
  have hbel := two_below ⟨16, r, s, c, imm⟩ x w
  have Hbel := Lib.hid hbel; clear hbel
  go_enter Tryz.func35, Tryz.ntmps35
  unfold In.val L8.val
  go_wp2_with fail
  go_quiet (fail)
  go_wp2
  refine bodyPost_ret (results_tmp rfl _ _ _) rfl ⟨?_, Hbel.out _⟩
  rfl

set_option maxRecDepth 100000 in
set_option maxHeartbeats 1000000 in
theorem goes_other (op a b c imm : Int) (x : L8) (w : World) (h1 : op ≠ 14) (h2 : op ≠ 15) (h3 : op ≠ 16) : Calls Tryz.prog 35 #[(In.mk op a b c imm).val, x.val] w fun e w' => e = .returned (.bool (goesD ⟨op, a, b, c, imm⟩ x)) ∧ Below w.heap.size w w' := by
  have hbel := two_below ⟨op, a, b, c, imm⟩ x w 0
  have Hbel := Lib.hid hbel; clear hbel
  have hg : goesD ⟨op, a, b, c, imm⟩ x = true := by simp [goesD, h1, h2, h3]
  rw [hg]
  go_enter Tryz.func35, Tryz.ntmps35
  unfold In.val L8.val
  go_wp2
  refine bodyPost_ret (results_tmp rfl _ _ _) rfl ⟨rfl, Hbel.out⟩

theorem goesD_any (i : In) (x : L8) (w : World) (h : legalP i = true) : Calls Tryz.prog 35 #[i.val, x.val] w fun e w' => e = .returned (.bool (goesD i x)) ∧ Below w.heap.size w w' := by
  obtain ⟨_, hk⟩ := legal_regs h
  obtain ⟨op, a, b, c, imm⟩ := i
  by_cases h1 : op = 14
  · subst h1
    obtain ⟨r, hr, h8⟩ := hk 1 (show 1 ∈ regPl (mask 14) by decide)
    obtain ⟨s, hs, h9⟩ := hk 2 (show 2 ∈ regPl (mask 14) by decide)
    exact goes_14 a b c imm x w r s hr hs h8 h9
  · by_cases h2 : op = 15
    · subst h2
      obtain ⟨r, hr, h8⟩ := hk 1 (show 1 ∈ regPl (mask 15) by decide)
      obtain ⟨s, hs, h9⟩ := hk 2 (show 2 ∈ regPl (mask 15) by decide)
      exact goes_15 a b c imm x w r s hr hs h8 h9
    · by_cases h3 : op = 16
      · subst h3
        obtain ⟨r, hr, h8⟩ := hk 1 (show 1 ∈ regPl (mask 16) by decide)
        obtain ⟨s, hs, h9⟩ := hk 2 (show 2 ∈ regPl (mask 16) by decide)
        exact goes_16 a b c imm x w r s hr hs h8 h9
      · exact goes_other op a b c imm x w h1 h2 h3

set_option maxRecDepth 100000 in
set_option maxHeartbeats 1000000 in
theorem value_set (a b c imm : Int) (x : L8) (w : World) : Calls Tryz.prog 25 #[(In.mk 2 a b c imm).val, x.val] w fun e w' => e = .returned (.int .u64 (valueP ⟨2, a, b, c, imm⟩ x)) ∧ Below w.heap.size w w' := by
  have hbel := two_below ⟨2, a, b, c, imm⟩ x w 0
  have Hbel := Lib.hid hbel; clear hbel
  go_enter Tryz.func25, Tryz.ntmps25
  unfold In.val L8.val
  go_wp2
  refine bodyPost_ret (results_tmp rfl _ _ _) rfl ⟨rfl, Hbel.out⟩

set_option maxRecDepth 100000 in
set_option maxHeartbeats 1000000 in
theorem value_mov (a b c imm : Int) (x : L8) (w : World) (r : Nat) (hr : b = r) (h8 : r < 8) : Calls Tryz.prog 25 #[(In.mk 3 a b c imm).val, x.val] w fun e w' => e = .returned (.int .u64 (valueP ⟨3, a, b, c, imm⟩ x)) ∧ Below w.heap.size w w' := by
  subst hr
  have hb : (0 : Int) ≤ r ∧ (r : Int) < 8 := by omega
  have q0 := two_cells ⟨3, a, r, c, imm⟩ x w h8 0
  have hbel := two_below ⟨3, a, r, c, imm⟩ x w 0
  have Hbel := Lib.hid hbel; clear hbel
  simp only [World.drewN_zero] at q0
  go_enter Tryz.func25, Tryz.ntmps25
  unfold In.val L8.val
  go_wp2
  refine bodyPost_ret (results_tmp rfl _ _ _) rfl ⟨rfl, Hbel.out⟩

set_option maxRecDepth 100000 in
set_option maxHeartbeats 1000000 in
theorem value_op (op a b c imm : Int) (x : L8) (w : World) (hx : x.Ok) (h2 : op ≠ 2) (h3 : op ≠ 3) (r s : Nat) (hr : b = r) (hs : c = s) (h8 : r < 8) (h9 : s < 8) : Calls Tryz.prog 25 #[(In.mk op a b c imm).val, x.val] w fun e w' => e = .returned (.int .u64 (valueP ⟨op, a, b, c, imm⟩ x)) ∧ Below w.heap.size w w' := by
  subst hr hs
  have hb : (0 : Int) ≤ r ∧ (r : Int) < 8 := by omega
  have hc : (0 : Int) ≤ s ∧ (s : Int) < 8 := by omega
  have hv : valueP ⟨op, a, r, s, imm⟩ x = reckP op (x.get r) (x.get s) := by simp [valueP, h2, h3]
  rw [hv]
  have hR := fun W => reckoned_any op (x.get r) (x.get s) W (hx r h8) (hx s h9)
  have HR := Lib.hid hR; clear hR
  have q0 := two_cells ⟨op, a, r, s, imm⟩ x w h8
  have q1 := two_cells ⟨op, a, r, s, imm⟩ x w h9
  have hbel := two_below ⟨op, a, r, s, imm⟩ x w
  have Hbel := Lib.hid hbel; clear hbel hv
  go_enter Tryz.func25, Tryz.ntmps25
  unfold In.val L8.val
  go_wp2_with fail
  go_quiet ((go_at_call 36; exact Calls.quiet_of_same ((HR.out _).mono (fun _ _ h => ⟨h.1, h.2.symm⟩))))
  go_wp2
  refine bodyPost_ret (results_tmp rfl _ _ _) rfl ⟨rfl, Hbel.out _⟩

theorem value_any (i : In) (x : L8) (w : World) (hx : x.Ok) (h : legalP i = true) (h2 : 2 ≤ i.op) (h10 : i.op ≤ 10) : Calls Tryz.prog 25 #[i.val, x.val] w fun e w' => e = .returned (.int .u64 (valueP i x)) ∧ Below w.heap.size w w' := by
  obtain ⟨_, hk⟩ := legal_regs h
  obtain ⟨op, a, b, c, imm⟩ := i
  simp only at h2 h10
  by_cases e2 : op = 2
  · subst e2; exact value_set a b c imm x w
  · by_cases e3 : op = 3
    · subst e3
      obtain ⟨r, hr, h8⟩ := hk 2 (show 2 ∈ regPl (mask 3) by decide)
      exact value_mov a b c imm x w r hr h8
    · obtain ⟨n, rfl⟩ : ∃ n : Nat, op = n := ⟨op.toNat, by omega⟩
      have hm : regPl (mask n) = [1, 2, 3] := by
        have : n = 4 ∨ n = 5 ∨ n = 6 ∨ n = 7 ∨ n = 8 ∨ n = 9 ∨ n = 10 := by omega
        rcases this with h | h | h | h | h | h | h <;> subst h <;> decide
      simp only [Int.toNat_natCast, hm] at hk
      obtain ⟨r, hr, h8⟩ := hk 2 (by simp)
      obtain ⟨s, hs, h9⟩ := hk 3 (by simp)
      exact value_op n a b c imm x w hx e2 e3 r s hr hs h8 h9

end Go.Proofs.YtehnailokgoekaaGreatDoor
