/- A code that is run alone: plainly. No conditions. -/
import Derived.Test.YthjbcpgncnchoaaLbQ
import Derived.Test.YthjbcpgncnchoaaIsaV
namespace Go.Proofs.Ythjbcpgncnchoaa
open Go.RowKit Go.BigFrame

/-- Where a run stands. -/
structure Ps where
  pc : Int
  regs : L8
  mem : List Int
  ins : Bool
  beg : Int
  steps : Nat
/-- What came of it. -/
structure Ro where
  fine : Bool
  regs : L8
  steps : Nat
  mem : List Int
/-- Of what is asked for. -/
def effP (e : Ef) (fr hi : Int) (s : Ps) : Option Ps :=
  if e.kind = 1 then some { s with regs := s.regs.set e.reg.toNat e.val, pc := e.next, steps := s.steps + 1 }
  else if e.kind = 2 then some { s with pc := e.next, steps := s.steps + 1 }
  else if e.kind = 3 ∨ e.kind = 4 then
    (if s.ins = false ∨ e.addr < fr ∨ hi ≤ e.addr ∨ (s.mem.length : Int) ≤ e.addr then none
    else if e.kind = 3 then some { s with regs := s.regs.set e.reg.toNat (s.mem.getD e.addr.toNat 0), pc := e.next, steps := s.steps + 1 }
    else some { s with mem := s.mem.set e.addr.toNat e.val, pc := e.next, steps := s.steps + 1 })
  else if e.kind = 5 then (if s.ins = true then none else some { s with ins := true, beg := s.beg + 1, pc := e.next, steps := s.steps + 1 })
  else if e.kind = 6 then (if s.ins = false then none else some { s with ins := false, pc := e.next, steps := s.steps + 1 })
  else none
def playP (l : List In) (fr hi bl : Int) : Nat → Ps → Ro
  | 0, s => if s.pc < l.length then ⟨false, s.regs, s.steps, s.mem⟩ else ⟨(s.pc == (l.length : Int)) && !s.ins && (s.beg == bl), s.regs, s.steps, s.mem⟩
  | f + 1, s =>
    if s.pc < l.length then
      (if s.pc < 0 then ⟨false, s.regs, s.steps, s.mem⟩
      else match effP (doP (l.getD s.pc.toNat In.zero) s.regs s.pc) fr hi s with
        | none => ⟨false, s.regs, s.steps + 1, s.mem⟩
        | some s' => playP l fr hi bl f s')
    else ⟨(s.pc == (l.length : Int)) && !s.ins && (s.beg == bl), s.regs, s.steps, s.mem⟩
theorem wrap_u {z : Int} : U64 (IntKind.u64.wrap z) := by rw [IntKind.wrap_u64]; unfold U64; omega
theorem reck_u {op x y : Int} (hx : U64 x) (hy : U64 y) : U64 (reckP op x y) := by
  unfold reckP
  split
  · exact wrap_u
  split
  · exact wrap_u
  split
  · exact wrap_u
  split
  · unfold U64 at *
    obtain ⟨a, rfl⟩ : ∃ a : Nat, x = a := ⟨x.toNat, by omega⟩
    obtain ⟨b, rfl⟩ : ∃ b : Nat, y = b := ⟨y.toNat, by omega⟩
    rw [bits_and_u64_nat a b (by omega) (by omega)]
    have : a &&& b < 2 ^ 64 := Nat.and_lt_two_pow _ (by omega)
    omega
  split
  · unfold U64 at *
    obtain ⟨a, rfl⟩ : ∃ a : Nat, x = a := ⟨x.toNat, by omega⟩
    obtain ⟨b, rfl⟩ : ∃ b : Nat, y = b := ⟨y.toNat, by omega⟩
    rw [bits_xor_u64_nat a b (by omega) (by omega)]
    have : a ^^^ b < 2 ^ 64 := Nat.xor_lt_two_pow (by omega) (by omega)
    omega
  split
  · exact wrap_u
  split
  · unfold U64 at *
    have h2 : (0 : Int) < 2 ^ (y % 64).toNat := Int.pow_pos (by omega)
    exact ⟨Int.ediv_nonneg hx.1 (by omega), Int.lt_of_le_of_lt (Int.ediv_le_self _ hx.1) hx.2⟩
  · unfold U64; omega
theorem reg_u {x : L8} (hx : x.Ok) (r : Int) : U64 (x.get r.toNat) := by
  rcases Nat.lt_or_ge r.toNat 8 with h | h
  · exact hx _ h
  · have := hx 7 (by omega)
    unfold L8.get
    split <;> first | omega | exact this
theorem doP_u {i : In} {x : L8} {pc : Int} (hx : x.Ok) : U64 (doP i x pc).val ∧ U64 (doP i x pc).addr ∧ ((doP i x pc).kind = 1 ∨ (doP i x pc).kind = 3 → 0 ≤ (doP i x pc).reg ∧ (doP i x pc).reg < 8) := by
  have h0 : U64 0 := by unfold U64; omega
  unfold doP
  split
  · exact ⟨h0, h0, by simp [Ef.zero]⟩
  rename_i hl
  have hleg : legalP i = true := by
    cases h : legalP i with
    | true => rfl
    | false => exact absurd (.inl h) hl
  obtain ⟨⟨l1, l2⟩, hr⟩ := legal_regs hleg
  have ha : ∀ n : Nat, i.op = n → 1 ∈ regPl (mask n) → 0 ≤ i.a ∧ i.a < 8 := fun n hn hm => by
    obtain ⟨r, h1, h2⟩ := hr 1 (by rw [hn]; exact hm)
    simp only [In.get] at h1
    omega
  split
  · exact ⟨h0, h0, by simp⟩
  split
  · exact ⟨h0, h0, by simp⟩
  split
  · exact ⟨h0, h0, by simp⟩
  split
  · rename_i h; exact ⟨h0, wrap_u, fun _ => ha 11 h (by decide)⟩
  split
  · exact ⟨reg_u hx _, wrap_u, by simp⟩
  split
  · unfold branchP
    split
    · exact ⟨h0, h0, by simp⟩
    split
    · exact ⟨h0, h0, by simp [Ef.zero]⟩
    · exact ⟨h0, h0, by simp⟩
  · rename_i n1 n2 n3 n4 n5 n6
    refine ⟨?_, h0, fun _ => ?_⟩
    · show U64 (valueP i x)
      unfold valueP
      split
      · exact wrap_u
      split
      · exact reg_u hx _
      · exact reck_u (reg_u hx _) (reg_u hx _)
    · have : i.op = 2 ∨ i.op = 3 ∨ i.op = 4 ∨ i.op = 5 ∨ i.op = 6 ∨ i.op = 7 ∨ i.op = 8 ∨ i.op = 9 ∨ i.op = 10 := by omega
      rcases this with h | h | h | h | h | h | h | h | h
      · exact ha 2 h (by decide)
      · exact ha 3 h (by decide)
      · exact ha 4 h (by decide)
      · exact ha 5 h (by decide)
      · exact ha 6 h (by decide)
      · exact ha 7 h (by decide)
      · exact ha 8 h (by decide)
      · exact ha 9 h (by decide)
      · exact ha 10 h (by decide)
theorem L8.Ok.set {x : L8} (h : x.Ok) (k : Nat) {v : Int} (hv : U64 v) : (x.set k v).Ok := fun j hj => by
  have g := h j hj
  unfold L8.set
  split <;> (match j, hj with
    | 0, _ => first | exact hv | exact g
    | 1, _ => first | exact hv | exact g
    | 2, _ => first | exact hv | exact g
    | 3, _ => first | exact hv | exact g
    | 4, _ => first | exact hv | exact g
    | 5, _ => first | exact hv | exact g
    | 6, _ => first | exact hv | exact g
    | 7, _ => first | exact hv | exact g)
/-- Memory's cells. -/
def memC (m : List Int) : List Value := m.map (fun v => .int .u64 v)
theorem memC_at {m : List Int} {k : Nat} (h : k < m.length) : (memC m)[k]? = some (.int .u64 (m.getD k 0)) := by
  simp [memC, List.getD, List.getElem?_eq_getElem h]
theorem memC_set (m : List Int) (k : Nat) (v : Int) : memC (m.set k v) = (memC m).set k (.int .u64 v) := by simp [memC, List.map_set]
/-- A run's numbers are of 64 bits. -/
structure Ps.Ok (s : Ps) : Prop where
  regs : s.regs.Ok
  mem : ∀ v ∈ s.mem, U64 v
  beg : 0 ≤ s.beg ∧ s.beg ≤ s.steps

end Go.Proofs.Ythjbcpgncnchoaa
