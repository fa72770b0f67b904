/- What an instruction does hangs on the registers that it names, and on its place by its next place alone. Plain facts. -/
import Derived.Test.YtfgignmlggmeoaaDoorIsaC
namespace Go.Proofs.YtfgignmlggmeoaaDoor

theorem op_cases {op : Int} (h : 1 ≤ op ∧ op ≤ 18) : op = 1 ∨ op = 2 ∨ op = 3 ∨ op = 4 ∨ op = 5 ∨ op = 6 ∨ op = 7 ∨ op = 8 ∨ op = 9 ∨ op = 10 ∨ op = 11 ∨ op = 12 ∨ op = 13 ∨ op = 14 ∨ op = 15 ∨ op = 16 ∨ op = 17 ∨ op = 18 := by omega
/-- The registers named, by their places 1, 2, 3. -/
def nmP (op : Int) (k : Nat) : Bool := decide (1 ≤ op) && decide (op ≤ 18) && hasP (mask op.toNat) k
theorem nm_in {op : Int} {k : Nat} (h : 1 ≤ op ∧ op ≤ 18) (hk : k = 1 ∨ k = 2 ∨ k = 3) : nmP op k = true ↔ k ∈ regPl (mask op.toNat) := by
  rcases op_cases h with rfl | rfl | rfl | rfl | rfl | rfl | rfl | rfl | rfl | rfl | rfl | rfl | rfl | rfl | rfl | rfl | rfl | rfl <;> rcases hk with rfl | rfl | rfl <;> decide
theorem doP_bad {i : In} (h : legalP i = false) (x : L8) (p : Int) : doP i x p = Ef.zero := by unfold doP; rw [if_pos (.inl h)]
/-- Registers that are not named don't count. -/
theorem doP_regs (i : In) (x y : L8) (p : Int) (h1 : nmP i.op 1 = true → x.get i.a.toNat = y.get i.a.toNat) (h2 : nmP i.op 2 = true → x.get i.b.toNat = y.get i.b.toNat) (h3 : nmP i.op 3 = true → x.get i.c.toNat = y.get i.c.toNat) : doP i x p = doP i y p := by
  cases hl : legalP i with
  | false => rw [doP_bad hl, doP_bad hl]
  | true =>
    have ho := (legal_regs hl).1
    obtain ⟨op, a, b, c, m⟩ := i
    simp only at ho h1 h2 h3
    rcases op_cases ho with rfl | rfl | rfl | rfl | rfl | rfl | rfl | rfl | rfl | rfl | rfl | rfl | rfl | rfl | rfl | rfl | rfl | rfl
    all_goals
      (try have h1 := h1 (by decide))
      (try have h2 := h2 (by decide))
      (try have h3 := h3 (by decide))
      simp [doP, branchP, goesP, valueP, addrP, reckP, h1, h2, h3]
/-- Places that are not named don't count. -/
theorem legal_apart (op a b c m a' b' c' : Int) (h1 : nmP op 1 = true → a' = a) (h2 : nmP op 2 = true → b' = b) (h3 : nmP op 3 = true → c' = c) : legalP ⟨op, a, b, c, m⟩ = legalP ⟨op, a', b', c', m⟩ := by
  by_cases ho : 1 ≤ op ∧ op ≤ 18
  · rcases op_cases ho with rfl | rfl | rfl | rfl | rfl | rfl | rfl | rfl | rfl | rfl | rfl | rfl | rfl | rfl | rfl | rfl | rfl | rfl
    all_goals
      (try have h1 := h1 (by decide))
      (try have h2 := h2 (by decide))
      (try have h3 := h3 (by decide))
      (try subst h1)
      (try subst h2)
      (try subst h3)
      simp [legalP, regPl, mask, placesP, hasP, regOk, In.get, List.range, List.range.loop]
  · have : ∀ i : In, i.op = op → legalP i = false := fun i hi => by unfold legalP; rw [hi]; simp; intro h; omega
    rw [this _ rfl, this _ rfl]
theorem doP_apart (op a b c m a' b' c' : Int) (x : L8) (p : Int) (h1 : nmP op 1 = true → a' = a) (h2 : nmP op 2 = true → b' = b) (h3 : nmP op 3 = true → c' = c) : doP ⟨op, a, b, c, m⟩ x p = doP ⟨op, a', b', c', m⟩ x p := by
  have hle := legal_apart op a b c m a' b' c' h1 h2 h3
  cases hl : legalP ⟨op, a, b, c, m⟩ with
  | false => rw [doP_bad hl, doP_bad (hle ▸ hl)]
  | true =>
    have hl' := hle ▸ hl
    have ho := (legal_regs hl).1
    simp only at ho
    rcases op_cases ho with rfl | rfl | rfl | rfl | rfl | rfl | rfl | rfl | rfl | rfl | rfl | rfl | rfl | rfl | rfl | rfl | rfl | rfl
    all_goals
      (try have h1 := h1 (by decide))
      (try have h2 := h2 (by decide))
      (try have h3 := h3 (by decide))
      (try subst h1)
      (try subst h2)
      (try subst h3)
      simp [doP, branchP, goesP, valueP, addrP, reckP, hl, hl']
theorem doP_ok {i : In} (h : legalP i = true) {x : L8} {p : Int} (hp : 0 ≤ p ∧ p < 1024) : doP i x p = if i.op = 1 then ⟨7, p + 1, 0, 0, 0⟩ else if i.op = 17 then ⟨5, p + 1, 0, 0, 0⟩ else if i.op = 18 then ⟨6, p + 1, 0, 0, 0⟩
  else if i.op = 11 then ⟨3, p + 1, i.a, 0, addrP i x⟩ else if i.op = 12 then ⟨4, p + 1, 0, x.get i.a.toNat, addrP i x⟩
  else if i.op = 13 ∨ i.op = 14 ∨ i.op = 15 ∨ i.op = 16 then branchP i x (p + 1) else ⟨1, p + 1, i.a, valueP i x, 0⟩ := by
  unfold doP
  rw [if_neg (by rw [h]; simp; omega)]
/-- The place counts by the next place alone. -/
def movedP (m p q : Int) (e h : Ef) : Ef := if e.next = p + 1 ∧ e.kind ≠ 0 ∧ ¬(e.kind = 2 ∧ m = p + 1) then { h with next := e.next + (h.next - (q + 1)) } else h
theorem branch_place (i : In) (x : L8) (p q : Int) : branchP i x (p + 1) = movedP i.imm p q (branchP i x (p + 1)) (branchP i x (q + 1)) ∨ ((branchP i x (p + 1)).kind = 2 ∧ (movedP i.imm p q (branchP i x (p + 1)) (branchP i x (q + 1))).kind = 2 ∧ i.imm = p + 1) := by
  have hk : ∀ m e h, h.kind = 2 → (movedP m p q e h).kind = 2 := fun m e h hh => by unfold movedP; split <;> exact hh
  unfold branchP
  cases goesP i x with
  | false =>
    rw [if_pos rfl, if_pos rfl]
    by_cases hp1 : i.imm = p + 1
    · exact .inr ⟨rfl, hk _ _ _ rfl, hp1⟩
    · left; unfold movedP; rw [if_pos ⟨rfl, by simp, fun h => hp1 h.2⟩]; simp
  | true =>
    have ht : ¬(true = false) := by decide
    rw [if_neg ht, if_neg ht]
    by_cases hm : i.imm < 0 ∨ 1024 < i.imm
    · rw [if_pos hm]; left; unfold movedP; rw [if_neg (by simp [Ef.zero])]
    · rw [if_neg hm]
      by_cases hp1 : i.imm = p + 1
      · exact .inr ⟨rfl, hk _ _ _ rfl, hp1⟩
      · left; unfold movedP; rw [if_neg (fun h => hp1 h.1)]
theorem doP_place (i : In) (x : L8) (p q : Int) (hp : 0 ≤ p ∧ p < 1024) (hq : 0 ≤ q ∧ q < 1024) : doP i x p = movedP i.imm p q (doP i x p) (doP i x q) ∨ ((doP i x p).kind = 2 ∧ (movedP i.imm p q (doP i x p) (doP i x q)).kind = 2 ∧ i.imm = p + 1) := by
  cases hl : legalP i with
  | false => rw [doP_bad hl, doP_bad hl]; left; simp [movedP, Ef.zero]
  | true =>
    have ho := (legal_regs hl).1
    rw [doP_ok hl hp, doP_ok hl hq]
    obtain ⟨op, a, b, c, m⟩ := i
    simp only at ho
    rcases op_cases ho with rfl | rfl | rfl | rfl | rfl | rfl | rfl | rfl | rfl | rfl | rfl | rfl | rfl | rfl | rfl | rfl | rfl | rfl
    all_goals first
      | (simp [movedP]; done)
      | (simp; exact branch_place _ x p q)

theorem doP_next (i : In) (x : L8) {p : Int} (hp : 0 ≤ p ∧ p < 1024) : 0 ≤ (doP i x p).next ∧ (doP i x p).next ≤ 1024 := by
  cases hl : legalP i with
  | false => rw [doP_bad hl]; simp [Ef.zero]
  | true =>
    rw [doP_ok hl hp]
    have hb : 0 ≤ (branchP i x (p + 1)).next ∧ (branchP i x (p + 1)).next ≤ 1024 := by
      unfold branchP
      split
      · simp only; omega
      · split
        · simp [Ef.zero]
        · simp only; omega
    repeat' split
    all_goals first | exact hb | (simp only; omega)

end Go.Proofs.YtfgignmlggmeoaaDoor
