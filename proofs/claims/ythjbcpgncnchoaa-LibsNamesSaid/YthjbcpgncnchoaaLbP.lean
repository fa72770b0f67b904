/- What a writer writes may be a code, by its looks. No conditions. -/
import Derived.Test.YthjbcpgncnchoaaLbN
import Derived.Test.YthjbcpgncnchoaaIsaS
namespace Go.Proofs.Ythjbcpgncnchoaa

def fitsI (n : Nat) (i : In) : Bool := legalP i && (i.op != 1) && (!(decide (13 ≤ i.op) && decide (i.op ≤ 16)) || (decide (0 ≤ i.imm) && decide (i.imm ≤ n)))
theorem legal_imm (i : In) (v : Int) : legalP { i with imm := v } = legalP i := by
  obtain ⟨op, a, b, c, imm⟩ := i
  have h : ∀ k, k ∈ regPl (mask op.toNat) → regOk ⟨op, a, b, c, v⟩ k = regOk ⟨op, a, b, c, imm⟩ k := fun k hk => by
    unfold regPl placesP at hk
    obtain ⟨h1, h2⟩ := List.mem_filter.1 hk
    have h1 := List.mem_range.1 h1
    match k, h1, h2 with
    | 0, _, _ => rfl | 1, _, _ => rfl | 2, _, _ => rfl | 3, _, _ => rfl
    | 4, _, h2 =>
      exfalso
      revert h2
      generalize mask op.toNat = z
      simp only [hasP]
      have : (z &&& 14) < 16 := Nat.lt_of_le_of_lt Nat.and_le_right (by decide)
      have : (z &&& 14) / 2 ^ 4 = 0 := by omega
      rw [this]; decide
  have h2 : (regPl (mask op.toNat)).all (regOk ⟨op, a, b, c, v⟩) = (regPl (mask op.toNat)).all (regOk ⟨op, a, b, c, imm⟩) := by
    rw [Bool.eq_iff_iff, List.all_eq_true, List.all_eq_true]
    exact ⟨fun g k hk => by rw [← h k hk]; exact g k hk, fun g k hk => by rw [h k hk]; exact g k hk⟩
  unfold legalP
  simp only
  rw [h2]
/-- An instruction that is no going. -/
def okI (op a b c : Int) : Bool := legalP ⟨op, a, b, c, 0⟩ && (op != 1) && !(decide (13 ≤ op) && decide (op ≤ 16))
/-- One that goes. -/
def okB (op a b : Int) : Bool := legalP ⟨op, a, b, 0, 0⟩ && (op != 1)
structure Inv (x : WV) (n : Nat) : Prop where
  goes : ∀ g ∈ x.go, (0 ≤ g.1 ∧ g.1 < (x.code.length : Int)) ∧ g.2.length ≤ 100
  pls : ∀ s v, x.pl s = some v → 0 ≤ v ∧ v ≤ x.code.length
  ins : ∀ i ∈ x.code, legalP i = true ∧ i.op ≠ 1 ∧ (13 ≤ i.op ∧ i.op ≤ 16 → i.imm = 0)
  len : x.code.length ≤ n
theorem inv_new : Inv WV.new 0 := ⟨fun g h => by simp [WV.new] at h, fun s v h => by simp [WV.new, Sp.none] at h, fun i h => by simp [WV.new] at h, Nat.le_refl _⟩
section
variable {x : WV} {n m : Nat}
theorem Inv.more (h : Inv x n) (hm : n ≤ m) : Inv x m := ⟨h.goes, h.pls, h.ins, Nat.le_trans h.len hm⟩
theorem inv_add' (h : Inv x n) {i : In} (h1 : legalP i = true) (h2 : i.op ≠ 1) (h3 : 13 ≤ i.op ∧ i.op ≤ 16 → i.imm = 0) : Inv (x.add i) (n + 1) := by
  refine ⟨fun g hg => ?_, fun s v hv => ?_, fun j hj => ?_, ?_⟩
  · have := h.goes g hg
    simp only [WV.add, List.length_append, List.length_singleton]
    omega
  · have := h.pls s v hv
    simp only [WV.add, List.length_append, List.length_singleton]
    omega
  · simp only [WV.add, List.mem_append, List.mem_singleton] at hj
    rcases hj with hj | rfl
    · exact h.ins j hj
    · exact ⟨h1, h2, h3⟩
  · have := h.len
    simp only [WV.add, List.length_append, List.length_singleton]; omega
theorem inv_add (h : Inv x n) {op a b c imm : Int} (hk : okI op a b c = true) : Inv (x.add ⟨op, a, b, c, imm⟩) (n + 1) := by
  simp only [okI, Bool.and_eq_true, bne_iff_ne, Bool.not_eq_true', Bool.and_eq_false_iff, decide_eq_false_iff_not] at hk
  exact inv_add' h (by rw [← hk.1.1]; exact legal_imm ⟨op, a, b, c, 0⟩ imm) hk.1.2 (fun g => by have := hk.2; simp only at g; omega)
theorem inv_name (h : Inv x n) (s : Nm) : Inv (x.name s) n := by
  refine ⟨h.goes, fun k v hv => ?_, h.ins, h.len⟩
  simp only [WV.name, Sp.put] at hv ⊢
  split at hv
  · cases hv; omega
  · exact h.pls k v hv
theorem inv_bra (h : Inv x n) {op a b : Int} {s : Nm} (hk : okB op a b = true) (hs : s.length ≤ 100) : Inv (x.bra op a b s) (n + 1) := by
  simp only [okB, Bool.and_eq_true, bne_iff_ne] at hk
  obtain ⟨h1, h2⟩ := hk
  refine ⟨fun g hg => ?_, fun k v hv => ?_, fun j hj => ?_, ?_⟩
  · simp only [WV.bra, List.mem_append, List.mem_singleton, List.length_append, List.length_singleton] at hg ⊢
    rcases hg with hg | rfl
    · have := h.goes g hg; omega
    · exact ⟨by simp only; omega, hs⟩
  · have := h.pls k v hv
    simp only [WV.bra, List.length_append, List.length_singleton]
    omega
  · simp only [WV.bra, List.mem_append, List.mem_singleton] at hj
    rcases hj with hj | rfl
    · exact h.ins j hj
    · exact ⟨h1, h2, fun _ => rfl⟩
  · have := h.len
    simp only [WV.bra, List.length_append, List.length_singleton]; omega
theorem inv_along {P : Pl} (h : Inv x n) : Inv (x.along P) (n + 1) := by
  unfold WV.along
  repeat (first | (with_reducible exact h) | (with_reducible refine inv_name ?_ _) | (with_reducible refine inv_bra ?_ (by decide +kernel) (by decide)) | (with_reducible refine inv_add ?_ (by decide +kernel)))
theorem inv_shorten {P : Pl} (h : Inv x n) : Inv (x.shorten P) (n + 2) := by
  unfold WV.shorten
  repeat (first | (with_reducible exact h) | (with_reducible refine inv_name ?_ _) | (with_reducible refine inv_bra ?_ (by decide +kernel) (by decide)) | (with_reducible refine inv_add ?_ (by decide +kernel)) | (with_reducible refine inv_along ?_))
theorem inv_beside {P : Pl} (h : Inv x n) : Inv (x.beside P) (n + 2) := by
  unfold WV.beside
  repeat (first | (with_reducible exact h) | (with_reducible refine inv_name ?_ _) | (with_reducible refine inv_bra ?_ (by decide +kernel) (by decide)) | (with_reducible refine inv_add ?_ (by decide +kernel)) | (with_reducible refine inv_along ?_) | (with_reducible refine inv_shorten ?_))
theorem inv_round {P : Pl} (h : Inv x n) : Inv (x.round P) (n + 3) := by
  unfold WV.round
  repeat (first | (with_reducible exact h) | (with_reducible refine inv_name ?_ _) | (with_reducible refine inv_bra ?_ (by decide +kernel) (by decide)) | (with_reducible refine inv_add ?_ (by decide +kernel)) | (with_reducible refine inv_along ?_) | (with_reducible refine inv_shorten ?_) | (with_reducible refine inv_beside ?_))
theorem inv_give {P : Pl} (h : Inv x n) : Inv (x.give P) (n + 3) := by
  unfold WV.give
  repeat (first | (with_reducible exact h) | (with_reducible refine inv_name ?_ _) | (with_reducible refine inv_bra ?_ (by decide +kernel) (by decide)) | (with_reducible refine inv_add ?_ (by decide +kernel)) | (with_reducible refine inv_along ?_) | (with_reducible refine inv_shorten ?_) | (with_reducible refine inv_beside ?_) | (with_reducible refine inv_round ?_))
theorem inv_down {P : Pl} (h : Inv x n) : Inv (x.down P) (n + 5) := by
  unfold WV.down
  repeat (first | (with_reducible exact h) | (with_reducible refine inv_name ?_ _) | (with_reducible refine inv_bra ?_ (by decide +kernel) (by decide)) | (with_reducible refine inv_add ?_ (by decide +kernel)) | (with_reducible refine inv_along ?_) | (with_reducible refine inv_shorten ?_) | (with_reducible refine inv_beside ?_) | (with_reducible refine inv_round ?_) | (with_reducible refine inv_give ?_))
theorem inv_aside {P : Pl} (h : Inv x n) : Inv (x.aside P) (n + 4) := by
  unfold WV.aside
  repeat (first | (with_reducible exact h) | (with_reducible refine inv_name ?_ _) | (with_reducible refine inv_bra ?_ (by decide +kernel) (by decide)) | (with_reducible refine inv_add ?_ (by decide +kernel)) | (with_reducible refine inv_along ?_) | (with_reducible refine inv_shorten ?_) | (with_reducible refine inv_beside ?_) | (with_reducible refine inv_round ?_) | (with_reducible refine inv_give ?_) | (with_reducible refine inv_down ?_))
theorem inv_unhang {P : Pl} (h : Inv x n) : Inv (x.unhang P) (n + 20) := by
  unfold WV.unhang
  repeat (first | (with_reducible exact h) | (with_reducible refine inv_name ?_ _) | (with_reducible refine inv_bra ?_ (by decide +kernel) (by decide)) | (with_reducible refine inv_add ?_ (by decide +kernel)) | (with_reducible refine inv_along ?_) | (with_reducible refine inv_shorten ?_) | (with_reducible refine inv_beside ?_) | (with_reducible refine inv_round ?_) | (with_reducible refine inv_give ?_) | (with_reducible refine inv_down ?_) | (with_reducible refine inv_aside ?_))
theorem inv_take {P : Pl} (h : Inv x n) : Inv (x.take P) (n + 13) := by
  unfold WV.take
  repeat (first | (with_reducible exact h) | (with_reducible refine inv_name ?_ _) | (with_reducible refine inv_bra ?_ (by decide +kernel) (by decide)) | (with_reducible refine inv_add ?_ (by decide +kernel)) | (with_reducible refine inv_along ?_) | (with_reducible refine inv_shorten ?_) | (with_reducible refine inv_beside ?_) | (with_reducible refine inv_round ?_) | (with_reducible refine inv_give ?_) | (with_reducible refine inv_down ?_) | (with_reducible refine inv_aside ?_) | (with_reducible refine inv_unhang ?_))
theorem inv_wide {a v : Int} (h : Inv x n) (ha : regB a = true) : Inv (x.wide a v) (n + 5) := by
  have h2 : okI 2 a 0 0 = true := by simpa [okI, legalP, regPl, mask, placesP, hasP, regOk, regB, In.get, List.range_succ] using ha
  have h9 : okI 9 a a 6 = true := by simpa [okI, legalP, regPl, mask, placesP, hasP, regOk, regB, In.get, List.range_succ] using ha
  have h4 : okI 4 a a 6 = true := by simpa [okI, legalP, regPl, mask, placesP, hasP, regOk, regB, In.get, List.range_succ] using ha
  unfold WV.wide
  split
  · exact (inv_add h h2).more (by omega)
  · exact inv_add (inv_add (inv_add (inv_add (inv_add h h2) (by decide +kernel)) h9) (by decide +kernel)) h4
theorem inv_want {P : Pl} {k : Int} (h : Inv x n) : Inv (x.want P k) (n + 6) := inv_add (inv_wide h (by decide)) (by decide +kernel)
/-- What a function's value writes. -/
def IF (F : WV → WV) (k : Nat) : Prop := ∀ x n, Inv x n → Inv (F x) (n + k)
theorem inv_look {P : Pl} {F : WV → WV} {k : Nat} {s : Nm} (h : Inv x n) (hF : IF F k) (hs : s.length ≤ 100) : Inv (x.look P F s) (n + (k + 5)) := by
  have h1 : Inv (((((x.name nLook).load 5 4 0).eq 5 0 s).load 6 5 P.keyAt).eq 6 3 nFound) (n + 1 + 1 + 1 + 1) :=
    inv_bra (inv_add (inv_bra (inv_add (inv_name h _) (by decide +kernel)) (by decide +kernel) hs) (by decide +kernel)) (by decide +kernel) (by decide)
  have h2 := hF _ _ h1
  exact (inv_name (inv_bra h2 (by decide +kernel) (by decide)) _).more (by omega)
theorem inv_block {F : WV → WV} {k : Nat} (h : Inv x n) (hF : IF F k) : Inv (x.block F) (n + (k + 5)) := by
  have h1 : Inv ((((x.set 0 0).set 1 0).set 2 0).add ⟨17, 0, 0, 0, 0⟩) (n + 1 + 1 + 1 + 1) :=
    inv_add (inv_add (inv_add (inv_add h (by decide +kernel)) (by decide +kernel)) (by decide +kernel)) (by decide +kernel)
  exact (inv_add (inv_name (hF _ _ h1) _) (by decide +kernel)).more (by omega)
theorem block_ne (x : WV) (F : WV → WV) : 1 ≤ (x.block F).code.length := by simp [WV.block, WV.add]
theorem inv_clears (h : Inv x n) : ∀ k, Inv (x.clears k) (n + k)
  | 0 => h
  | k + 1 => inv_add (inv_clears h k) (by decide +kernel)
theorem inv_push1 {P : Pl} : IF (WV.push1 P) 13 := by
  intro x n h
  unfold WV.push1
  repeat (first | (with_reducible exact h) | (with_reducible refine inv_name ?_ _) | (with_reducible refine inv_bra ?_ (by decide +kernel) (by decide)) | (with_reducible refine inv_add ?_ (by decide +kernel)) | (with_reducible refine inv_round ?_) | (with_reducible refine inv_down ?_))
theorem inv_pop1 {P : Pl} : IF (WV.pop1 P) 13 := by
  intro x n h
  unfold WV.pop1
  repeat (first | (with_reducible exact h) | (with_reducible refine inv_name ?_ _) | (with_reducible refine inv_bra ?_ (by decide +kernel) (by decide)) | (with_reducible refine inv_add ?_ (by decide +kernel)) | (with_reducible refine inv_round ?_) | (with_reducible refine inv_down ?_))
theorem inv_least1 {P : Pl} : IF (WV.least1 P) 10 := by
  intro x n h
  unfold WV.least1
  repeat (first | (with_reducible exact h) | (with_reducible refine inv_name ?_ _) | (with_reducible refine inv_bra ?_ (by decide +kernel) (by decide)) | (with_reducible refine inv_add ?_ (by decide +kernel)) | (with_reducible refine inv_round ?_) | (with_reducible refine inv_down ?_))
theorem inv_get1 {P : Pl} {F : WV → WV} {k : Nat} (hF : IF F k) : IF (WV.get1 P F) (k + 7) := fun x n h =>
  (inv_add (inv_add (inv_look h hF (by decide)) (by decide +kernel)) (by decide +kernel)).more (by omega)
theorem inv_cut1 {P : Pl} {F F2 : WV → WV} {k k2 : Nat} (hF : IF F k) (hF2 : IF F2 k2) : IF (WV.cut1 P F F2) (k + k2 + 10) := fun x n h =>
  (inv_add (inv_give (hF2 _ _ (inv_add (inv_look h hF (by decide)) (by decide +kernel)))) (by decide +kernel)).more (by omega)
theorem inv_put1 {P : Pl} {F : WV → WV} {k : Nat} (hF : IF F k) (hl : P.links ≤ 2) : IF (WV.put1 P F) (k + 40) := fun x n h => by
  have h1 : Inv (x.puta P F) (n + (k + 5) + 1 + 1 + 1 + 1 + 13) := inv_take (inv_name (inv_bra (inv_add (inv_add (inv_add (inv_look h hF (by decide)) (by decide +kernel)) (by decide +kernel)) (by decide +kernel)) (by decide +kernel) (by decide)) _)
  have h2 := inv_clears h1 P.links.toNat
  have h3 : Inv (x.put1 P F) _ := inv_add (inv_add (inv_add (inv_add h2 (by decide +kernel)) (by decide +kernel)) (by decide +kernel)) (by decide +kernel)
  exact h3.more (by omega)
end
section
variable {P : Pl}
def codeQPush (P : Pl) (v : Int) : WV := WV.new.push P v
def codeQPop (P : Pl) : WV := WV.new.pop P
def codeHPut (P : Pl) (k v : Int) : WV := WV.new.put P (fun y => y.along P) k v
def codeHGet (P : Pl) (k : Int) : WV := WV.new.get P (fun y => y.along P) k
def codeHCut (P : Pl) (k : Int) : WV := WV.new.cut P (fun y => y.along P) (fun y => y.shorten P) k
def codeTPut (P : Pl) (k v : Int) : WV := WV.new.put P (fun y => y.aside P) k v
def codeTGet (P : Pl) (k : Int) : WV := WV.new.get P (fun y => y.aside P) k
def codeTCut (P : Pl) (k : Int) : WV := WV.new.cut P (fun y => y.aside P) (fun y => y.unhang P) k
def codeTLeast (P : Pl) : WV := WV.new.least P
theorem if_along : IF (fun y => y.along P) 1 := fun x n h => inv_along h
theorem if_aside : IF (fun y => y.aside P) 4 := fun x n h => inv_aside h
theorem if_shorten : IF (fun y => y.shorten P) 2 := fun x n h => inv_shorten h
theorem if_unhang : IF (fun y => y.unhang P) 20 := fun x n h => inv_unhang h
theorem inv_QPush {v : Int} : Inv (codeQPush P v) 120 := (inv_block (inv_wide inv_new (by decide)) inv_push1).more (by omega)
theorem inv_QPop : Inv (codeQPop P) 120 := (inv_block inv_new inv_pop1).more (by omega)
theorem inv_HPut {k v : Int} (hl : P.links ≤ 2) : Inv (codeHPut P k v) 120 := (inv_block (inv_want (inv_wide inv_new (by decide))) (inv_put1 if_along hl)).more (by omega)
theorem inv_HGet {k : Int} : Inv (codeHGet P k) 120 := (inv_block (inv_want inv_new) (inv_get1 if_along)).more (by omega)
theorem inv_HCut {k : Int} : Inv (codeHCut P k) 120 := (inv_block (inv_want inv_new) (inv_cut1 if_along if_shorten)).more (by omega)
theorem inv_TPut {k v : Int} (hl : P.links ≤ 2) : Inv (codeTPut P k v) 120 := (inv_block (inv_want (inv_wide inv_new (by decide))) (inv_put1 if_aside hl)).more (by omega)
theorem inv_TGet {k : Int} : Inv (codeTGet P k) 120 := (inv_block (inv_want inv_new) (inv_get1 if_aside)).more (by omega)
theorem inv_TCut {k : Int} : Inv (codeTCut P k) 120 := (inv_block (inv_want inv_new) (inv_cut1 if_aside if_unhang)).more (by omega)
theorem inv_TLeast : Inv (codeTLeast P) 120 := (inv_block (inv_add inv_new (by decide +kernel)) inv_least1).more (by omega)
end

/-! ### What is answered -/
theorem patchL_fits {pl : Sp} {N : Nat} (hp : ∀ s v, pl s = some v → 0 ≤ v ∧ v ≤ N) : ∀ (l : List Gn) (c : List In), (∀ i ∈ c, fitsI N i = true) → ∀ i ∈ patchL pl c l, fitsI N i = true
  | [], c, h => h
  | g :: r, c, h => by
    refine patchL_fits hp r (patch1 pl c g) (fun i hi => ?_)
    unfold patch1 at hi
    obtain ⟨k, hk⟩ := List.mem_iff_getElem?.1 hi
    rw [List.getElem?_modify] at hk
    split at hk
    · cases hc : c[k]? with
      | none => rw [hc] at hk; cases hk
      | some y =>
        rw [hc] at hk
        cases hk
        have hy := h y (List.mem_of_getElem? hc)
        have hv : 0 ≤ (pl g.2).getD 0 ∧ (pl g.2).getD 0 ≤ N := by
          cases hs : pl g.2 with
          | none => simp
          | some v => exact hp _ _ hs
        simp only [fitsI, Bool.and_eq_true] at hy ⊢
        refine ⟨⟨?_, hy.1.2⟩, ?_⟩
        · rw [legal_imm]; exact hy.1.1
        · simp [hv.1, hv.2]
    · have : c[k]? = some i := by simpa using hk
      exact h i (List.mem_of_getElem? this)
theorem Inv.out_len {x : WV} {n : Nat} (h : Inv x n) : x.out.length ≤ n := by unfold WV.out; rw [patchL_len]; exact h.len
theorem Inv.fits {x : WV} {n : Nat} (h : Inv x n) : ∀ i ∈ x.out, fitsI x.out.length i = true := by
  have hl : x.out.length = x.code.length := by unfold WV.out; rw [patchL_len]
  rw [hl]
  refine patchL_fits h.pls x.go x.code (fun i hi => ?_)
  obtain ⟨h1, h2, h3⟩ := h.ins i hi
  unfold fitsI
  rw [h1]
  by_cases hj : 13 ≤ i.op ∧ i.op ≤ 16
  · have := h3 hj
    simp [h2, this]
  · have : (decide (13 ≤ i.op) && decide (i.op ≤ 16)) = false := by
      cases hd : (decide (13 ≤ i.op) && decide (i.op ≤ 16)) with
      | false => rfl
      | true => simp only [Bool.and_eq_true, decide_eq_true_eq] at hd; exact absurd hd hj
    simp [h2, this]

end Go.Proofs.Ythjbcpgncnchoaa
