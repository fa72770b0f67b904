/- Programs as text, plainly: the lines of a text, its names, what is read of it. No conditions but those stated. -/
import Derived.Test.YteijhcibdglkeaaGreatDoorTxtP
import Derived.Lib.SlTrimSet
namespace Go.Proofs.YteijhcibdglkeaaGreatDoor

abbrev By := List UInt8

/-! ### Pieces of a text -/
/-- What stands ahead of the first c, and what behind it. -/
def bef (c : UInt8) (l : By) : By := l.takeWhile (fun b => b != c)
def aft (c : UInt8) (l : By) : By := (l.dropWhile (fun b => b != c)).drop 1
theorem bef_len (c : UInt8) (l : By) : (bef c l).length ≤ l.length := (List.takeWhile_sublist _).length_le
theorem aft_len (c : UInt8) (l : By) : (aft c l).length ≤ l.length - 1 := by
  unfold aft
  have h : (l.dropWhile (fun b => b != c)).length ≤ l.length := (List.dropWhile_sublist _).length_le
  rw [List.length_drop]; omega
theorem index_bef (c : UInt8) : ∀ l : By, (Lib.indexByte l c = -1 ∧ bef c l = l ∧ aft c l = [] ∧ c ∉ l) ∨ (∃ i : Nat, i < l.length ∧ Lib.indexByte l c = i ∧ bef c l = l.take i ∧ aft c l = l.drop (i + 1) ∧ c ∈ l)
  | [] => .inl ⟨rfl, rfl, rfl, by simp⟩
  | b :: r => by
    by_cases hb : b = c
    · subst hb
      refine .inr ⟨0, by simp, by simp [Lib.indexByte], by simp [bef], by simp [aft], by simp⟩
    · have hb' : (b == c) = false := by simp [hb]
      have hn : (b != c) = true := by simp [hb]
      rcases index_bef c r with ⟨h1, h2, h3, h4⟩ | ⟨i, h0, h1, h2, h3, h4⟩
      · refine .inl ⟨by rw [Lib.indexByte, hb', h1]; rfl, ?_, ?_, by simp [h4, Ne.symm hb]⟩
        · unfold bef at h2 ⊢; rw [List.takeWhile_cons, hn]; simp [h2]
        · unfold aft at h3 ⊢; rw [List.dropWhile_cons, hn]; simpa using h3
      · refine .inr ⟨i + 1, by simp; omega, ?_, ?_, ?_, by simp [h4]⟩
        · have h5 : ((i : Int) == -1) = false := by simp
          rw [Lib.indexByte, hb', h1, h5]; simp
        · unfold bef at h2 ⊢; rw [List.takeWhile_cons, hn]; simp [h2]
        · unfold aft at h3 ⊢; rw [List.dropWhile_cons, hn]; simpa using h3
theorem trim_len (l cs : By) : (Lib.trimS l cs).length ≤ l.length := by
  unfold Lib.trimS Lib.trimLeftS Lib.trimRightS
  refine Nat.le_trans (List.dropWhile_sublist _).length_le ?_
  rw [List.length_reverse]
  refine Nat.le_trans (List.dropWhile_sublist _).length_le ?_
  rw [List.length_reverse]; omega

/-! ### Lines -/
/-- What a text's first line says. -/
def saidP (l : By) : By := Lib.trimS (bef 59 (bef 10 l)) [32, 9]
theorem said_len (l : By) : (saidP l).length ≤ l.length := Nat.le_trans (trim_len _ _) (Nat.le_trans (bef_len _ _) (bef_len _ _))
/-- A line: its number, and what it says. -/
structure Ln where
  n : Nat
  s : By
deriving DecidableEq
def sayP (n : Nat) (l : By) : List Ln := if saidP l = [] then [] else [⟨n, saidP l⟩]
def linesF : Nat → Nat → By → List Ln
  | 0, _, _ => []
  | f + 1, n, l => if l = [] then [] else sayP n l ++ linesF f (n + 1) (aft 10 l)
/-- The lines of a text that say something, the first one's number n. -/
def linesP (n : Nat) (l : By) : List Ln := linesF l.length n l
theorem linesF_more : ∀ (f n : Nat) (l : By), l.length ≤ f → linesF f n l = linesP n l
  | 0, n, l, h => by
    have : l = [] := List.eq_nil_of_length_eq_zero (by omega)
    subst this; rfl
  | f + 1, n, l, h => by
    unfold linesP
    cases l with
    | nil => rfl
    | cons b r =>
      have ha := aft_len 10 (b :: r)
      simp only [List.length_cons] at h ha ⊢
      rw [linesF, linesF, linesF_more f _ _ (by omega), linesF_more r.length _ _ (by omega)]
theorem lines_nil (n : Nat) : linesP n [] = [] := rfl
theorem lines_ne (n : Nat) {l : By} (h : l ≠ []) : linesP n l = sayP n l ++ linesP (n + 1) (aft 10 l) := by
  cases l with
  | nil => exact absurd rfl h
  | cons b r =>
    have ha := aft_len 10 (b :: r)
    unfold linesP
    simp only [List.length_cons] at ha ⊢
    rw [linesF, if_neg h, linesF_more r.length _ _ (by omega)]
    rfl
theorem say_mem {n : Nat} {l : By} {x : Ln} (h : x ∈ sayP n l) : x.n = n ∧ x.s ≠ [] ∧ x.s = saidP l := by
  unfold sayP at h
  split at h
  · cases h
  · rename_i h0
    rw [List.mem_singleton] at h; subst h; exact ⟨rfl, h0, rfl⟩
theorem lines_mem : ∀ (k n : Nat) (l : By), l.length ≤ k → ∀ x ∈ linesP n l, n ≤ x.n ∧ x.n < n + l.length ∧ x.s ≠ [] ∧ x.s.length ≤ l.length
  | 0, n, l, h, x, hx => by
    have : l = [] := List.eq_nil_of_length_eq_zero (by omega)
    subst this; cases hx
  | k + 1, n, l, h, x, hx => by
    by_cases hl : l = []
    · subst hl; cases hx
    · have h0 : 0 < l.length := List.length_pos_iff.2 hl
      have ha := aft_len 10 l
      rw [lines_ne n hl] at hx
      rcases List.mem_append.1 hx with hx | hx
      · obtain ⟨h1, h2, h3⟩ := say_mem hx
        refine ⟨by omega, by omega, h2, by rw [h3]; exact said_len l⟩
      · obtain ⟨h1, h2, h3, h4⟩ := lines_mem k (n + 1) (aft 10 l) (by omega) x hx
        exact ⟨by omega, by omega, h3, by omega⟩
theorem lines_count : ∀ (k n : Nat) (l : By), l.length ≤ k → (linesP n l).length ≤ l.length
  | 0, n, l, h => by
    have : l = [] := List.eq_nil_of_length_eq_zero (by omega)
    subst this; simp [lines_nil]
  | k + 1, n, l, h => by
    by_cases hl : l = []
    · subst hl; simp [lines_nil]
    · have h0 : 0 < l.length := List.length_pos_iff.2 hl
      have ha := aft_len 10 l
      have h1 := lines_count k (n + 1) (aft 10 l) (by omega)
      have h2 : (sayP n l).length ≤ 1 := by unfold sayP; split <;> simp
      rw [lines_ne n hl, List.length_append]; omega
/-- Numbers rise. -/
theorem lines_rise : ∀ (k n : Nat) (l : By), l.length ≤ k → (linesP n l).Pairwise (fun x y => x.n < y.n)
  | 0, n, l, h => by
    have : l = [] := List.eq_nil_of_length_eq_zero (by omega)
    subst this; simp [lines_nil]
  | k + 1, n, l, h => by
    by_cases hl : l = []
    · subst hl; simp [lines_nil]
    · have h0 : 0 < l.length := List.length_pos_iff.2 hl
      have ha := aft_len 10 l
      rw [lines_ne n hl, List.pairwise_append]
      refine ⟨by unfold sayP; split <;> simp, lines_rise k (n + 1) (aft 10 l) (by omega), fun x hx y hy => ?_⟩
      have h1 := (say_mem hx).1
      have h2 := (lines_mem k (n + 1) (aft 10 l) (by omega) y hy).1
      omega

/-! ### Names -/
/-- For each name, the line that tells it first, and the place for which it stands. -/
abbrev Nms := By → Option (Nat × Nat)
def Nms.put (m : Nms) (s : By) (v : Nat × Nat) : Nms := fun k => if k = s then some v else m k
def wordsTo (k : Nat) : Nms := fun s => if s ∈ (List.range k).map word then some (0, 0) else none
/-- The words of isa, which no line tells. -/
def wordsM : Nms := wordsTo 19
theorem words_step (k : Nat) : wordsTo (k + 1) = (wordsTo k).put (word k) (0, 0) := by
  funext s
  unfold wordsTo Nms.put
  rw [List.range_succ, List.map_append]
  simp only [List.mem_append, List.map_cons, List.map_nil, List.mem_singleton]
  by_cases h : s = word k
  · simp [h]
  · simp [h]
def isLow (b : UInt8) : Bool := decide (97 ≤ b.toNat) && decide (b.toNat ≤ 122)
def isDig (b : UInt8) : Bool := decide (48 ≤ b.toNat) && decide (b.toNat ≤ 57)
def nameB (b : UInt8) : Bool := isLow b || isDig b || b == 95
/-- May it be a name, if it is no word? -/
def isNm : By → Bool
  | [] => false
  | b :: r => decide (r.length < 16) && isLow b && (b :: r).all nameB
/-- The name that a label's line tells. -/
def colonP (l : By) : Option By := if Lib.hasSuffix l [58] then some (Lib.trimSuffix l [58]) else none
def stepN (m : Nms × Nat) (x : Ln) : Nms × Nat := match colonP x.s with
  | none => (m.1, m.2 + 1)
  | some s => if (m.1 s).isNone && isNm s then (m.1.put s (x.n, m.2), m.2) else m
def namesL (l : List Ln) : Nms × Nat := l.foldl stepN (wordsM, 0)
def namesP (l : By) : Nms := (namesL (linesP 1 l)).1
theorem namesL_snoc (l : List Ln) (x : Ln) : namesL (l ++ [x]) = stepN (namesL l) x := by simp [namesL]

/-! ### Instructions -/
def goesP (l : By) : Bool := bef 32 l == [106, 117, 109, 112] || bef 32 l == [101, 113] || bef 32 l == [110, 101] || bef 32 l == [108, 116]
/-- Where the last word begins. -/
def lastP (l : By) : Nat := l.length - (l.reverse.takeWhile (fun b => b != 32)).length
def lineOf (m : Nms) (s : By) : Nat := ((m s).getD (0, 0)).1
def placeOf (m : Nms) (s : By) : Nat := ((m s).getD (0, 0)).2
def instrP (m : Nms) (l : By) : Option In := match parseP l with
  | some i => some i
  | none => if lineOf m (l.drop (lastP l)) = 0 || !goesP l then none else parseP (l.take (lastP l) ++ Lib.itoa (placeOf m (l.drop (lastP l))))

/-! ### Reading -/
/-- What has been read: instructions; labels. -/
structure Rs where
  code : List In
  labels : List (By × Nat)
def takeP (m : Nms) (st : Rs) (x : Ln) : Option Rs := match colonP x.s with
  | some s => if lineOf m s = x.n then some { st with labels := st.labels ++ [(s, placeOf m s)] } else none
  | none => match instrP m x.s with
    | some i => if st.code.length = 1024 then none else some { st with code := st.code ++ [i] }
    | none => none
def readL (m : Nms) : Rs → List Ln → Rs × Nat
  | st, [] => (st, 0)
  | st, x :: r => match takeP m st x with
    | some st' => readL m st' r
    | none => (st, x.n)
/-- What is read of a text, and the number of the line that is wrong. -/
def readP (l : By) : Rs × Nat := readL (namesP l) ⟨[], []⟩ (linesP 1 l)

end Go.Proofs.YteijhcibdglkeaaGreatDoor
