/- An instruction's line and its reading, as plain functions; a line read again is the instruction; no two have one line. No conditions but those stated. -/
import Derived.Test.YteijhcibdglkeaaGreatDoorTxtN
import Derived.Lib.Strings
import Derived.Lib.Bytealg
namespace Go.Proofs.YteijhcibdglkeaaGreatDoor

def textNums (i : In) (ks : List Nat) : List UInt8 := ks.flatMap fun k => 32 :: Lib.itoa (i.get k)
/-- An instruction's line. -/
def textP (i : In) : List UInt8 := word (formP i) ++ textNums i (placesP (mask (formP i)))
def endP (s : List UInt8) : Nat := if Lib.indexByte s 32 < 0 then s.length else (Lib.indexByte s 32).toNat
/-- The number that a blank begins, and what is behind it. -/
def numberP (s : List UInt8) : Option (Int × List UInt8) :=
  if Lib.hasPrefix s [32] then
    match Lib.atoiAll ((Lib.trimPrefix s [32]).take (endP (Lib.trimPrefix s [32]))) with
    | .ok v => some (v, (Lib.trimPrefix s [32]).drop (endP (Lib.trimPrefix s [32])))
    | _ => none
  else none
def numsP : List Nat → In → List UInt8 → Option (In × List UInt8)
  | [], x, s => some (x, s)
  | k :: ks, x, s => match numberP s with
    | some (v, r) => numsP ks (x.set k v) r
    | none => none
/-- The line, read by one form. -/
def tryP (s : List UInt8) (op : Nat) : Option In :=
  if Lib.hasPrefix s (word op) then
    match numsP (placesP (mask op)) ⟨op, 0, 0, 0, 0⟩ (Lib.trimPrefix s (word op)) with
    | some (x, _) => if textP x = s then some x else none
    | none => none
  else none
/-- The line's instruction. -/
def parseP (s : List UInt8) : Option In := (List.range 19).findSome? (tryP s)

theorem index_none : ∀ {a : List UInt8}, (∀ b ∈ a, b ≠ 32) → Lib.indexByte a 32 = -1
  | [], _ => rfl
  | b :: r, h => by
    have hb : (b == 32) = false := by simp [h b (by simp)]
    rw [Lib.indexByte, hb, index_none (fun c hc => h c (by simp [hc]))]; rfl
theorem index_at (r : List UInt8) : ∀ {a : List UInt8}, (∀ b ∈ a, b ≠ 32) → Lib.indexByte (a ++ 32 :: r) 32 = a.length
  | [], _ => rfl
  | b :: t, h => by
    have hb : (b == 32) = false := by simp [h b (by simp)]
    have ih := index_at r (a := t) (fun c hc => h c (by simp [hc]))
    have h1 : ((t.length : Int) == -1) = false := by simp
    rw [List.cons_append, Lib.indexByte, hb, ih, h1]
    simp
/-- What begins a number's rest. -/
def Rest (s : List UInt8) : Prop := s = [] ∨ ∃ r, s = 32 :: r
theorem end_at {a rest : List UInt8} (ha : ∀ b ∈ a, b ≠ 32) (h : Rest rest) : endP (a ++ rest) = a.length := by
  rcases h with rfl | ⟨r, rfl⟩
  · unfold endP; rw [List.append_nil, index_none ha]; rfl
  · unfold endP; rw [index_at r ha, if_neg (by omega)]; simp
theorem number_say (n : Int) (hn : I64 n) {rest : List UInt8} (h : Rest rest) : numberP (32 :: (Lib.itoa n ++ rest)) = some (n, rest) := by
  have hp : Lib.hasPrefix (32 :: (Lib.itoa n ++ rest)) [32] = true := by simp [Lib.hasPrefix]
  have ht : Lib.trimPrefix (32 :: (Lib.itoa n ++ rest)) [32] = Lib.itoa n ++ rest := by unfold Lib.trimPrefix; rw [hp]; rfl
  unfold numberP
  rw [hp, ht, end_at (itoa_byte n) h, List.take_left, List.drop_left, atoi_itoa n hn]
  rfl
theorem nums_rest (i : In) (ks : List Nat) : Rest (textNums i ks) := by
  cases ks with
  | nil => exact .inl rfl
  | cons k r => exact .inr ⟨_, rfl⟩
theorem nums_say (i : In) (hi : i.Ok) : ∀ (ks : List Nat) (x : In), numsP ks x (textNums i ks) = some (ks.foldl (fun x k => x.set k (i.get k)) x, [])
  | [], _ => rfl
  | k :: ks, x => by
    have : textNums i (k :: ks) = 32 :: (Lib.itoa (i.get k) ++ textNums i ks) := by simp [textNums]
    rw [this, numsP, number_say _ (hi.get k) (nums_rest i ks)]
    exact nums_say i hi ks _
theorem get_set (x : In) {j k : Nat} (hj : j < 5) (hk : k < 5) (v : Int) : (x.set k v).get j = if j = k then v else x.get j := by
  match j, hj, k, hk with
  | 0, _, 0, _ => rfl | 0, _, 1, _ => rfl | 0, _, 2, _ => rfl | 0, _, 3, _ => rfl | 0, _, 4, _ => rfl
  | 1, _, 0, _ => rfl | 1, _, 1, _ => rfl | 1, _, 2, _ => rfl | 1, _, 3, _ => rfl | 1, _, 4, _ => rfl
  | 2, _, 0, _ => rfl | 2, _, 1, _ => rfl | 2, _, 2, _ => rfl | 2, _, 3, _ => rfl | 2, _, 4, _ => rfl
  | 3, _, 0, _ => rfl | 3, _, 1, _ => rfl | 3, _, 2, _ => rfl | 3, _, 3, _ => rfl | 3, _, 4, _ => rfl
  | 4, _, 0, _ => rfl | 4, _, 1, _ => rfl | 4, _, 2, _ => rfl | 4, _, 3, _ => rfl | 4, _, 4, _ => rfl
theorem get_sets (i : In) {j : Nat} (hj : j < 5) : ∀ (ks : List Nat) (x : In), (∀ k ∈ ks, k < 5) → (ks.foldl (fun x k => x.set k (i.get k)) x).get j = if j ∈ ks then i.get j else x.get j
  | [], x, _ => by simp
  | k :: ks, x, h => by
    rw [List.foldl_cons, get_sets i hj ks _ (fun c hc => h c (by simp [hc])), get_set x hj (h k (by simp))]
    by_cases h1 : j ∈ ks
    · simp [h1]
    · by_cases h2 : j = k
      · subst h2; simp
      · simp [h1, h2]
theorem mem_places {m k : Nat} (hk : k < 5) : k ∈ placesP m ↔ hasP m k = true := by simp [placesP, hk]
theorem has_or1 : ∀ (m : Fin 32) (k : Fin 5), k.val ≠ 0 → hasP (m.val ||| 1) k.val = hasP m.val k.val := by decide
/-- An instruction is what its form's places say. -/
theorem sets_own (i : In) : (placesP (mask (formP i))).foldl (fun x k => x.set k (i.get k)) ⟨formP i, 0, 0, 0, 0⟩ = i := by
  apply In.ext_get
  intro j hj
  rw [get_sets i hj _ _ (fun k hk => placesP_lt hk)]
  by_cases h : j ∈ placesP (mask (formP i))
  · rw [if_pos h]
  · rw [if_neg h]
    rw [mem_places hj, Bool.not_eq_true] at h
    by_cases hg : (legalP i && (List.range 5).all (keepP i)) = true
    · have hf : formP i = i.op.toNat := by unfold formP; rw [if_pos hg]
      rw [hf] at h ⊢
      simp only [Bool.and_eq_true, List.all_eq_true] at hg
      have hk := hg.2 j (List.mem_range.2 hj)
      have hl := hg.1
      simp only [legalP, Bool.and_eq_true, decide_eq_true_eq] at hl
      by_cases h0 : j = 0
      · subst h0; simp only [In.get]; omega
      · simp only [keepP] at hk
        rw [has_or1 ⟨mask i.op.toNat, mask_lt _⟩ ⟨j, hj⟩ h0] at hk
        simp only [h, Bool.or_false, beq_iff_eq] at hk
        rw [hk]
        match j, hj, h0 with
        | 1, _, _ => rfl | 2, _, _ => rfl | 3, _, _ => rfl | 4, _, _ => rfl
    · have hf : formP i = 0 := by unfold formP; rw [if_neg hg]
      rw [hf] at h
      exfalso
      match j, hj with
      | 0, _ => exact absurd h (by decide) | 1, _ => exact absurd h (by decide) | 2, _ => exact absurd h (by decide) | 3, _ => exact absurd h (by decide) | 4, _ => exact absurd h (by decide)
theorem try_own (i : In) (hi : i.Ok) : tryP (textP i) (formP i) = some i := by
  have hp : Lib.hasPrefix (textP i) (word (formP i)) = true := by simp [Lib.hasPrefix, textP]
  have ht : Lib.trimPrefix (textP i) (word (formP i)) = textNums i (placesP (mask (formP i))) := by unfold Lib.trimPrefix; rw [hp, if_pos rfl]; simp [textP]
  unfold tryP
  rw [hp, ht, nums_say i hi, sets_own]
  simp
theorem word_byte (r : Nat) : (word r).all (fun b => b != 32) = true := by unfold word; split <;> decide
theorem word_inj : ∀ (q r : Fin 19), word q.val = word r.val → q = r := by decide
theorem take_word (i : In) : (textP i).takeWhile (fun b => b != 32) = word (formP i) := by
  unfold textP
  rw [List.takeWhile_append_of_pos (fun b hb => List.all_eq_true.1 (word_byte _) b hb)]
  rcases nums_rest i (placesP (mask (formP i))) with h | ⟨r, h⟩ <;> rw [h] <;> simp
theorem text_inj {x i : In} (hx : x.Ok) (hi : i.Ok) (h : textP x = textP i) : x = i := by
  have h1 : word (formP x) = word (formP i) := by rw [← take_word, ← take_word, h]
  have h2 : formP x = formP i := congrArg Fin.val (word_inj ⟨formP x, formP_lt x⟩ ⟨formP i, formP_lt i⟩ h1)
  have h3 := try_own x hx
  rw [h, h2, try_own i hi] at h3
  exact (Option.some.inj h3).symm
theorem atoi_range {l : List UInt8} {v : Int} (h : Lib.atoiAll l = .ok v) : I64 v := by
  unfold Lib.atoiAll at h
  split at h
  · cases h
  · rename_i c r
    simp only at h
    split at h
    · cases h
    · cases h
    · rename_i u hu
      split at h
      · cases h
      · split at h
        · cases h
        · injection h with h
          rw [← h]
          unfold I64
          split <;> omega
theorem number_ok {s r : List UInt8} {v : Int} (h : numberP s = some (v, r)) : I64 v := by
  unfold numberP at h
  split at h
  · split at h
    · rename_i hv
      simp only [Option.some.injEq, Prod.mk.injEq] at h
      rw [← h.1]; exact atoi_range hv
    · cases h
  · cases h
theorem set_ok {x : In} (hx : x.Ok) (k : Nat) {v : Int} (hv : I64 v) : (x.set k v).Ok := by
  obtain ⟨h0, h1, h2, h3, h4⟩ := hx
  match k with
  | 0 => exact ⟨hv, h1, h2, h3, h4⟩ | 1 => exact ⟨h0, hv, h2, h3, h4⟩ | 2 => exact ⟨h0, h1, hv, h3, h4⟩ | 3 => exact ⟨h0, h1, h2, hv, h4⟩ | k + 4 => exact ⟨h0, h1, h2, h3, hv⟩
theorem nums_ok : ∀ (ks : List Nat) {x y : In} {s r : List UInt8}, x.Ok → numsP ks x s = some (y, r) → y.Ok
  | [], x, y, s, r, hx, h => by
    simp only [numsP, Option.some.injEq, Prod.mk.injEq] at h
    rw [← h.1]; exact hx
  | k :: ks, x, y, s, r, hx, h => by
    rw [numsP] at h
    cases hn : numberP s with
    | none => rw [hn] at h; cases h
    | some p =>
      obtain ⟨v, q⟩ := p
      rw [hn] at h
      exact nums_ok ks (set_ok hx k (number_ok hn)) h
theorem try_back {s : List UInt8} {op : Nat} {x : In} (hop : op < 19) (h : tryP s op = some x) : textP x = s ∧ x.Ok := by
  unfold tryP at h
  split at h
  · split at h
    · rename_i y r hn
      split at h
      · rename_i ht
        cases h
        exact ⟨ht, nums_ok _ ⟨⟨by simp only; omega, by simp only; omega⟩, ⟨by simp only; omega, by simp only; omega⟩, ⟨by simp only; omega, by simp only; omega⟩, ⟨by simp only; omega, by simp only; omega⟩, ⟨by simp only; omega, by simp only; omega⟩⟩ hn⟩
      · cases h
    · cases h
  · cases h
/-- What is read has that line. -/
theorem parse_back {s : List UInt8} {x : In} (h : parseP s = some x) : textP x = s ∧ x.Ok := by
  obtain ⟨op, hm, hx⟩ := List.exists_of_findSome?_eq_some h
  exact try_back (List.mem_range.1 hm) hx
/-- A line read again is the instruction. -/
theorem parse_text (i : In) (hi : i.Ok) : parseP (textP i) = some i := by
  cases h : parseP (textP i) with
  | none =>
    have := List.findSome?_eq_none_iff.1 h (formP i) (List.mem_range.2 (formP_lt i))
    rw [try_own i hi] at this; cases this
  | some x =>
    have hb := parse_back h
    rw [text_inj hb.2 hi hb.1]

end Go.Proofs.YteijhcibdglkeaaGreatDoor
