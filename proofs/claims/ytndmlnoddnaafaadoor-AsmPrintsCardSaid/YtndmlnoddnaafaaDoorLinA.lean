/- The document's lines and their reading, as plain functions: the same as the code's. No conditions but those stated. -/
import Derived.Test.YtndmlnoddnaafaaDoorTxtP
namespace Go.Proofs.YtndmlnoddnaafaaDoor

/-! ### Digits, one by one -/
/-- What digits say, below nought. -/
def numGo : Int → List UInt8 → Option Int
  | n, [] => some n
  | n, b :: r => if (b.toNat : Int) - 48 < 0 ∨ 9 < (b.toNat : Int) - 48 ∨ n < -922337203685477580 ∨ (n = -922337203685477580 ∧ 8 < (b.toNat : Int) - 48) then none else numGo (10 * n - ((b.toNat : Int) - 48)) r
def belowP (s : List UInt8) : Bool := s.head? == some 45
/-- What a word says, and whether it says it as it is written. -/
def numR (s : List UInt8) : Int × Bool := match numGo 0 (if belowP s then s.drop 1 else s) with
  | none => (0, false)
  | some n => (if belowP s then n else IntKind.i64.wrap (-n), Lib.itoa (if belowP s then n else IntKind.i64.wrap (-n)) == s)

theorem numGo_range : ∀ (l : List UInt8) (n : Int), -9223372036854775808 ≤ n → n ≤ 0 → ∀ v, numGo n l = some v → -9223372036854775808 ≤ v ∧ v ≤ 0
  | [], n, h0, h1, v, h => by cases h; exact ⟨h0, h1⟩
  | b :: r, n, h0, h1, v, h => by
    rw [numGo] at h
    split at h
    · cases h
    · exact numGo_range r _ (by omega) (by omega) v h
theorem numGo_one {n : Int} {d : Nat} (hd : d < 10) (h0 : -922337203685477580 ≤ n) (h1 : n = -922337203685477580 → d ≤ 8) (l : List UInt8) : numGo n (UInt8.ofNat (48 + d) :: l) = numGo (10 * n - d) l := by
  rw [numGo, digit_nat hd, if_neg (by omega)]
  congr 1; omega
theorem numGo_digits (u : Nat) : u ≤ 9223372036854775808 → ∀ l, numGo 0 (Lib.decDigits u ++ l) = numGo (-(u : Int)) l := by
  induction u using Nat.strongRecOn with
  | ind u ih =>
    intro hu l
    rw [Lib.decDigits]
    split
    · rename_i h
      rw [List.singleton_append, numGo_one h (by omega) (by omega)]
      congr 1; omega
    · rename_i h
      rw [List.append_assoc, ih (u / 10) (by omega) (by omega), List.singleton_append, numGo_one (by omega) (by omega) (by omega)]
      congr 1; omega
theorem numR_range (s : List UInt8) : I64 (numR s).1 := by
  unfold numR
  split
  · exact ⟨by decide, by decide⟩
  · rename_i n h
    have := numGo_range _ 0 (by omega) (by omega) n h
    split
    · exact ⟨by omega, by omega⟩
    · simp only
      rw [IntKind.wrap_i64]; unfold I64
      constructor <;> omega
theorem itoa_head {n : Int} (h : 0 ≤ n) : belowP (Lib.itoa n) = false := by
  unfold Lib.itoa
  rw [if_neg (by omega)]
  have hm := digits_mem n.toNat
  cases hd : Lib.decDigits n.toNat with
  | nil => exact absurd hd (digits_ne _)
  | cons c r =>
    rw [hd] at hm
    have hc := hm c (by simp)
    unfold belowP
    simp
    intro e; subst e
    exact absurd hc.1 (by decide)
theorem numR_itoa {n : Int} (h : I64 n) : numR (Lib.itoa n) = (n, true) := by
  obtain ⟨h0, h1⟩ := h
  by_cases hn : n < 0
  · have hi : Lib.itoa n = 45 :: Lib.decDigits n.natAbs := by unfold Lib.itoa; rw [if_pos hn]
    have hb : belowP (Lib.itoa n) = true := by rw [hi]; rfl
    have hg : numGo 0 (Lib.decDigits n.natAbs) = some n := by
      have := numGo_digits n.natAbs (by omega) []
      rw [List.append_nil] at this
      rw [this, numGo]
      congr 1; omega
    unfold numR
    rw [hb, if_pos rfl, hi, List.drop_one, List.tail_cons, hg]
    simp only [if_true]
    rw [← hi]; simp
  · have hb := itoa_head (n := n) (by omega)
    have hi : Lib.itoa n = Lib.decDigits n.toNat := by unfold Lib.itoa; rw [if_neg hn]
    have hg : numGo 0 (Lib.itoa n) = some (-n) := by
      have := numGo_digits n.toNat (by omega) []
      rw [List.append_nil] at this
      rw [hi, this, numGo]
      congr 1; omega
    unfold numR
    rw [hb]
    simp only [Bool.false_eq_true, if_false, hg]
    have hw : IntKind.i64.wrap (- -n) = n := by rw [IntKind.wrap_i64]; omega
    rw [hw]; simp

/-! ### Words between blanks -/
def wordsR : List UInt8 → List UInt8 → List (List UInt8)
  | w, [] => [w]
  | w, b :: r => if b = 32 then w :: wordsR [] r else wordsR (w ++ [b]) r
theorem wordsR_snoc (s : List UInt8) : ∀ (w : List UInt8), (∀ b ∈ s, b ≠ 32) → ∀ r, wordsR w (s ++ r) = wordsR (w ++ s) r := by
  induction s with
  | nil => intro w _ r; simp
  | cons b s ih =>
    intro w h r
    rw [List.cons_append, wordsR, if_neg (h b (by simp)), ih _ (fun c hc => h c (by simp [hc])), List.append_assoc, List.singleton_append]
theorem wordsR_nums (i : In) : ∀ (ks : List Nat) (w : List UInt8), wordsR w (textNums i ks) = w :: ks.map fun k => Lib.itoa (i.get k)
  | [], w => rfl
  | k :: ks, w => by
    rw [show textNums i (k :: ks) = 32 :: (Lib.itoa (i.get k) ++ textNums i ks) from by simp [textNums], wordsR, if_pos rfl, wordsR_snoc _ _ (itoa_byte _), List.nil_append, wordsR_nums i ks, List.map_cons]
theorem wordsR_text (i : In) : wordsR [] (textP i) = word (formP i) :: (placesP (mask (formP i))).map fun k => Lib.itoa (i.get k) := by
  unfold textP
  rw [wordsR_snoc _ _ (fun b hb => by simpa using List.all_eq_true.1 (word_byte _) b hb), List.nil_append, wordsR_nums]
theorem wordsR_ne : ∀ (s w : List UInt8), wordsR w s ≠ []
  | [], w => by simp [wordsR]
  | b :: r, w => by rw [wordsR]; split; simp; exact wordsR_ne r _

/-! ### Reading -/
/-- All words' numbers. -/
def numsR : List (List UInt8) → Option (List Int)
  | [] => some []
  | s :: r => if (numR s).2 then (numsR r).map ((numR s).1 :: ·) else none
/-- The instruction of an operation, and so many numbers. -/
def fillR (n : List Int) : List Nat → Nat → In → In
  | [], _, x => x
  | k :: ks, at_, x => if at_ < n.length then fillR n ks (at_ + 1) (x.set k (n.getD at_ 0)) else fillR n ks at_ x
def candR (n : List Int) (op : Nat) : In := fillR n (placesP (mask op)) 0 ⟨op, 0, 0, 0, 0⟩
def rawR (n : List Int) : In := ⟨n.getD 0 0, n.getD 1 0, n.getD 2 0, n.getD 3 0, n.getD 4 0⟩
def opsR (s w0 : List UInt8) (n : List Int) (op : Nat) : Option In := if word op = w0 ∧ textP (candR n op) = s then some (candR n op) else none
def parseR (s : List UInt8) : Option In :=
  if 200 < s.length then none else
  match numsR ((wordsR [] s).drop 1) with
  | none => none
  | some n => if (wordsR [] s).headD [] = word 0 ∧ n.length = 5 ∧ textP (rawR n) = s then some (rawR n) else (List.range' 1 18).findSome? (opsR s ((wordsR [] s).headD []) n)

theorem numsR_range : ∀ {l : List (List UInt8)} {n : List Int}, numsR l = some n → ∀ v ∈ n, I64 v
  | [], n, h, v, hv => by cases h; cases hv
  | s :: r, n, h, v, hv => by
    rw [numsR] at h
    split at h
    · obtain ⟨m, hm, rfl⟩ := Option.map_eq_some_iff.1 h
      rcases List.mem_cons.1 hv with rfl | hv
      · exact numR_range s
      · exact numsR_range hm v hv
    · cases h
theorem i64_0 : I64 0 := ⟨by decide, by decide⟩
theorem getD_range {n : List Int} (h : ∀ v ∈ n, I64 v) (k : Nat) : I64 (n.getD k 0) := by
  rw [List.getD_eq_getElem?_getD]
  cases e : n[k]? with
  | none => exact i64_0
  | some v => exact h v (List.mem_of_getElem? e)
theorem fill_ok {n : List Int} (h : ∀ v ∈ n, I64 v) : ∀ (ks : List Nat) (a : Nat) (x : In), x.Ok → (fillR n ks a x).Ok
  | [], _, _, hx => hx
  | k :: ks, a, x, hx => by
    rw [fillR]; split
    · exact fill_ok h ks _ _ (set_ok hx k (getD_range h a))
    · exact fill_ok h ks _ _ hx
theorem cand_ok {n : List Int} (h : ∀ v ∈ n, I64 v) {op : Nat} (ho : op ≤ 18) : (candR n op).Ok :=
  fill_ok h _ _ _ ⟨⟨by simp only; omega, by simp only; omega⟩, i64_0, i64_0, i64_0, i64_0⟩
theorem raw_ok {n : List Int} (h : ∀ v ∈ n, I64 v) : (rawR n).Ok := ⟨getD_range h 0, getD_range h 1, getD_range h 2, getD_range h 3, getD_range h 4⟩
theorem numsR_itoa (i : In) (hi : i.Ok) : ∀ (ks : List Nat), numsR (ks.map fun k => Lib.itoa (i.get k)) = some (ks.map i.get)
  | [] => rfl
  | k :: ks => by
    rw [List.map_cons, numsR, numR_itoa (hi.get k)]
    simp only [if_true, numsR_itoa i hi ks, Option.map_some, List.map_cons]
theorem fill_own (i : In) : ∀ (ks pre : List Nat) (x : In), fillR ((pre ++ ks).map i.get) ks pre.length x = ks.foldl (fun x k => x.set k (i.get k)) x
  | [], _, _ => rfl
  | k :: ks, pre, x => by
    have hg : ((pre ++ k :: ks).map i.get).getD pre.length 0 = i.get k := by
      rw [List.getD_eq_getElem?_getD, List.getElem?_map, List.getElem?_append_right (Nat.le_refl _), Nat.sub_self]; rfl
    rw [fillR, if_pos (by rw [List.length_map, List.length_append, List.length_cons]; omega), hg]
    have := fill_own i ks (pre ++ [k]) (x.set k (i.get k))
    rw [List.append_assoc, List.singleton_append, List.length_append, List.length_singleton] at this
    rw [this]; rfl
theorem decLen (u : Nat) : ∀ k, u < 10 ^ k → (Lib.decDigits u).length ≤ max k 1 := by
  induction u using Nat.strongRecOn with
  | ind u ih =>
    intro k hk
    rw [Lib.decDigits]
    split
    · simp; omega
    · rename_i h
      match k, hk with
      | 0, hk => simp at hk; omega
      | k + 1, hk =>
        have := ih (u / 10) (by omega) k (by rw [Nat.pow_succ] at hk; omega)
        rw [List.length_append, List.length_singleton]
        have : 1 ≤ k := by
          rcases Nat.eq_zero_or_pos k with e | e
          · subst e; simp at hk; omega
          · exact e
        omega
theorem itoa21 {n : Int} (h : I64 n) : (Lib.itoa n).length ≤ 21 := by
  obtain ⟨h0, h1⟩ := h
  unfold Lib.itoa
  split
  · have := decLen n.natAbs 20 (by omega)
    rw [List.length_cons]; omega
  · have := decLen n.toNat 20 (by omega)
    omega
theorem nums_len (i : In) (hi : i.Ok) : ∀ ks : List Nat, (textNums i ks).length ≤ 22 * ks.length
  | [] => by simp [textNums]
  | k :: ks => by
    have := nums_len i hi ks
    have h2 := itoa21 (hi.get k)
    rw [show textNums i (k :: ks) = 32 :: (Lib.itoa (i.get k) ++ textNums i ks) from by simp [textNums], List.length_cons, List.length_append, List.length_cons]
    omega
theorem word5 (r : Nat) : (word r).length ≤ 5 := by unfold word; split <;> decide
theorem text115 (i : In) (hi : i.Ok) : (textP i).length ≤ 115 := by
  have h1 := nums_len i hi (placesP (mask (formP i)))
  have h2 : (placesP (mask (formP i))).length ≤ 5 := by
    unfold placesP
    have := List.length_filter_le (hasP (mask (formP i))) (List.range 5)
    simpa using this
  have h3 := word5 (formP i)
  unfold textP
  rw [List.length_append]; omega

/-- The document reads what the code reads. -/
theorem parseR_eq (s : List UInt8) : parseR s = parseP s := by
  have hback : ∀ x, parseR s = some x → parseP s = some x := by
    intro x h
    unfold parseR at h
    split at h
    · cases h
    · split at h
      · cases h
      · rename_i n hn
        have hr := numsR_range hn
        split at h
        · rename_i hc
          cases h
          rw [← hc.2.2]
          exact parse_text _ (raw_ok hr)
        · obtain ⟨op, hm, hx⟩ := List.exists_of_findSome?_eq_some h
          unfold opsR at hx
          split at hx
          · rename_i hc
            cases hx
            have ho := List.mem_range'.1 hm
            rw [← hc.2]
            exact parse_text _ (cand_ok hr (by omega))
          · cases hx
  cases hp : parseP s with
  | none =>
    cases hr : parseR s with
    | none => rfl
    | some x => rw [hback x hr] at hp; cases hp
  | some x =>
    obtain ⟨ht, hx⟩ := parse_back hp
    cases hr : parseR s with
    | some y => rw [hback y hr] at hp; cases hp; rfl
    | none =>
      exfalso
      have hl := text115 x hx
      rw [ht] at hl
      have hw : wordsR [] s = word (formP x) :: (placesP (mask (formP x))).map fun k => Lib.itoa (x.get k) := by rw [← ht]; exact wordsR_text x
      have hn := numsR_itoa x hx (placesP (mask (formP x)))
      unfold parseR at hr
      rw [if_neg (by omega), hw, List.drop_one, List.tail_cons, hn, List.headD_cons] at hr
      simp only at hr
      have hc : candR ((placesP (mask (formP x))).map x.get) (formP x) = x := by
        have := fill_own x (placesP (mask (formP x))) [] ⟨formP x, 0, 0, 0, 0⟩
        rw [List.nil_append, List.length_nil] at this
        unfold candR
        rw [this]; exact sets_own x
      split at hr
      · cases hr
      · rename_i hne
        by_cases hf : formP x = 0
        · apply hne
          rw [hf] at hc ⊢
          refine ⟨rfl, rfl, ?_⟩
          have : rawR ((placesP (mask 0)).map x.get) = candR ((placesP (mask 0)).map x.get) 0 := rfl
          rw [this, hc]; exact ht
        · have h0 := List.findSome?_eq_none_iff.1 hr (formP x) (List.mem_range'.2 ⟨formP x - 1, by have := formP_lt x; omega, by omega⟩)
          unfold opsR at h0
          rw [hc, if_pos ⟨rfl, ht⟩] at h0
          cases h0

end Go.Proofs.YtndmlnoddnaafaaDoor
