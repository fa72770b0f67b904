/- What is printed is read as it was, plainly: the whole. No conditions but those stated. -/
import Derived.Test.YtndmlnoddnaafaaDoorAsmW
namespace Go.Proofs.YtndmlnoddnaafaaDoor

/-! ### A line that goes to a name -/
theorem drop_word {r : Nat} {s : By} (h : Rest s) : (word r ++ s).dropWhile (fun b => b != 32) = s := by
  rw [drop_pre (fun b hb => List.all_eq_true.1 (word_byte r) b hb)]
  rcases h with rfl | ⟨t, rfl⟩
  · rfl
  · simp
theorem bef_word {r : Nat} {s : By} (h : Rest s) : bef 32 (word r ++ s) = word r := by
  unfold bef
  rw [List.takeWhile_append_of_pos (fun b hb => List.all_eq_true.1 (word_byte r) b hb)]
  rcases h with rfl | ⟨t, rfl⟩ <;> simp
theorem bef_text (i : In) : bef 32 (textP i) = word (formP i) := bef_word (nums_rest i _)
theorem goes_forms : ∀ r : Fin 19, (word r.val == [106, 117, 109, 112] || word r.val == [101, 113] || word r.val == [110, 101] || word r.val == [108, 116]) = true → placesP (mask r.val) = [4] ∨ placesP (mask r.val) = [1, 2, 4] := by decide
theorem goes_split {i : In} (h : goesP (textP i) = true) : ∃ init, textP i = (word (formP i) ++ textNums i init) ++ 32 :: Lib.itoa i.imm := by
  unfold goesP at h
  rw [bef_text] at h
  rcases goes_forms ⟨formP i, formP_lt i⟩ h with e | e
  · exact ⟨[], by unfold textP; simp only at e; rw [e]; simp [textNums, In.get]⟩
  · exact ⟨[1, 2], by unfold textP; simp only at e; rw [e]; simp [textNums, In.get]⟩
theorem last_app {A t : By} (h : 32 ∉ t) : lastP (A ++ 32 :: t) = A.length + 1 := by
  unfold lastP
  have hr : (A ++ 32 :: t).reverse = t.reverse ++ 32 :: A.reverse := by simp
  rw [hr, List.takeWhile_append_of_pos (fun b hb => by
    simp only [bne_iff_ne, ne_eq]
    rintro rfl
    exact h (List.mem_reverse.1 hb))]
  simp
  omega
theorem itoa_no32 (n : Int) : (32 : UInt8) ∉ Lib.itoa n := fun h => by
  rcases itoa_mem h with h | h <;> revert h <;> decide
theorem name_no32 (k : Nat) : (32 : UInt8) ∉ plName k := fun h => by
  rcases name_mem h with h | h <;> revert h <;> decide
theorem goesI_parts {n : Nat} {i : In} (h : goesI n i = true) : goesP (textP i) = true ∧ 0 ≤ i.imm ∧ i.imm ≤ n := by
  unfold goesI at h
  simp only [Bool.and_eq_true, decide_eq_true_eq] at h
  exact h
theorem take_mid (A : By) (b : UInt8) (t : By) : (A ++ b :: t).take (A.length + 1) = A ++ [b] := by
  rw [show A ++ b :: t = (A ++ [b]) ++ t by simp]; exact List.take_left' (by simp)
theorem drop_mid (A : By) (b : UInt8) (t : By) : (A ++ b :: t).drop (A.length + 1) = t := by
  rw [show A ++ b :: t = (A ++ [b]) ++ t by simp]; exact List.drop_left' (by simp)
theorem line_name {n : Nat} {i : In} (h : goesI n i = true) : ∃ init, textP i = (word (formP i) ++ textNums i init) ++ 32 :: Lib.itoa i.imm ∧ lineP n i = (word (formP i) ++ textNums i init) ++ 32 :: plName i.imm.toNat := by
  obtain ⟨init, e⟩ := goes_split (goesI_parts h).1
  refine ⟨init, e, ?_⟩
  unfold lineP
  rw [if_pos h, e, last_app (itoa_no32 _), take_mid]
  simp
theorem rest_of (i : In) (ks : List Nat) (t : By) : Rest (textNums i ks ++ 32 :: t) := by
  cases ks with
  | nil => exact .inr ⟨t, rfl⟩
  | cons k r => exact .inr ⟨Lib.itoa (i.get k) ++ (textNums i r ++ 32 :: t), by simp [textNums]⟩
theorem parse_no {i : In} {r : Nat} {ks : List Nat} {k : Nat} : parseP ((word r ++ textNums i ks) ++ 32 :: plName k) = none := by
  cases h : parseP ((word r ++ textNums i ks) ++ 32 :: plName k) with
  | none => rfl
  | some x =>
    exfalso
    have hb := (parse_back h).1
    have e : (textP x).dropWhile (fun b => b != 32) = ((word r ++ textNums i ks) ++ 32 :: plName k).dropWhile (fun b => b != 32) := by rw [hb]
    rw [List.append_assoc, drop_word (rest_of i ks _)] at e
    unfold textP at e
    rw [drop_word (nums_rest x _)] at e
    have hm : (108 : UInt8) ∈ textNums x (placesP (mask (formP x))) := by rw [e]; simp [plName]
    rcases nums_mem hm with h | h | h <;> revert h <;> decide
/-- A line is read as its instruction. -/
theorem instr_line {m : Nms} {n : Nat} {i : In} (hi : i.Ok) (hm : goesI n i = true → lineOf m (plName i.imm.toNat) ≠ 0 ∧ placeOf m (plName i.imm.toNat) = i.imm.toNat) : instrP m (lineP n i) = some i := by
  cases hg : goesI n i with
  | false =>
    have : lineP n i = textP i := by unfold lineP; rw [hg]; rfl
    unfold instrP
    rw [this, parse_text i hi]
  | true =>
    obtain ⟨init, e1, e2⟩ := line_name hg
    obtain ⟨m1, m2⟩ := hm hg
    obtain ⟨g1, g2, _⟩ := goesI_parts hg
    have hgl : goesP (lineP n i) = true := by
      unfold goesP at g1 ⊢
      rw [bef_text] at g1
      rw [e2, List.append_assoc, bef_word (rest_of i init _)]
      exact g1
    unfold instrP
    rw [hgl, e2, parse_no]
    simp only
    rw [last_app (name_no32 _)]
    have d1 : ((word (formP i) ++ textNums i init) ++ 32 :: plName i.imm.toNat).drop ((word (formP i) ++ textNums i init).length + 1) = plName i.imm.toNat := drop_mid _ _ _
    have d2 : ((word (formP i) ++ textNums i init) ++ 32 :: plName i.imm.toNat).take ((word (formP i) ++ textNums i init).length + 1) = (word (formP i) ++ textNums i init) ++ [32] := take_mid _ _ _
    rw [d1, d2, m2]
    have e3 : (word (formP i) ++ textNums i init) ++ [32] ++ Lib.itoa (i.imm.toNat : Int) = textP i := by rw [e1, Int.toNat_of_nonneg g2]; simp
    rw [e3, parse_text i hi]
    simp [m1]
theorem line_tidy (n : Nat) (i : In) : Tidy (lineP n i) := by
  cases hg : goesI n i with
  | false =>
    have : lineP n i = textP i := by unfold lineP; rw [hg]; rfl
    rw [this]; exact text_tidy i
  | true =>
    obtain ⟨init, e1, e2⟩ := line_name hg
    have ht := text_tidy i
    have hn := name_tidy i.imm.toNat
    rw [e2]
    refine ⟨fun b hb => ?_, ?_, ?_⟩
    · rcases List.mem_append.1 hb with h | h
      · exact ht.byte b (by rw [e1]; exact List.mem_append_left _ h)
      · rcases List.mem_cons.1 h with h | h
        · subst h; decide
        · exact hn.byte b h
    · obtain ⟨a, y, e, ha⟩ := word_first (formP i)
      exact ⟨a, y ++ textNums i init ++ 32 :: plName i.imm.toNat, by rw [e]; simp, ha⟩
    · obtain ⟨x, c, e, hc⟩ := hn.last
      exact ⟨word (formP i) ++ textNums i init ++ 32 :: x, c, by rw [e]; simp, hc⟩

/-! ### All lines -/
def itemsP (n : Nat) (l : List In) (k : Nat) : List By := (if markP n l k then [plName k ++ [58]] else []) ++ (match l[k]? with
  | some i => [lineP n i]
  | none => [])
def itemsTo (n : Nat) (l : List In) (k : Nat) : List By := (List.range k).flatMap (itemsP n l)
theorem itemsTo_succ (n : Nat) (l : List In) (k : Nat) : itemsTo n l (k + 1) = itemsTo n l k ++ itemsP n l k := by simp [itemsTo, List.range_succ, List.flatMap_append]
theorem piece_items (n : Nat) (l : List In) (k : Nat) : pieceP n l k = (itemsP n l k).flatMap (· ++ [10]) := by
  unfold pieceP itemsP
  rw [List.flatMap_append]
  congr 1
  · split <;> simp
  · cases l[k]? <;> simp
theorem print_items (n : Nat) (l : List In) : ∀ k, printTo n l k = (itemsTo n l k).flatMap (· ++ [10])
  | 0 => rfl
  | k + 1 => by rw [printTo_succ, itemsTo_succ, List.flatMap_append, print_items n l k, piece_items]
theorem items_mem {n : Nat} {l : List In} {k : Nat} {s : By} (h : s ∈ itemsTo n l k) : ∃ j, j < k ∧ s ∈ itemsP n l j := by
  unfold itemsTo at h
  rw [List.mem_flatMap] at h
  obtain ⟨j, hj, hs⟩ := h
  exact ⟨j, List.mem_range.1 hj, hs⟩
theorem item_cases {n : Nat} {l : List In} {k : Nat} {s : By} (h : s ∈ itemsP n l k) : s = plName k ++ [58] ∨ ∃ i, l[k]? = some i ∧ s = lineP n i := by
  unfold itemsP at h
  rcases List.mem_append.1 h with h | h
  · split at h
    · exact .inl (by simpa using h)
    · cases h
  · cases hx : l[k]? with
    | none => rw [hx] at h; cases h
    | some i => rw [hx] at h; exact .inr ⟨i, rfl, by simpa using h⟩
theorem items_good {n : Nat} {l : List In} {k : Nat} {s : By} (h : s ∈ itemsTo n l k) : Good s := by
  obtain ⟨j, _, hs⟩ := items_mem h
  rcases item_cases hs with rfl | ⟨i, _, rfl⟩
  · exact (name_tidy j).label
  · exact (line_tidy n i).good
theorem items_split {n : Nat} {l : List In} {k : Nat} : ∀ m, k < m → ∃ R, itemsTo n l m = itemsTo n l k ++ (itemsP n l k ++ R)
  | 0, h => by omega
  | m + 1, h => by
    by_cases e : k = m
    · subst e; exact ⟨[], by rw [itemsTo_succ, List.append_nil]⟩
    · obtain ⟨R, hR⟩ := items_split (n := n) (l := l) (k := k) m (by omega)
      exact ⟨R ++ itemsP n l m, by rw [itemsTo_succ, hR]; simp⟩
theorem names_count {n : Nat} {l : List In} : ∀ k, k ≤ l.length → (namesL (enumL 1 (itemsTo n l k))).2 = k
  | 0, _ => rfl
  | k + 1, h => by
    have ih := names_count (n := n) (l := l) k (by omega)
    obtain ⟨i, hi⟩ : ∃ i, l[k]? = some i := ⟨l[k], List.getElem?_eq_getElem (by omega)⟩
    rw [itemsTo_succ, enum_app]
    unfold namesL at ih ⊢
    rw [List.foldl_append]
    generalize (enumL 1 (itemsTo n l k)).foldl stepN (wordsM, 0) = st at *
    have hin : ∀ st' j, (stepN st' ⟨j, lineP n i⟩).2 = st'.2 + 1 := fun st' j => by unfold stepN; rw [(line_tidy n i).colon]
    have hlb : ∀ j, (stepN st ⟨j, plName k ++ [58]⟩).2 = st.2 := fun j => by unfold stepN; rw [colon_label]; simp only; split <;> rfl
    unfold itemsP
    rw [hi]
    split
    · simp only [List.singleton_append, enumL, List.foldl_cons, List.foldl_nil]
      rw [hin, hlb, ih]
    · simp only [List.nil_append, enumL, List.foldl_cons, List.foldl_nil]
      rw [hin, ih]
theorem names_mark {l : List In} (hl : l.length ≤ 1024) {k : Nat} (hk : k ≤ l.length) (hm : markP l.length l k = true) : namesP (printP l) (plName k) = some (1 + (itemsTo l.length l k).length, k) := by
  obtain ⟨R, hR⟩ := items_split (n := l.length) (l := l) (k := k) (l.length + 1) (by omega)
  have hlines : linesP 1 (printP l) = enumL 1 (itemsTo l.length l (l.length + 1)) := by
    unfold printP
    rw [print_items, lines_join _ 1 (fun s hs => items_good hs)]
  obtain ⟨T, hT⟩ : ∃ T, itemsP l.length l k ++ R = (plName k ++ [58]) :: T := by
    unfold itemsP; rw [hm]; exact ⟨_, rfl⟩
  unfold namesP
  rw [hlines, hR, hT, enum_app, enumL]
  have := names_first (pre := enumL 1 (itemsTo l.length l k)) (rest := enumL (1 + (itemsTo l.length l k).length + 1) T) (x := ⟨1 + (itemsTo l.length l k).length, plName k ++ [58]⟩) (s := plName k) (colon_label _) (name_nm (by omega)) (name_noword k) (fun y hy => by
    obtain ⟨j, hj, hs⟩ := items_mem (enum_mem _ _ hy)
    rcases item_cases hs with e | ⟨i, _, e⟩
    · rw [e, colon_label]
      intro hh
      have := name_inj (by omega) (by omega) (Option.some.inj hh)
      omega
    · rw [e, (line_tidy l.length i).colon]; simp)
  rw [names_count k hk] at this
  exact this
theorem takes_app {m : Nms} {y : Rs} {b : List Ln} : ∀ (a : List Ln) {st : Rs}, takesP m st a = some y → takesP m st (a ++ b) = takesP m y b
  | [], st, h => by simp only [takesP, Option.some.injEq] at h; subst h; rfl
  | x :: a, st, h => by
    simp only [takesP, List.cons_append] at h ⊢
    cases hx : takeP m st x with
    | none => rw [hx] at h; cases h
    | some st' => rw [hx] at h; exact takes_app a h
theorem mark_of {l : List In} {k : Nat} {i : In} (hi : l[k]? = some i) (hg : goesI l.length i = true) : i.imm.toNat ≤ l.length ∧ markP l.length l i.imm.toNat = true := by
  obtain ⟨_, h0, h1⟩ := goesI_parts hg
  refine ⟨by omega, ?_⟩
  unfold markP
  rw [List.any_eq_true]
  exact ⟨i, List.mem_of_getElem? hi, by rw [hg]; simp; omega⟩
theorem takes_to {l : List In} (hl : l.length ≤ 1024) (hok : ∀ i ∈ l, i.Ok) : ∀ k, k ≤ l.length + 1 → ∃ lb, takesP (namesP (printP l)) ⟨[], []⟩ (enumL 1 (itemsTo l.length l k)) = some ⟨l.take k, lb⟩
  | 0, _ => ⟨[], by simp [itemsTo, enumL, takesP]⟩
  | k + 1, h => by
    obtain ⟨lb, ih⟩ := takes_to hl hok k (by omega)
    rw [itemsTo_succ, enum_app, takes_app _ ih]
    have hlab : markP l.length l k = true → ∀ st : Rs, takeP (namesP (printP l)) st ⟨1 + (itemsTo l.length l k).length, plName k ++ [58]⟩ = some { st with labels := st.labels ++ [(plName k, k)] } := fun hm st => by
      have hn := names_mark hl (by omega) hm
      unfold takeP lineOf placeOf
      rw [colon_label]
      simp only
      rw [hn]
      simp
    have hins : ∀ i, l[k]? = some i → ∀ (st : Rs) j, st.code.length = k → takeP (namesP (printP l)) st ⟨j, lineP l.length i⟩ = some { st with code := st.code ++ [i] } := fun i hi st j hst => by
      have hk := (List.getElem?_eq_some_iff.1 hi).1
      have hil := instr_line (m := namesP (printP l)) (n := l.length) (hok i (List.mem_of_getElem? hi)) (fun hg => by
        obtain ⟨h1, h2⟩ := mark_of hi hg
        have hn := names_mark hl h1 h2
        unfold lineOf placeOf
        rw [hn]
        simp)
      unfold takeP
      rw [(line_tidy l.length i).colon]
      simp only
      rw [hil]
      simp only
      rw [if_neg (by omega)]
    have htl : (l.take k).length = k ∨ l[k]? = none := by
      by_cases hk : k ≤ l.length
      · exact .inl (by rw [List.length_take]; omega)
      · exact .inr (List.getElem?_eq_none (by omega))
    have htk : l.take (k + 1) = l.take k ++ l[k]?.toList := List.take_add_one
    unfold itemsP
    cases hm : markP l.length l k with
    | true =>
      cases hi : l[k]? with
      | some i =>
        simp only [if_true, List.singleton_append, enumL, takesP]
        rw [hlab hm]
        simp only
        rw [hins i hi _ _ (htl.resolve_right (by rw [hi]; simp))]
        exact ⟨_, by rw [htk, hi]; rfl⟩
      | none =>
        simp only [if_true, List.append_nil, enumL, takesP]
        rw [hlab hm]
        exact ⟨lb ++ [(plName k, k)], by rw [htk, hi]; simp⟩
    | false =>
      cases hi : l[k]? with
      | some i =>
        simp only [Bool.false_eq_true, if_false, List.nil_append, enumL, takesP]
        rw [hins i hi _ _ (htl.resolve_right (by rw [hi]; simp))]
        exact ⟨_, by rw [htk, hi]; rfl⟩
      | none =>
        simp only [Bool.false_eq_true, if_false, List.nil_append, enumL, takesP]
        exact ⟨lb, by rw [htk, hi]; simp⟩
/-- What is printed is read as it was. -/
theorem print_read {l : List In} (hl : l.length ≤ 1024) (hok : ∀ i ∈ l, i.Ok) : (readP (printP l)).1.code = l ∧ (readP (printP l)).2 = 0 := by
  obtain ⟨lb, h⟩ := takes_to hl hok (l.length + 1) (Nat.le_refl _)
  have hlines : linesP 1 (printP l) = enumL 1 (itemsTo l.length l (l.length + 1)) := by
    unfold printP
    rw [print_items, lines_join _ 1 (fun s hs => items_good hs)]
  have hr : readP (printP l) = (⟨l.take (l.length + 1), lb⟩, 0) := by
    unfold readP
    rw [hlines]
    exact read_all _ h
  rw [hr]
  exact ⟨by simp only; rw [List.take_of_length_le (by omega)], rfl⟩

end Go.Proofs.YtndmlnoddnaafaaDoor
