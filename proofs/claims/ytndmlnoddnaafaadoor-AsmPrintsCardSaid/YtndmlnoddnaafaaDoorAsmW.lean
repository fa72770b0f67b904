/- What is printed is read as it was, plainly. No conditions but those stated. -/
import Derived.Test.YtndmlnoddnaafaaDoorAsmU
import Derived.Test.YtndmlnoddnaafaaDoorAsmS
namespace Go.Proofs.YtndmlnoddnaafaaDoor

/-! ### Lines that are put together -/
def enumL : Nat → List By → List Ln
  | _, [] => []
  | n, s :: r => ⟨n, s⟩ :: enumL (n + 1) r
theorem enum_app : ∀ (a b : List By) (n : Nat), enumL n (a ++ b) = enumL n a ++ enumL (n + a.length) b
  | [], b, n => rfl
  | s :: a, b, n => by
    rw [List.cons_append, enumL, enum_app a b (n + 1), enumL, List.cons_append, List.length_cons]
    congr 3; omega
theorem enum_len : ∀ (a : List By) (n : Nat), (enumL n a).length = a.length
  | [], _ => rfl
  | s :: a, n => by rw [enumL, List.length_cons, enum_len a (n + 1), List.length_cons]
theorem enum_mem {x : Ln} : ∀ (a : List By) (n : Nat), x ∈ enumL n a → x.s ∈ a
  | s :: a, n, h => by
    rw [enumL] at h
    rcases List.mem_cons.1 h with h | h
    · subst h; simp
    · exact List.mem_cons_of_mem _ (enum_mem a (n + 1) h)
/-- A line that stays as it is. -/
structure Good (s : By) : Prop where
  ne : s ≠ []
  n10 : 10 ∉ s
  n59 : 59 ∉ s
  trim : Lib.trimS s [32, 9] = s
theorem bef_no {c : UInt8} {a : By} (h : c ∉ a) : bef c a = a := by
  rcases index_bef c a with ⟨_, h2, _⟩ | ⟨i, _, _, _, _, h6⟩
  · exact h2
  · exact absurd h6 h
theorem lines_join : ∀ (C : List By) (n : Nat), (∀ s ∈ C, Good s) → linesP n (C.flatMap (· ++ [10])) = enumL n C
  | [], n, _ => rfl
  | s :: C, n, h => by
    have g := h s (by simp)
    have e : (s :: C).flatMap (· ++ [10]) = s ++ 10 :: C.flatMap (· ++ [10]) := by simp
    rw [e, lines_ne n (by simp), aft_app g.n10, lines_join C (n + 1) (fun t ht => h t (by simp [ht]))]
    have hs : saidP (s ++ 10 :: C.flatMap (· ++ [10])) = s := by
      unfold saidP
      rw [bef_app g.n10, bef_here, List.append_nil, bef_no g.n59, g.trim]
    unfold sayP
    rw [hs, if_neg g.ne]; rfl
/-- The first line that tells a name. -/
theorem stay_some {s : By} {v : Nat × Nat} : ∀ (l : List Ln) (m : Nms × Nat), m.1 s = some v → (l.foldl stepN m).1 s = some v
  | [], m, h => h
  | x :: l, m, h => by
    rw [List.foldl_cons]
    refine stay_some l _ ?_
    unfold stepN
    cases colonP x.s with
    | none => exact h
    | some t =>
      simp only
      split
      · rename_i hc
        simp only [Bool.and_eq_true] at hc
        unfold Nms.put
        simp only
        split
        · rename_i e
          rw [← e, h] at hc; simp at hc
        · exact h
      · exact h
theorem stay_none {s : By} : ∀ (l : List Ln) (m : Nms × Nat), (∀ x ∈ l, colonP x.s ≠ some s) → (l.foldl stepN m).1 s = m.1 s
  | [], m, _ => rfl
  | x :: l, m, h => by
    rw [List.foldl_cons, stay_none l _ (fun y hy => h y (by simp [hy]))]
    have hx := h x (by simp)
    unfold stepN
    cases hc : colonP x.s with
    | none => rfl
    | some t =>
      simp only
      split
      · unfold Nms.put
        simp only
        rw [if_neg (fun e => hx (by rw [hc, e]))]
      · rfl
theorem step_tell {m : Nms × Nat} {x : Ln} {s : By} (hc : colonP x.s = some s) (hn : isNm s = true) (h : m.1 s = none) : (stepN m x).1 s = some (x.n, m.2) := by
  unfold stepN
  rw [hc]
  simp only
  rw [h, hn]
  simp [Nms.put]
theorem names_first {pre rest : List Ln} {x : Ln} {s : By} (hc : colonP x.s = some s) (hn : isNm s = true) (hw : wordsM s = none) (hp : ∀ y ∈ pre, colonP y.s ≠ some s) : (namesL (pre ++ x :: rest)).1 s = some (x.n, (namesL pre).2) := by
  unfold namesL
  rw [List.foldl_append, List.foldl_cons]
  refine stay_some rest _ ?_
  have h0 := stay_none pre (wordsM, 0) hp
  exact step_tell hc hn (h0.trans hw)

/-! ### Bytes of a line -/
theorem itoa_mem {n : Int} {b : UInt8} (h : b ∈ Lib.itoa n) : b = 45 ∨ (48 ≤ b.toNat ∧ b.toNat ≤ 57) := by
  unfold Lib.itoa at h
  split at h
  · rcases List.mem_cons.1 h with h | h
    · exact .inl h
    · exact .inr (digits_mem _ _ h)
  · exact .inr (digits_mem _ _ h)
theorem nums_mem {i : In} {ks : List Nat} {b : UInt8} (h : b ∈ textNums i ks) : b = 32 ∨ b = 45 ∨ (48 ≤ b.toNat ∧ b.toNat ≤ 57) := by
  unfold textNums at h
  rw [List.mem_flatMap] at h
  obtain ⟨k, _, hb⟩ := h
  rcases List.mem_cons.1 hb with hb | hb
  · exact .inl hb
  · exact .inr (itoa_mem hb)
theorem word_mem (r : Nat) : (word r).all (fun b => decide (97 ≤ b.toNat) && decide (b.toNat ≤ 122)) = true := by unfold word; split <;> decide
theorem word_ne (r : Nat) : word r ≠ [] := by unfold word; split <;> decide
theorem word_b {r : Nat} {b : UInt8} (h : b ∈ word r) : 97 ≤ b.toNat ∧ b.toNat ≤ 122 := by
  have := List.all_eq_true.1 (word_mem r) b h
  simpa using this
/-- No byte that a text's lines are told by; no blank at an end. -/
structure Tidy (s : By) : Prop where
  byte : ∀ b ∈ s, b ≠ 9 ∧ b ≠ 10 ∧ b ≠ 58 ∧ b ≠ 59
  first : ∃ a y, s = a :: y ∧ a ≠ 32
  last : ∃ x c, s = x ++ [c] ∧ c ≠ 32
theorem trim_id {s : By} (h1 : ∃ a y, s = a :: y ∧ ([32, 9] : By).contains a = false) (h2 : ∃ x c, s = x ++ [c] ∧ ([32, 9] : By).contains c = false) : Lib.trimS s [32, 9] = s := by
  obtain ⟨x, c, e, hc⟩ := h2
  have hr : Lib.trimRightS s [32, 9] = s := by
    unfold Lib.trimRightS
    rw [e, List.reverse_append]
    simp only [List.reverse_cons, List.reverse_nil, List.nil_append, List.singleton_append]
    rw [List.dropWhile_cons, hc]
    simp
  obtain ⟨a, y, e2, ha⟩ := h1
  unfold Lib.trimS
  rw [hr]
  unfold Lib.trimLeftS
  rw [e2, List.dropWhile_cons, ha]; simp
theorem notbl {a : UInt8} (h1 : a ≠ 32) (h2 : a ≠ 9) : ([32, 9] : By).contains a = false := by simp [h1, h2]
theorem Tidy.good {s : By} (h : Tidy s) : Good s := by
  obtain ⟨a, y, e, ha⟩ := h.first
  obtain ⟨x, c, e2, hc⟩ := h.last
  refine ⟨by rw [e]; simp, fun hh => (h.byte _ hh).2.1 rfl, fun hh => (h.byte _ hh).2.2.2 rfl, trim_id ⟨a, y, e, notbl ha (h.byte a (by rw [e]; simp)).1⟩ ⟨x, c, e2, notbl hc (h.byte c (by rw [e2]; simp)).1⟩⟩
theorem Tidy.label {s : By} (h : Tidy s) : Good (s ++ [58]) := by
  obtain ⟨a, y, e, ha⟩ := h.first
  refine ⟨by simp, ?_, ?_, trim_id ⟨a, y ++ [58], by rw [e]; rfl, notbl ha (h.byte a (by rw [e]; simp)).1⟩ ⟨s, 58, rfl, by decide⟩⟩
  · rw [List.mem_append, not_or]; exact ⟨fun hh => (h.byte _ hh).2.1 rfl, by decide⟩
  · rw [List.mem_append, not_or]; exact ⟨fun hh => (h.byte _ hh).2.2.2 rfl, by decide⟩
theorem Tidy.colon {s : By} (h : Tidy s) : colonP s = none := by
  unfold colonP
  rw [if_neg]
  intro hh
  unfold Lib.hasSuffix at hh
  rw [List.isSuffixOf_iff_suffix] at hh
  exact (h.byte 58 (hh.subset (by simp))).2.2.1 rfl
theorem colon_label (s : By) : colonP (s ++ [58]) = some s := by
  have h : Lib.hasSuffix (s ++ [58]) [58] = true := by
    unfold Lib.hasSuffix
    rw [List.isSuffixOf_iff_suffix]
    exact List.suffix_append _ _
  unfold colonP
  rw [if_pos h]
  unfold Lib.trimSuffix
  rw [if_pos h]; simp
theorem byte_ok {b : UInt8} (h : b = 32 ∨ b = 45 ∨ (48 ≤ b.toNat ∧ b.toNat ≤ 57) ∨ (97 ≤ b.toNat ∧ b.toNat ≤ 122)) : b ≠ 9 ∧ b ≠ 10 ∧ b ≠ 58 ∧ b ≠ 59 := by
  refine ⟨?_, ?_, ?_, ?_⟩ <;> (rintro rfl; rcases h with h | h | h | h <;> revert h <;> decide)
theorem last_of {l : By} (h : l ≠ []) : ∃ x c, l = x ++ [c] ∧ c ∈ l := ⟨l.dropLast, l.getLast h, (List.dropLast_concat_getLast h).symm, List.getLast_mem h⟩
theorem first_of {l : By} (h : l ≠ []) : ∃ a y, l = a :: y ∧ a ∈ l := by
  cases l with
  | nil => exact absurd rfl h
  | cons a y => exact ⟨a, y, rfl, by simp⟩
theorem itoa_last (n : Int) : ∃ x c, Lib.itoa n = x ++ [c] ∧ c ≠ 32 := by
  obtain ⟨x, c, e, hc⟩ := last_of (itoa_ne n)
  refine ⟨x, c, e, ?_⟩
  rintro rfl
  rcases itoa_mem hc with h | h <;> revert h <;> decide
theorem nums_last (i : In) : ∀ ks : List Nat, ks ≠ [] → ∃ x c, textNums i ks = x ++ [c] ∧ c ≠ 32
  | [], h => absurd rfl h
  | [k], _ => by
    obtain ⟨x, c, e, hc⟩ := itoa_last (i.get k)
    exact ⟨32 :: x, c, by simp [textNums, e], hc⟩
  | k :: j :: ks, _ => by
    obtain ⟨x, c, e, hc⟩ := nums_last i (j :: ks) (by simp)
    refine ⟨32 :: Lib.itoa (i.get k) ++ x, c, ?_, hc⟩
    have : textNums i (k :: j :: ks) = 32 :: Lib.itoa (i.get k) ++ textNums i (j :: ks) := by simp [textNums]
    rw [this, e]; simp
theorem word_last (r : Nat) : ∃ x c, word r = x ++ [c] ∧ c ≠ 32 := by
  obtain ⟨x, c, e, hc⟩ := last_of (word_ne r)
  exact ⟨x, c, e, by rintro rfl; have := word_b hc; revert this; decide⟩
theorem word_first (r : Nat) : ∃ a y, word r = a :: y ∧ a ≠ 32 := by
  obtain ⟨a, y, e, ha⟩ := first_of (word_ne r)
  exact ⟨a, y, e, by rintro rfl; have := word_b ha; revert this; decide⟩
theorem text_tidy (i : In) : Tidy (textP i) := by
  refine ⟨fun b hb => ?_, ?_, ?_⟩
  · unfold textP at hb
    rcases List.mem_append.1 hb with h | h
    · exact byte_ok (.inr (.inr (.inr (word_b h))))
    · rcases nums_mem h with h | h | h
      · exact byte_ok (.inl h)
      · exact byte_ok (.inr (.inl h))
      · exact byte_ok (.inr (.inr (.inl h)))
  · obtain ⟨a, y, e, ha⟩ := word_first (formP i)
    exact ⟨a, y ++ textNums i (placesP (mask (formP i))), by unfold textP; rw [e]; rfl, ha⟩
  · unfold textP
    by_cases h : placesP (mask (formP i)) = []
    · rw [h]
      obtain ⟨x, c, e, hc⟩ := word_last (formP i)
      exact ⟨x, c, by simp [textNums, e], hc⟩
    · obtain ⟨x, c, e, hc⟩ := nums_last i _ h
      exact ⟨word (formP i) ++ x, c, by rw [e]; simp, hc⟩
theorem name_mem {k : Nat} {b : UInt8} (h : b ∈ plName k) : b = 108 ∨ (48 ≤ b.toNat ∧ b.toNat ≤ 57) := by
  rcases List.mem_cons.1 h with h | h
  · exact .inl h
  · unfold Lib.itoa at h
    rw [if_neg (by omega)] at h
    exact .inr (digits_mem _ _ h)
theorem name_tidy (k : Nat) : Tidy (plName k) := by
  refine ⟨fun b hb => ?_, ⟨108, Lib.itoa k, rfl, by decide⟩, ?_⟩
  · rcases name_mem hb with h | h
    · exact byte_ok (.inr (.inr (.inr (by rw [h]; decide))))
    · exact byte_ok (.inr (.inr (.inl h)))
  · obtain ⟨x, c, e, hc⟩ := itoa_last (k : Int)
    exact ⟨108 :: x, c, by unfold plName; rw [e]; rfl, hc⟩
theorem digits_len : ∀ (m u : Nat), u < 10 ^ (m + 1) → (Lib.decDigits u).length ≤ m + 1
  | 0, u, h => by
    rw [Lib.decDigits]
    split
    · simp
    · omega
  | m + 1, u, h => by
    rw [Lib.decDigits]
    split
    · simp
    · have h2 : 10 ^ (m + 1 + 1) = 10 ^ (m + 1) * 10 := Nat.pow_succ ..
      have := digits_len m (u / 10) (by omega)
      simp; omega
theorem name_nm {k : Nat} (hk : k ≤ 1024) : isNm (plName k) = true := by
  have hl : (Lib.itoa (k : Int)).length < 16 := by
    unfold Lib.itoa
    rw [if_neg (by omega)]
    have := digits_len 3 ((k : Int).toNat) (by simp; omega)
    omega
  have hall : (plName k).all nameB = true := List.all_eq_true.2 (fun b hb => by
    unfold nameB isLow isDig
    rcases name_mem hb with h | h
    · subst h; decide
    · simp [h.1, h.2])
  have e : isNm (plName k) = (decide ((Lib.itoa (k : Int)).length < 16) && isLow 108 && (plName k).all nameB) := rfl
  rw [e, hall, decide_eq_true hl]; decide
theorem words_second : ∀ r : Fin 19, (word r.val)[0]? = some 108 → ((word r.val)[1]?.map (fun b => decide (48 ≤ b.toNat) && decide (b.toNat ≤ 57))) ≠ some true := by decide
theorem name_noword (k : Nat) : wordsM (plName k) = none := by
  unfold wordsM wordsTo
  rw [if_neg]
  intro h
  rw [List.mem_map] at h
  obtain ⟨r, hr, e⟩ := h
  have hr := List.mem_range.1 hr
  obtain ⟨d, y, ed, hd⟩ := first_of (itoa_ne (k : Int))
  have hd2 : 48 ≤ d.toNat ∧ d.toNat ≤ 57 := by
    unfold Lib.itoa at hd
    rw [if_neg (by omega)] at hd
    exact digits_mem _ _ hd
  have := words_second ⟨r, hr⟩
  simp only at this
  rw [e] at this
  unfold plName at this
  rw [ed] at this
  simp [hd2.1, hd2.2] at this
theorem name_inj {a b : Nat} (ha : a ≤ 1024) (hb : b ≤ 1024) (h : plName a = plName b) : a = b := by
  have h1 : Lib.itoa (a : Int) = Lib.itoa (b : Int) := (List.cons.inj h).2
  have e1 := atoi_itoa (a : Int) (by unfold I64; omega)
  have e2 := atoi_itoa (b : Int) (by unfold I64; omega)
  rw [h1, e2] at e1
  have : (b : Int) = (a : Int) := by injection e1
  omega

end Go.Proofs.YtndmlnoddnaafaaDoor
