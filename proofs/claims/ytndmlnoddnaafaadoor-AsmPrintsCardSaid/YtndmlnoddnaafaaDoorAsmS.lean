/- Remarks, blanks at ends, and empty lines make no difference, plainly. No conditions but those stated. -/
import Derived.Test.YtndmlnoddnaafaaDoorAsmL
namespace Go.Proofs.YtndmlnoddnaafaaDoor

/-! ### Lines that say the same, by other numbers -/
def RelN (z : List (Ln × Ln)) (v v' : Option (Nat × Nat)) : Prop :=
  (v = v' ∧ (v = none ∨ v = some (0, 0))) ∨ ∃ q ∈ z, ∃ p, v = some (q.1.n, p) ∧ v' = some (q.2.n, p)
/-- Lines side by side. -/
structure Pairs (z : List (Ln × Ln)) : Prop where
  same : ∀ q ∈ z, q.1.s = q.2.s
  one : ∀ q ∈ z, q.1.n ≠ 0 ∧ q.2.n ≠ 0
  inj : ∀ q ∈ z, ∀ r ∈ z, q.1.n = r.1.n ↔ q.2.n = r.2.n
section
variable {z : List (Ln × Ln)}
theorem RelN.none_iff {v v' : Option (Nat × Nat)} (h : RelN z v v') : v.isNone = v'.isNone := by
  rcases h with ⟨rfl, _⟩ | ⟨q, _, p, rfl, rfl⟩ <;> rfl
theorem step_rel (hz : Pairs z) {m m' : Nms × Nat} (h1 : ∀ s, RelN z (m.1 s) (m'.1 s)) (h2 : m.2 = m'.2) {q : Ln × Ln} (hq : q ∈ z) : (∀ s, RelN z ((stepN m q.1).1 s) ((stepN m' q.2).1 s)) ∧ (stepN m q.1).2 = (stepN m' q.2).2 := by
  unfold stepN
  rw [← hz.same q hq]
  cases colonP q.1.s with
  | none => exact ⟨h1, by simp [h2]⟩
  | some nm =>
    simp only
    rw [← (h1 nm).none_iff]
    split
    · refine ⟨fun s => ?_, h2⟩
      unfold Nms.put
      simp only
      split
      · exact .inr ⟨q, hq, m.2, rfl, by rw [h2]⟩
      · exact h1 s
    · exact ⟨h1, h2⟩
theorem names_rel (hz : Pairs z) : ∀ (u : List (Ln × Ln)) (m m' : Nms × Nat), (∀ q ∈ u, q ∈ z) → (∀ s, RelN z (m.1 s) (m'.1 s)) → m.2 = m'.2 → (∀ s, RelN z (((u.map (·.1)).foldl stepN m).1 s) (((u.map (·.2)).foldl stepN m').1 s))
  | [], m, m', _, h1, _ => h1
  | q :: u, m, m', hu, h1, h2 => by
    have h := step_rel hz h1 h2 (hu q (by simp))
    exact names_rel hz u (stepN m q.1) (stepN m' q.2) (fun r hr => hu r (by simp [hr])) h.1 h.2
theorem place_rel {m m' : Nms} {s : By} (h : RelN z (m s) (m' s)) : placeOf m s = placeOf m' s := by
  unfold placeOf
  rcases h with ⟨e, _⟩ | ⟨q, _, p, e, e'⟩
  · rw [e]
  · rw [e, e']; rfl
theorem line_rel (hz : Pairs z) {m m' : Nms} {s : By} (h : RelN z (m s) (m' s)) {q : Ln × Ln} (hq : q ∈ z) : lineOf m s = q.1.n ↔ lineOf m' s = q.2.n := by
  unfold lineOf
  have h0 := hz.one q hq
  rcases h with ⟨e, h1 | h1⟩ | ⟨r, hr, p, e, e'⟩
  · rw [← e, h1]; simp only [Option.getD_none]; constructor <;> intro h <;> omega
  · rw [← e, h1]; simp only [Option.getD_some]; constructor <;> intro h <;> omega
  · rw [e, e']; exact hz.inj r hr q hq
theorem zero_rel (hz : Pairs z) {m m' : Nms} {s : By} (h : RelN z (m s) (m' s)) : lineOf m s = 0 ↔ lineOf m' s = 0 := by
  unfold lineOf
  rcases h with ⟨e, _⟩ | ⟨r, hr, p, e, e'⟩
  · rw [e]
  · have := hz.one r hr
    rw [e, e']; simp only [Option.getD_some]; omega
theorem instr_rel (hz : Pairs z) {m m' : Nms} (h : ∀ s, RelN z (m s) (m' s)) (s : By) : instrP m s = instrP m' s := by
  unfold instrP
  cases parseP s with
  | some i => rfl
  | none =>
    simp only
    rw [place_rel (h (s.drop (lastP s)))]
    have := zero_rel hz (h (s.drop (lastP s)))
    by_cases h0 : lineOf m (s.drop (lastP s)) = 0
    · rw [h0, this.1 h0]
    · have h1 : lineOf m' (s.drop (lastP s)) ≠ 0 := fun e => h0 (this.2 e)
      simp only [h0, h1]
theorem take_rel (hz : Pairs z) {m m' : Nms} (h : ∀ s, RelN z (m s) (m' s)) {q : Ln × Ln} (hq : q ∈ z) (st : Rs) : takeP m st q.1 = takeP m' st q.2 := by
  unfold takeP
  rw [← hz.same q hq, instr_rel hz h]
  cases colonP q.1.s with
  | none => rfl
  | some s =>
    simp only
    rw [place_rel (h s)]
    have := line_rel hz (h s) hq
    by_cases h1 : lineOf m s = q.1.n
    · rw [if_pos h1, if_pos (this.1 h1)]
    · rw [if_neg h1, if_neg (fun e => h1 (this.2 e))]
theorem read_rel (hz : Pairs z) {m m' : Nms} (h : ∀ s, RelN z (m s) (m' s)) : ∀ (u : List (Ln × Ln)) (st : Rs), (∀ q ∈ u, q ∈ z) → (readL m st (u.map (·.1))).1 = (readL m' st (u.map (·.2))).1 ∧ ((readL m st (u.map (·.1))).2 = 0 ↔ (readL m' st (u.map (·.2))).2 = 0)
  | [], st, _ => ⟨rfl, Iff.rfl⟩
  | q :: u, st, hu => by
    have hq := hu q (by simp)
    simp only [List.map_cons, readL]
    rw [take_rel hz h hq]
    cases takeP m' st q.2 with
    | some st' => exact read_rel hz h u st' (fun r hr => hu r (by simp [hr]))
    | none =>
      have := hz.one q hq
      exact ⟨rfl, by simp only; omega⟩
end
theorem pairs_of {l l' : List Ln} (hs : l.map (·.s) = l'.map (·.s)) (h1 : l.Pairwise (fun x y => x.n < y.n)) (h2 : l'.Pairwise (fun x y => x.n < y.n)) (n1 : ∀ x ∈ l, x.n ≠ 0) (n2 : ∀ x ∈ l', x.n ≠ 0) :
    Pairs (l.zip l') ∧ (l.zip l').map (·.1) = l ∧ (l.zip l').map (·.2) = l' := by
  have hlen : l.length = l'.length := by simpa using congrArg List.length hs
  have m1 : (l.zip l').map (·.1) = l := List.map_fst_zip (by omega)
  have m2 : (l.zip l').map (·.2) = l' := List.map_snd_zip (by omega)
  have get : ∀ q ∈ l.zip l', ∃ i, ∃ h : i < l.length, ∃ h' : i < l'.length, q = (l[i], l'[i]) := fun q hq => by
    obtain ⟨i, hi, rfl⟩ := List.mem_iff_getElem.1 hq
    rw [List.length_zip] at hi
    exact ⟨i, by omega, by omega, by rw [List.getElem_zip]⟩
  have mono : ∀ (a : List Ln), a.Pairwise (fun x y => x.n < y.n) → ∀ i j (hi : i < a.length) (hj : j < a.length), a[i].n = a[j].n → i = j := fun a ha i j hi hj e => by
    rcases Nat.lt_trichotomy i j with h | h | h
    · have := List.pairwise_iff_getElem.1 ha i j hi hj h; omega
    · exact h
    · have := List.pairwise_iff_getElem.1 ha j i hj hi h; omega
  refine ⟨⟨fun q hq => ?_, fun q hq => ?_, fun q hq r hr => ?_⟩, m1, m2⟩
  · obtain ⟨i, h, h', rfl⟩ := get q hq
    have : (l.map (·.s))[i]? = (l'.map (·.s))[i]? := by rw [hs]
    rw [List.getElem?_map, List.getElem?_map, List.getElem?_eq_getElem h, List.getElem?_eq_getElem h'] at this
    simpa using this
  · obtain ⟨i, h, h', rfl⟩ := get q hq
    exact ⟨n1 _ (List.getElem_mem h), n2 _ (List.getElem_mem h')⟩
  · obtain ⟨i, h, h', rfl⟩ := get q hq
    obtain ⟨j, g, g', rfl⟩ := get r hr
    simp only
    constructor
    · intro e; have := mono l h1 i j h g e; subst this; rfl
    · intro e; have := mono l' h2 i j h' g' e; subst this; rfl
/-- Two texts whose lines say the same are read alike. -/
theorem read_same {t t' : By} (h : (linesP 1 t).map (·.s) = (linesP 1 t').map (·.s)) : (readP t).1 = (readP t').1 ∧ ((readP t).2 = 0 ↔ (readP t').2 = 0) := by
  have n1 : ∀ x ∈ linesP 1 t, x.n ≠ 0 := fun x hx => by have := (lines_mem _ 1 t (Nat.le_refl _) x hx).1; omega
  have n2 : ∀ x ∈ linesP 1 t', x.n ≠ 0 := fun x hx => by have := (lines_mem _ 1 t' (Nat.le_refl _) x hx).1; omega
  obtain ⟨hz, m1, m2⟩ := pairs_of h (lines_rise _ 1 t (Nat.le_refl _)) (lines_rise _ 1 t' (Nat.le_refl _)) n1 n2
  have hn : ∀ s, RelN ((linesP 1 t).zip (linesP 1 t')) (namesP t s) (namesP t' s) := by
    have := names_rel hz _ (wordsM, 0) (wordsM, 0) (fun q hq => hq) (fun s => .inl ⟨rfl, show wordsM s = none ∨ wordsM s = some (0, 0) from by unfold wordsM wordsTo; split <;> simp⟩) rfl
    rw [m1, m2] at this
    exact this
  have := read_rel hz hn _ ⟨[], []⟩ (fun q hq => hq)
  rw [m1, m2] at this
  exact this

/-! ### Blanks and remarks -/
def isBl (b : UInt8) : Bool := [32, 9].contains b
theorem drop_all {p : UInt8 → Bool} : ∀ {l : By}, (∀ b ∈ l, p b = true) → l.dropWhile p = []
  | [], _ => rfl
  | b :: r, h => by rw [List.dropWhile_cons, h b (by simp)]; exact drop_all (fun c hc => h c (by simp [hc]))
theorem drop_pre {p : UInt8 → Bool} : ∀ {l r : By}, (∀ b ∈ l, p b = true) → (l ++ r).dropWhile p = r.dropWhile p
  | [], _, _ => rfl
  | b :: l, r, h => by rw [List.cons_append, List.dropWhile_cons, h b (by simp)]; exact drop_pre (fun c hc => h c (by simp [hc]))
theorem trim_right {y suf : By} (h : ∀ b ∈ suf, ([32, 9] : By).contains b = true) : Lib.trimRightS (y ++ suf) [32, 9] = Lib.trimRightS y [32, 9] := by
  unfold Lib.trimRightS
  rw [List.reverse_append, drop_pre (fun b hb => h b (List.mem_reverse.1 hb))]
theorem trim_left {pre y : By} (h : ∀ b ∈ pre, ([32, 9] : By).contains b = true) : Lib.trimS (pre ++ y) [32, 9] = Lib.trimS y [32, 9] := by
  unfold Lib.trimS Lib.trimLeftS Lib.trimRightS
  rw [List.reverse_append, List.dropWhile_append]
  split
  · rename_i he
    rw [List.isEmpty_iff] at he
    rw [he, drop_all (fun b hb => h b (List.mem_reverse.1 hb))]
  · rw [List.reverse_append, List.reverse_reverse, drop_pre h]
theorem trim_both {pre y suf : By} (h : ∀ b ∈ pre, ([32, 9] : By).contains b = true) (h' : ∀ b ∈ suf, ([32, 9] : By).contains b = true) : Lib.trimS (pre ++ (y ++ suf)) [32, 9] = Lib.trimS y [32, 9] := by
  rw [trim_left h]
  unfold Lib.trimS
  rw [trim_right h']
theorem bef_app {c : UInt8} {a r : By} (h : c ∉ a) : bef c (a ++ r) = a ++ bef c r := by
  unfold bef
  rw [List.takeWhile_append_of_pos (fun b hb => by simp only [bne_iff_ne, ne_eq]; intro e; subst e; exact h hb)]
theorem bef_here (c : UInt8) (r : By) : bef c (c :: r) = [] := by simp [bef]
theorem bef_in {c : UInt8} {r : By} : ∀ {a : By}, c ∈ a → bef c (a ++ r) = bef c a
  | [], h => by cases h
  | b :: a, h => by
    by_cases hb : b = c
    · subst hb; simp [bef]
    · have hn : (b != c) = true := by simp [hb]
      have ih := bef_in (r := r) (a := a) (by rcases List.mem_cons.1 h with h | h; exact absurd h.symm hb; exact h)
      unfold bef at ih ⊢
      rw [List.cons_append, List.takeWhile_cons, List.takeWhile_cons, hn]
      simp [ih]
theorem aft_app {c : UInt8} {a r : By} (h : c ∉ a) : aft c (a ++ c :: r) = r := by
  unfold aft
  rw [drop_pre (fun b hb => by simp only [bne_iff_ne, ne_eq]; intro e; subst e; exact h hb)]
  simp
theorem aft_no {c : UInt8} {a : By} (h : c ∉ a) : aft c a = [] := by
  unfold aft
  rw [drop_all (fun b hb => by simp only [bne_iff_ne, ne_eq]; intro e; subst e; exact h hb)]
  rfl
/-- A text with remarks, blanks and empty lines. -/
def blP (rk : By) (l : By) : By := l.flatMap fun b => if b = 10 then [32, 9, 59] ++ rk ++ [10, 10, 32, 32] else [b]
theorem bl_no {rk : By} : ∀ {a : By}, 10 ∉ a → blP rk a = a
  | [], _ => rfl
  | b :: r, h => by
    have hb : b ≠ 10 := fun e => h (by simp [e])
    have := bl_no (rk := rk) (a := r) (fun e => h (by simp [e]))
    unfold blP at this ⊢
    rw [List.flatMap_cons, if_neg hb, this]; rfl
theorem bl_app (rk a b : By) : blP rk (a ++ b) = blP rk a ++ blP rk b := by simp [blP]
theorem said_bl {pre a rk : By} (hp : ∀ b ∈ pre, b = 32) (h : 10 ∉ a) : saidP (pre ++ a) = saidP a := by
  have h59 : (59 : UInt8) ∉ pre := fun e => by have := hp _ e; exact absurd this (by decide)
  have h10 : (10 : UInt8) ∉ pre := fun e => by have := hp _ e; exact absurd this (by decide)
  have hbl : ∀ b ∈ pre, ([32, 9] : By).contains b = true := fun b hb => by rw [hp b hb]; decide
  unfold saidP
  rw [bef_app h10, bef_app h59, trim_left hbl]
theorem said_rk {pre a rk r : By} (hp : ∀ b ∈ pre, b = 32) (h : 10 ∉ a) (hr : 10 ∉ rk) : saidP (pre ++ (a ++ ([32, 9, 59] ++ rk ++ 10 :: r))) = Lib.trimS (bef 59 a) [32, 9] := by
  have h59 : (59 : UInt8) ∉ pre := fun e => by have := hp _ e; exact absurd this (by decide)
  have h10 : (10 : UInt8) ∉ pre := fun e => by have := hp _ e; exact absurd this (by decide)
  have hbl : ∀ b ∈ pre, ([32, 9] : By).contains b = true := fun b hb => by rw [hp b hb]; decide
  unfold saidP
  have e1 : bef 10 (pre ++ (a ++ ([32, 9, 59] ++ rk ++ 10 :: r))) = pre ++ (a ++ ([32, 9, 59] ++ rk)) := by
    rw [bef_app h10, bef_app h, bef_app (by simp [hr]), bef_here, List.append_nil]
  rw [e1, bef_app h59]
  by_cases h5 : (59 : UInt8) ∈ a
  · rw [bef_in h5, trim_left hbl]
  · rw [bef_app h5]
    have e2 : bef 59 ([32, 9, 59] ++ rk) = [32, 9] := by
      show bef 59 ([32, 9] ++ 59 :: rk) = [32, 9]
      rw [bef_app (by decide), bef_here]; rfl
    have e3 : bef 59 a = a := by
      rcases index_bef 59 a with ⟨_, h2, _⟩ | ⟨i, _, _, _, _, h6⟩
      · exact h2
      · exact absurd h6 h5
    rw [e2, e3, trim_both hbl (by decide)]
theorem lines_bl {rk : By} (hr : 10 ∉ rk) : ∀ (k : Nat) (t : By) (n n' : Nat) (pre : By), t.length ≤ k → (pre = [] ∨ pre = [32, 32]) → (linesP n' (pre ++ blP rk t)).map (·.s) = (linesP n t).map (·.s)
  | k, [], n, n', pre, _, hp => by
    rcases hp with rfl | rfl
    · rfl
    · rfl
  | 0, b :: t, n, n', pre, h, _ => by simp at h
  | k + 1, b :: t, n, n', pre, h, hp => by
    have hpb : ∀ c ∈ pre, c = 32 := by rcases hp with rfl | rfl <;> simp
    obtain ⟨T, hT⟩ : ∃ T, b :: t = T := ⟨_, rfl⟩
    rw [hT] at h ⊢
    have hne : T ≠ [] := by rw [← hT]; simp
    by_cases h10 : (10 : UInt8) ∈ T
    · obtain ⟨a, r, hsp, ha⟩ : ∃ a r, T = a ++ 10 :: r ∧ (10 : UInt8) ∉ a := by
        obtain ⟨a, r, e, ha⟩ := List.append_of_mem h10 |> fun _ => List.eq_append_cons_of_mem h10
        exact ⟨a, r, e, ha⟩
      have e1 : blP rk T = a ++ ([32, 9, 59] ++ rk ++ 10 :: ([10, 32, 32] ++ blP rk r)) := by
        rw [hsp, bl_app, bl_no ha]
        unfold blP
        rw [List.flatMap_cons, if_pos rfl]
        simp
      have hX : pre ++ blP rk T ≠ [] := by rw [e1]; simp
      rw [lines_ne n' hX, lines_ne n hne, List.map_append, List.map_append]
      have hsaid : saidP T = Lib.trimS (bef 59 a) [32, 9] := by
        unfold saidP; rw [hsp, bef_app ha, bef_here, List.append_nil]
      have es : saidP (pre ++ blP rk T) = saidP T := by rw [e1, said_rk hpb ha hr, hsaid]
      have e3 : aft 10 (pre ++ blP rk T) = 10 :: ([32, 32] ++ blP rk r) := by
        rw [e1]
        have : pre ++ (a ++ ([32, 9, 59] ++ rk ++ 10 :: ([10, 32, 32] ++ blP rk r))) = (pre ++ (a ++ ([32, 9, 59] ++ rk))) ++ 10 :: ([10, 32, 32] ++ blP rk r) := by simp
        rw [this, aft_app (by
          simp only [List.mem_append, not_or]
          exact ⟨fun e => absurd (hpb _ e) (by decide), ha, by decide, hr⟩)]
        rfl
      have e4 : aft 10 T = r := by rw [hsp, aft_app ha]
      rw [e3, e4]
      have e5 : linesP (n' + 1) (10 :: ([32, 32] ++ blP rk r)) = linesP (n' + 2) ([32, 32] ++ blP rk r) := by
        rw [lines_ne (n' + 1) (by simp)]
        have h0 : sayP (n' + 1) (10 :: ([32, 32] ++ blP rk r)) = [] := by
          unfold sayP saidP
          rw [bef_here]; rfl
        have h1 : aft 10 (10 :: ([32, 32] ++ blP rk r)) = [32, 32] ++ blP rk r := aft_app (a := []) (by simp)
        rw [h0, h1]; rfl
      rw [e5, lines_bl hr k r (n + 1) (n' + 2) [32, 32] (by rw [hsp] at h; simp at h; omega) (.inr rfl)]
      congr 1
      unfold sayP
      rw [es]
      split <;> rfl
    · have e1 : blP rk T = T := bl_no h10
      have hX : pre ++ blP rk T ≠ [] := by rw [e1]; simp [hne]
      have h10p : (10 : UInt8) ∉ pre ++ T := by
        simp only [List.mem_append, not_or]
        exact ⟨fun e => absurd (hpb _ e) (by decide), h10⟩
      rw [lines_ne n' hX, lines_ne n hne, e1, aft_no h10p, aft_no h10, lines_nil, lines_nil, List.append_nil, List.append_nil]
      unfold sayP
      rw [said_bl (rk := rk) hpb h10]
      split <;> rfl
theorem blanks_read {rk : By} (hr : 10 ∉ rk) (t : By) : (readP (blP rk t)).1 = (readP t).1 ∧ ((readP (blP rk t)).2 = 0 ↔ (readP t).2 = 0) :=
  read_same (by have := lines_bl hr _ t 1 1 [] (Nat.le_refl _) (.inl rfl); rwa [List.nil_append] at this)

end Go.Proofs.YtndmlnoddnaafaaDoor
