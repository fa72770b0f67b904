/- One block's history, plainly. No conditions but those stated. -/
import Derived.Test.YtgjbhcnadenojaaParB
namespace Go.Proofs.Ytgjbhcnadenojaa

/-! ### An attempt that is read alone -/
def addAll (x : Kn) (i : Nat) : List Ev → Kn
  | [] => x
  | e :: r => addAll (x.add (i : Int) e) (i + 1) r
theorem addAll_append : ∀ (a b : List Ev) (x : Kn) (i : Nat), addAll x i (a ++ b) = addAll (addAll x i a) (i + a.length) b
  | [], b, x, i => rfl
  | e :: r, b, x, i => by
    simp only [List.cons_append, addAll, List.length_cons]
    rw [addAll_append r b, show i + 1 + r.length = i + (r.length + 1) from by omega]
theorem Kn.load_keeps (x : Kn) (p : Pr) : (x.load p).co = x.co ∧ (x.load p).bl = x.bl ∧ (x.load p).tr = x.tr ∧ (x.load p).la = x.la ∧ (x.load p).st = x.st ∧ (x.load p).pt = x.pt ∧ (x.load p).com = x.com ∧ (x.load p).to_ = x.to_ := by
  unfold Kn.load
  repeat' split
  all_goals exact ⟨rfl, rfl, rfl, rfl, rfl, rfl, rfl, rfl⟩
theorem Kn.store_keeps (x : Kn) (p : Pr) : (x.store p).co = x.co ∧ (x.store p).bl = x.bl ∧ (x.store p).tr = x.tr ∧ (x.store p).la = x.la ∧ (x.store p).ld = x.ld ∧ (x.store p).odd = x.odd ∧ (x.store p).pt = x.pt ∧ (x.store p).com = x.com ∧ (x.store p).to_ = x.to_ := by
  unfold Kn.store
  split <;> exact ⟨rfl, rfl, rfl, rfl, rfl, rfl, rfl, rfl, rfl⟩
theorem Kn.add0_keeps (x : Kn) (i : Int) (e : Ev) : (x.add0 i e).co = x.co ∧ (x.add0 i e).bl = x.bl ∧ (x.add0 i e).tr = x.tr ∧ (x.add0 i e).la = x.la ∧ (x.add0 i e).pt = x.pt := by
  have h1 := x.load_keeps ⟨e.ad, e.va⟩
  have h2 := x.store_keeps ⟨e.ad, e.va⟩
  unfold Kn.add0
  split
  · exact ⟨h1.1, h1.2.1, h1.2.2.1, h1.2.2.2.1, h1.2.2.2.2.2.1⟩
  split
  · exact ⟨h2.1, h2.2.1, h2.2.2.1, h2.2.2.2.1, h2.2.2.2.2.2.2.1⟩
  split
  · exact ⟨rfl, rfl, rfl, rfl, rfl⟩
  split <;> exact ⟨rfl, rfl, rfl, rfl, rfl⟩
theorem Kn.add_keeps (x : Kn) (i : Int) (e : Ev) : (x.add i e).co = x.co ∧ (x.add i e).bl = x.bl ∧ (x.add i e).tr = x.tr ∧ (x.add i e).la = x.la := by
  have h := x.add0_keeps i e
  unfold Kn.add
  split
  · exact ⟨h.1, h.2.1, h.2.2.1, h.2.2.2.1⟩
  · exact ⟨h.1, h.2.1, h.2.2.1, h.2.2.2.1⟩
theorem Kn.add_data (x : Kn) (i : Int) (e : Ev) : (x.add i e).ld = (x.add0 i e).ld ∧ (x.add i e).st = (x.add0 i e).st ∧ (x.add i e).odd = (x.add0 i e).odd ∧ (x.add i e).com = (x.add0 i e).com ∧ (x.add i e).to_ = (x.add0 i e).to_ := by
  unfold Kn.add
  split <;> exact ⟨rfl, rfl, rfl, rfl, rfl⟩
theorem Kn.add_pt (x : Kn) (i : Int) (e : Ev) : (x.add i e).pt = if x.may e.k then i else x.pt := by
  have h := x.add0_keeps i e
  have hm : (x.add0 i e).may e.k = x.may e.k := by unfold Kn.may Kn.hard; rw [h.2.2.2.1]
  unfold Kn.add
  rw [hm]
  split
  · rfl
  · exact h.2.2.2.2
theorem addAll_keeps : ∀ (es : List Ev) (x : Kn) (i : Nat), (addAll x i es).co = x.co ∧ (addAll x i es).bl = x.bl ∧ (addAll x i es).tr = x.tr ∧ (addAll x i es).la = x.la
  | [], x, i => ⟨rfl, rfl, rfl, rfl⟩
  | e :: r, x, i => by
    have h1 := addAll_keeps r (x.add i e) (i + 1)
    have h2 := x.add_keeps i e
    exact ⟨h1.1.trans h2.1, h1.2.1.trans h2.2.1, h1.2.2.1.trans h2.2.2.1, h1.2.2.2.trans h2.2.2.2⟩
theorem addAll_pt : ∀ (es : List Ev) (x : Kn) (i : Nat), (addAll x i es).pt = x.pt ∨ ((i : Int) ≤ (addAll x i es).pt ∧ (addAll x i es).pt < (i : Int) + es.length)
  | [], x, i => .inl rfl
  | e :: r, x, i => by
    have h := addAll_pt r (x.add i e) (i + 1)
    have hp := x.add_pt i e
    simp only [addAll, List.length_cons]
    rcases h with h | h
    · rw [h, hp]
      split
      · exact .inr ⟨Int.le_refl _, by omega⟩
      · exact .inl rfl
    · exact .inr ⟨by omega, by omega⟩
/-- Where an event may be the attempt's point, it has one. -/
theorem addAll_may : ∀ (es : List Ev) (x : Kn) (i : Nat), (∃ e ∈ es, x.may e.k = true) → (i : Int) ≤ (addAll x i es).pt ∧ (addAll x i es).pt < (i : Int) + es.length
  | [], x, i, h => by obtain ⟨e, he, _⟩ := h; cases he
  | e :: r, x, i, h => by
    have hp := x.add_pt i e
    have hk := x.add_keeps i e
    simp only [addAll, List.length_cons]
    by_cases hr : ∃ e' ∈ r, (x.add i e).may e'.k = true
    · have := addAll_may r (x.add i e) (i + 1) hr
      omega
    · have he : x.may e.k = true := by
        obtain ⟨e', he', hm⟩ := h
        rcases List.mem_cons.1 he' with rfl | he'
        · exact hm
        · refine absurd ⟨e', he', ?_⟩ hr
          unfold Kn.may Kn.hard at hm ⊢
          rw [hk.2.2.2]; exact hm
      rw [he, if_pos rfl] at hp
      rcases addAll_pt r (x.add i e) (i + 1) with h2 | h2
      · rw [h2, hp]; omega
      · omega

/-- Events within an attempt. -/
structure InE (x : Kn) (e : Ev) : Prop where
  kind : e.k = 2 ∨ e.k = 3 ∨ e.k = 4
  co : e.co = x.co
  bl : e.bl = x.bl
  tr : e.tr = x.tr
  ad : 0 ≤ e.ad
theorem InE.add {x : Kn} {e f : Ev} {i : Int} (h : InE x e) : InE (x.add i f) e :=
  ⟨h.kind, h.co.trans (x.add_keeps i f).1.symm, h.bl.trans (x.add_keeps i f).2.1.symm, h.tr.trans (x.add_keeps i f).2.2.1.symm, h.ad⟩

theorem go_att {c : Int} (hc : 0 ≤ c ∧ c < 4) : ∀ (es : List Ev) (x : Kn) (P : List Int) (i : Nat), x.co = c → (∀ e ∈ es, InE x e) →
    (⟨[x], P, Mp.none.put c 0⟩ : Rd).go i es = some ⟨[addAll x i es], P ++ List.replicate es.length 0, Mp.none.put c 0⟩
  | [], x, P, i, _, _ => by simp [Rd.go, addAll]
  | e :: r, x, P, i, hx, h => by
    have he := h e (List.mem_cons_self ..)
    have hec : e.co = c := he.co.trans hx
    have hput : (Mp.none.put c 0) c = some 0 := by simp [Mp.put]
    have hk7 : plainK e.k = false := by unfold plainK; rcases he.kind with h | h | h <;> rw [h] <;> rfl
    have hk1 : ¬ e.k = 1 := by rcases he.kind with h | h | h <;> omega
    have hk5 : ¬ e.k = 5 := by rcases he.kind with h | h | h <;> omega
    have hk6 : ¬ e.k = 6 := by rcases he.kind with h | h | h <;> omega
    have hmay : e.may = true := by
      unfold Ev.may
      rw [if_neg (by omega), if_neg (by omega), if_neg hk1]
      rcases he.kind with h | h | h
      · rw [if_pos h]; exact decide_eq_true he.ad
      · rw [if_neg (by omega), if_pos h]; exact decide_eq_true he.ad
      · rw [if_neg (by omega), if_neg (by omega), if_neg (by omega), if_neg (by omega), if_neg (by omega), if_pos h]
    have hfol : (⟨[x], P, Mp.none.put c 0⟩ : Rd).follows e = true := by
      unfold Rd.follows
      rw [if_neg hk1, if_neg (by rw [hk7]; decide)]
      rw [hec]
      simp [hput, Kn.has, he.bl, he.tr]
    have hst : (⟨[x], P, Mp.none.put c 0⟩ : Rd).step i e = ⟨[x.add i e], P ++ [0], Mp.none.put c 0⟩ := by
      unfold Rd.step Rd.ksAdd Rd.place passO
      simp only [hk7, hk1, hk5, hk6, if_false, Bool.false_eq_true, hec, hput]
      simp
    rw [Rd.go, if_pos (by unfold Rd.ok; rw [hmay, hfol]; rfl), hst, go_att hc r _ _ _ ((x.add_keeps i e).1.trans hx) (fun e' h' => (h e' (List.mem_cons_of_mem _ h')).add)]
    simp [addAll, List.replicate_succ]

/-- The moments of an attempt that is alone. -/
def mos (x : Kn) (i : Nat) : List Ev → List Mo
  | [] => []
  | e :: r => ⟨e, 0, if x.pt == (i : Int) then some x else none⟩ :: mos x (i + 1) r
theorem mos_at : ∀ (h : List Ev) (x : Kn) (i : Nat), mos x i h = (List.range h.length).map fun j => (⟨h.getD j Ev.zero, 0, if x.pt == ((i + j : Nat) : Int) then some x else none⟩ : Mo)
  | [], x, i => rfl
  | e :: r, x, i => by
    rw [mos, mos_at r x (i + 1), List.length_cons, List.range_succ_eq_map, List.map_cons, List.map_map]
    congr 1
    refine List.map_congr_left fun j _ => ?_
    simp only [Function.comp, List.getD_cons_succ, Nat.succ_eq_add_one]
    rw [show i + 1 + j = i + (j + 1) from by omega]
theorem moments_alone (h : List Ev) (x : Kn) (o : Mp) : moments h ⟨[x], List.replicate h.length 0, o⟩ = mos x 0 h := by
  rw [mos_at]
  unfold moments moAt moOf happens
  refine List.map_congr_left fun j hj => ?_
  have hj := List.mem_range.1 hj
  simp only [List.getD_eq_getElem?_getD, List.getElem?_replicate, hj, if_true, Option.getD_some, Nat.zero_add]
  simp

theorem judge_mos : ∀ (es : List Ev) (x : Kn) (m : Wd) (i : Nat), (∀ e ∈ es, e.k ≠ 7 ∧ e.k ≠ 8) →
    judgeFrom m i (mos x i es) = if ((i : Int) ≤ x.pt ∧ x.pt < (i : Int) + es.length) ∧ (!x.odd && m.has x.ld) = false then some x.pt.toNat else none
  | [], x, m, i, _ => by
    rw [mos, judgeFrom, if_neg]
    rintro ⟨⟨h1, h2⟩, _⟩
    simp at h2; omega
  | e :: r, x, m, i, h => by
    have he := h e (List.mem_cons_self ..)
    have ih := fun m => judge_mos r x m (i + 1) (fun e' h' => h e' (List.mem_cons_of_mem _ h'))
    rw [mos, judgeFrom]
    by_cases hp : x.pt = (i : Int)
    · have hpb : (x.pt == (i : Int)) = true := by simpa using hp
      rw [hpb]
      simp only [if_true, Wd.explains, if_neg he.1]
      cases hb : (!x.odd && m.has x.ld)
      · rw [if_neg (by simp), if_pos ⟨⟨by omega, by simp; omega⟩, rfl⟩, hp]; simp
      · rw [if_pos rfl, ih, if_neg (by rintro ⟨⟨h1, _⟩, _⟩; omega), if_neg (by simp)]
    · have hpb : (x.pt == (i : Int)) = false := by simpa using hp
      rw [hpb]
      simp only [Wd.explains, if_neg he.1, Bool.false_eq_true, if_false, if_true, Wd.pass, if_neg he.2]
      rw [ih]
      have e1 : (((i : Int) ≤ x.pt ∧ x.pt < (i : Int) + (e :: r).length) ∧ (!x.odd && m.has x.ld) = false) ↔ ((((i + 1 : Nat) : Int) ≤ x.pt ∧ x.pt < ((i + 1 : Nat) : Int) + r.length) ∧ (!x.odd && m.has x.ld) = false) := by
        simp only [List.length_cons]
        constructor
        · rintro ⟨⟨h1, h2⟩, h3⟩; exact ⟨⟨by omega, by omega⟩, h3⟩
        · rintro ⟨⟨h1, h2⟩, h3⟩; exact ⟨⟨by omega, by omega⟩, h3⟩
      simp only [e1]
theorem final_mos : ∀ (es : List Ev) (x : Kn) (m : Wd) (i : Nat), (∀ e ∈ es, e.k ≠ 7 ∧ e.k ≠ 8) →
    finalM m (mos x i es) = if ((i : Int) ≤ x.pt ∧ x.pt < (i : Int) + es.length) ∧ x.com = true then { m with later := Wd.puts m.later x.st } else m
  | [], x, m, i, _ => by
    rw [mos, finalM, List.foldl_nil, if_neg]
    rintro ⟨⟨h1, h2⟩, _⟩
    simp at h2; omega
  | e :: r, x, m, i, h => by
    have he := h e (List.mem_cons_self ..)
    have ih := fun m => final_mos r x m (i + 1) (fun e' h' => h e' (List.mem_cons_of_mem _ h'))
    have hf : finalM m (mos x i (e :: r)) = finalM (m.pass ⟨e, 0, if x.pt == (i : Int) then some x else none⟩) (mos x (i + 1) r) := rfl
    rw [hf, ih]
    by_cases hp : x.pt = (i : Int)
    · have hpb : (x.pt == (i : Int)) = true := by simpa using hp
      rw [hpb, if_neg (by rintro ⟨⟨h1, _⟩, _⟩; omega)]
      simp only [if_true, Wd.pass, if_neg he.2]
      have hR : (i : Int) ≤ x.pt ∧ x.pt < (i : Int) + (e :: r).length := ⟨by omega, by simp; omega⟩
      cases hc : x.com
      · simp
      · simp only [hR, and_self, if_true]
    · have hpb : (x.pt == (i : Int)) = false := by simpa using hp
      rw [hpb]
      simp only [Bool.false_eq_true, if_false, Wd.pass, if_neg he.2]
      have e1 : (((i : Int) ≤ x.pt ∧ x.pt < (i : Int) + (e :: r).length) ∧ x.com = true) ↔ ((((i + 1 : Nat) : Int) ≤ x.pt ∧ x.pt < ((i + 1 : Nat) : Int) + r.length) ∧ x.com = true) := by
        simp only [List.length_cons]
        constructor
        · rintro ⟨⟨h1, h2⟩, h3⟩; exact ⟨⟨by omega, by omega⟩, h3⟩
        · rintro ⟨⟨h1, h2⟩, h3⟩; exact ⟨⟨by omega, by omega⟩, h3⟩
      simp only [e1]

/-- One block's history: it begins, its accesses, its end. -/
theorem read_alone {b c : Ev} {es : List Ev} (hb : b.k = 1) (hc : c.k = 5 ∨ (c.k = 6 ∧ 1 ≤ c.cd ∧ c.cd ≤ 8)) (hco : 0 ≤ b.co ∧ b.co < 4) (hla : 1 ≤ b.la ∧ b.la ≤ 4) (hbl : 0 ≤ b.bl) (htr : 0 ≤ b.tr)
    (he : ∀ e ∈ es, InE (Kn.begun 0 b) e) (hcc : c.co = b.co ∧ c.bl = b.bl ∧ c.tr = b.tr) :
    ∃ o, readH (b :: (es ++ [c])) = some ⟨[addAll (Kn.begun 0 b) 1 (es ++ [c])], List.replicate (b :: (es ++ [c])).length 0, o⟩ := by
  have hm1 : b.may = true := by
    unfold Ev.may
    rw [if_neg (by omega), if_neg (by omega), if_pos hb]
    simp only [Bool.and_eq_true, decide_eq_true_eq]
    exact ⟨⟨⟨hla.1, hla.2⟩, hbl⟩, htr⟩
  have hf1 : Rd.zero.follows b = true := by unfold Rd.follows; rw [if_pos hb]; rfl
  have hst : Rd.zero.step 0 b = ⟨[Kn.begun 0 b], [0], Mp.none.put b.co 0⟩ := by
    unfold Rd.step Rd.ksAdd Rd.place passO
    simp [hb, plainK, Rd.zero]
  have hgo : readH (b :: (es ++ [c])) = (⟨[Kn.begun 0 b], [0], Mp.none.put b.co 0⟩ : Rd).go 1 (es ++ [c]) := by
    unfold readH
    rw [Rd.go, if_pos (by unfold Rd.ok; rw [hm1, hf1]; rfl)]
    exact congrArg (fun s => Rd.go s 1 (es ++ [c])) hst
  rw [hgo, go_append, go_att hco es (Kn.begun 0 b) [0] 1 rfl he]
  simp only [Option.bind_some]
  have hk := addAll_keeps es (Kn.begun 0 b) 1
  have hput : (Mp.none.put b.co 0) b.co = some 0 := by simp [Mp.put]
  have hk1 : ¬ c.k = 1 := by rcases hc with h | h <;> omega
  have hk7 : plainK c.k = false := by unfold plainK; rcases hc with h | h <;> simp [h]
  have hm2 : c.may = true := by
    unfold Ev.may
    rw [if_neg (by omega), if_neg (by omega), if_neg hk1]
    rcases hc with h | ⟨h, h2, h3⟩
    · rw [if_neg (by omega), if_neg (by omega), if_neg (by omega), if_neg (by omega), if_neg (by omega), if_neg (by omega), if_pos h]
    · rw [if_neg (by omega), if_neg (by omega), if_neg (by omega), if_neg (by omega), if_pos h]
      simp only [Bool.and_eq_true, decide_eq_true_eq]; exact ⟨h2, h3⟩
  have hf2 : (⟨[addAll (Kn.begun 0 b) 1 es], [0] ++ List.replicate es.length 0, Mp.none.put b.co 0⟩ : Rd).follows c = true := by
    unfold Rd.follows
    rw [if_neg hk1, if_neg (by rw [hk7]; decide), hcc.1]
    have e1 : (addAll (Kn.begun 0 b) 1 es).bl = b.bl := hk.2.1
    have e2 : (addAll (Kn.begun 0 b) 1 es).tr = b.tr := hk.2.2.1
    simp [hput, Kn.has, hcc.2.1, hcc.2.2, e1, e2]
  refine ⟨passO (Mp.none.put b.co 0) c 0, ?_⟩
  rw [Rd.go, if_pos (by unfold Rd.ok; rw [hm2, hf2]; rfl), Rd.go]
  unfold Rd.step Rd.ksAdd Rd.place
  simp only [hk7, hk1, if_false, Bool.false_eq_true, hcc.1, hput]
  rw [addAll_append]
  simp [addAll, List.replicate_succ]
  exact (List.replicate_succ' (n := es.length) (a := (0 : Int))).symm

end Go.Proofs.Ytgjbhcnadenojaa
