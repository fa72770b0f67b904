/- A history in two parts, plainly. No conditions but those stated. -/
import Derived.Test.YtgjbhcnadenojaaHisQ
namespace Go.Proofs.Ytgjbhcnadenojaa

/-! ### What is open has not ended -/
structure RO (s : Rd) : Prop where
  o : ∀ a v, s.o a = some v → ∃ j : Nat, v = j ∧ ∃ x, s.ks[j]? = some x ∧ x.to_ = -1 ∧ x.co = a
theorem RO.zero : RO Rd.zero := ⟨fun _ _ h => (by cases h)⟩
theorem Kn.add_co (x : Kn) (i : Int) (e : Ev) : (x.add i e).co = x.co := by
  unfold Kn.add Kn.add0 Kn.load Kn.store
  repeat' split
  all_goals rfl
theorem Kn.add_to (x : Kn) (i : Int) (e : Ev) (h5 : e.k ≠ 5) (h6 : e.k ≠ 6) : (x.add i e).to_ = x.to_ := by
  unfold Kn.add Kn.add0 Kn.load Kn.store
  rw [if_neg h5, if_neg h6]
  repeat' split
  all_goals rfl
theorem RO.step {s : Rd} (h : RO s) {e : Ev} (hk : s.ok e = true) (i : Int) : RO (s.step i e) := by
  refine ⟨fun a v hv => ?_⟩
  unfold Rd.step at hv ⊢
  simp only at hv ⊢
  by_cases hp : plainK e.k = true
  · have h1 : e.k ≠ 1 := fun e1 => by rw [e1] at hp; cases hp
    have h5 : e.k ≠ 5 := fun e1 => by rw [e1] at hp; cases hp
    have h6 : e.k ≠ 6 := fun e1 => by rw [e1] at hp; cases hp
    unfold passO at hv
    rw [if_neg h1, if_neg h5, if_neg h6] at hv
    unfold Rd.ksAdd
    rw [if_pos hp]
    exact h.o a v hv
  · have hpf : plainK e.k = false := by simpa using hp
    by_cases h1 : e.k = 1
    · unfold passO at hv
      rw [if_pos h1] at hv
      unfold Rd.ksAdd
      rw [if_neg hp, if_pos h1]
      unfold Mp.put at hv
      split at hv
      · rename_i ha
        simp only [Rd.place, if_neg hp, if_pos h1, Option.some.injEq] at hv
        exact ⟨s.ks.length, hv.symm, Kn.begun i e, by simp, rfl, by rw [ha]; rfl⟩
      · obtain ⟨j, hj, x, hx, h2, h3⟩ := h.o a v hv
        exact ⟨j, hj, x, by rw [List.getElem?_append_left (List.getElem?_eq_some_iff.1 hx).1]; exact hx, h2, h3⟩
    · obtain ⟨vc, hvc⟩ := Option.isSome_iff_exists.1 (Rd.ok_open hk hpf h1)
      obtain ⟨jc, rfl, xc, hxc, hc1, hc2⟩ := h.o _ _ hvc
      have hold : ∀ a v, a ≠ e.co → s.o a = some v → ∃ j : Nat, v = j ∧ ∃ x, (s.ksAdd i e)[j]? = some x ∧ x.to_ = -1 ∧ x.co = a := fun a v hne hv => by
        obtain ⟨j, hj, x, hx, h2, h3⟩ := h.o a v hv
        refine ⟨j, hj, x, ?_, h2, h3⟩
        unfold Rd.ksAdd
        rw [if_neg hp, if_neg h1, hvc]
        simp only [Option.getD_some, Int.toNat_natCast]
        rw [List.getElem?_set]
        split
        · rename_i hjj
          subst hjj
          rw [hx] at hxc
          cases hxc
          exact absurd (h3.symm.trans hc2) hne
        · exact hx
      unfold passO at hv
      rw [if_neg h1] at hv
      by_cases h5 : e.k = 5
      · rw [if_pos h5] at hv
        unfold Mp.del at hv
        split at hv
        · cases hv
        · rename_i hne; exact hold a v hne hv
      · rw [if_neg h5] at hv
        by_cases h6 : e.k = 6
        · rw [if_pos h6] at hv
          unfold Mp.del at hv
          split at hv
          · cases hv
          · rename_i hne; exact hold a v hne hv
        · rw [if_neg h6] at hv
          by_cases hne : a = e.co
          · subst hne
            rw [hvc] at hv
            cases hv
            refine ⟨jc, rfl, xc.add i e, ?_, by rw [Kn.add_to _ _ _ h5 h6]; exact hc1, by rw [Kn.add_co]; exact hc2⟩
            unfold Rd.ksAdd
            rw [if_neg hp, if_neg h1, hvc]
            simp only [Option.getD_some, Int.toNat_natCast]
            rw [List.getElem?_set_self (List.getElem?_eq_some_iff.1 hxc).1, List.getD_eq_getElem?_getD, hxc]
            rfl
          · exact hold a v hne hv
theorem go_RO : ∀ (h : List Ev) (s s' : Rd) (i : Nat), s.go i h = some s' → RO s → RO s'
  | [], s, s', i, hs, hr => by rw [Rd.go] at hs; cases hs; exact hr
  | e :: r, s, s', i, hs, hr => by
    rw [Rd.go] at hs
    split at hs
    · rename_i hk; exact go_RO r _ _ _ hs (hr.step hk _)
    · cases hs
/-- All have ended: none is open. -/
theorem over_none {s : Rd} (h : RO s) (ho : ∀ x ∈ s.ks, ¬ x.to_ < 0) (a : Int) : s.o a = none := by
  cases hv : s.o a with
  | none => rfl
  | some v =>
    obtain ⟨j, rfl, x, hx, h1, -⟩ := h.o a v hv
    exact absurd (by rw [h1]; decide) (ho x (List.mem_of_getElem? hx))

/-! ### Reading on -/
theorem go_append : ∀ (a b : List Ev) (s : Rd) (i : Nat), s.go i (a ++ b) = (s.go i a).bind fun t => t.go (i + a.length) b
  | [], b, s, i => by simp [Rd.go]
  | e :: r, b, s, i => by
    simp only [List.cons_append, Rd.go]
    split
    · rw [go_append r b, List.length_cons, show i + 1 + r.length = i + (r.length + 1) from by omega]
    · rfl
def shI (n v : Int) : Int := if v = -1 then -1 else v + n
/-- An attempt, n events on. -/
def Kn.sh (n : Int) (x : Kn) : Kn := { x with fr := x.fr + n, pt := shI n x.pt, to_ := shI n x.to_ }
theorem sh_begun (n i : Int) (e : Ev) : (Kn.begun i e).sh n = Kn.begun (i + n) e := rfl
theorem shI_of {n i : Int} (h : 0 ≤ i) : shI n i = i + n := by unfold shI; rw [if_neg (by omega)]
theorem sh_add (n : Int) (i : Int) (hi : 0 ≤ i) (x : Kn) (e : Ev) : (x.sh n).add (i + n) e = (x.add i e).sh n := by
  have hl : ∀ p, (x.sh n).load p = (x.load p).sh n := fun p => by
    unfold Kn.load
    show (match posL x.st p.a with | some _ => x.sh n | none => match posL x.ld p.a with | none => _ | some j => if (x.ld.getD j Pr.zero).v = p.v then _ else _) = _
    cases posL x.st p.a with
    | some _ => rfl
    | none =>
      cases posL x.ld p.a with
      | none => rfl
      | some j => simp only; split <;> rfl
  have hs : ∀ p, (x.sh n).store p = (x.store p).sh n := fun p => by
    unfold Kn.store
    show (match posL x.st p.a with | none => _ | some j => _) = _
    cases posL x.st p.a <;> rfl
  have h0 : (x.sh n).add0 (i + n) e = (x.add0 i e).sh n := by
    unfold Kn.add0
    split
    · exact hl _
    · split
      · exact hs _
      · split
        · unfold Kn.sh; rw [← shI_of (n := n) hi]
        · split
          · unfold Kn.sh; rw [← shI_of (n := n) hi]
          · rfl
  unfold Kn.add
  rw [h0]
  have hm : ((x.add0 i e).sh n).may e.k = (x.add0 i e).may e.k := rfl
  rw [hm]
  split
  · unfold Kn.sh; rw [← shI_of (n := n) hi]
  · rfl
/-- Two states of reading: one behind K, P. -/
structure Sim (K : List Kn) (P : List Int) (n : Int) (s t : Rd) : Prop where
  ks : s.ks = K ++ t.ks.map (Kn.sh n)
  pl : s.pl = P ++ t.pl.map (shI K.length)
  o : ∀ a, s.o a = (t.o a).map fun v : Int => v + ((K.length : Nat) : Int)
  ob : ∀ a v, t.o a = some v → ∃ j : Nat, v = j ∧ j < t.ks.length
theorem Sim.get {K : List Kn} {P : List Int} {n : Int} {s t : Rd} (h : Sim K P n s t) {j : Nat} (hj : j < t.ks.length) : s.ks.getD ((j : Int) + K.length).toNat Kn.zero = (t.ks.getD j Kn.zero).sh n := by
  rw [h.ks, show ((j : Int) + (K.length : Nat)).toNat = K.length + j from by omega, List.getD_eq_getElem?_getD, List.getElem?_append_right (by omega), show K.length + j - K.length = j from by omega, List.getElem?_map, List.getElem?_eq_getElem hj, List.getD_eq_getElem?_getD, List.getElem?_eq_getElem hj]
  rfl
theorem Sim.ok {K : List Kn} {P : List Int} {n : Int} {s t : Rd} (h : Sim K P n s t) (e : Ev) : s.ok e = t.ok e := by
  unfold Rd.ok Rd.follows
  rw [h.o]
  cases ho : t.o e.co with
  | none => rfl
  | some v =>
    obtain ⟨j, rfl, hj⟩ := h.ob _ _ ho
    simp only [Option.map_some, Option.isSome_some, Option.getD_some]
    rw [h.get hj, Int.toNat_natCast]
    rfl
theorem Sim.step {K : List Kn} {P : List Int} {n : Int} {s t : Rd} (h : Sim K P n s t) {e : Ev} (hk : t.ok e = true) {i : Int} (hi : 0 ≤ i) : Sim K P n (s.step (i + n) e) (t.step i e) := by
  have hlen : s.ks.length = K.length + t.ks.length := by rw [h.ks]; simp
  have hplace : s.place e = shI K.length (t.place e) := by
    unfold Rd.place
    by_cases hp : plainK e.k = true
    · rw [if_pos hp, if_pos hp]; rfl
    · rw [if_neg hp, if_neg hp]
      by_cases h1 : e.k = 1
      · rw [if_pos h1, if_pos h1, hlen, shI_of (by omega)]; omega
      · rw [if_neg h1, if_neg h1]
        obtain ⟨v, hv⟩ := Option.isSome_iff_exists.1 (Rd.ok_open hk (by simpa using hp) h1)
        obtain ⟨j, rfl, hj⟩ := h.ob _ _ hv
        rw [h.o, hv]
        simp only [Option.map_some, Option.getD_some]
        rw [shI_of (by omega)]
  have hks : s.ksAdd (i + n) e = K ++ (t.ksAdd i e).map (Kn.sh n) := by
    unfold Rd.ksAdd
    by_cases hp : plainK e.k = true
    · rw [if_pos hp, if_pos hp]; exact h.ks
    · rw [if_neg hp, if_neg hp]
      by_cases h1 : e.k = 1
      · rw [if_pos h1, if_pos h1, h.ks, List.map_append, List.append_assoc]
        simp [sh_begun]
      · rw [if_neg h1, if_neg h1]
        obtain ⟨v, hv⟩ := Option.isSome_iff_exists.1 (Rd.ok_open hk (by simpa using hp) h1)
        obtain ⟨j, rfl, hj⟩ := h.ob _ _ hv
        rw [h.o, hv]
        simp only [Option.map_some, Option.getD_some]
        rw [h.get hj, sh_add n i hi, Int.toNat_natCast, h.ks, show ((j : Int) + (K.length : Nat)).toNat = K.length + j from by omega, List.set_append_right _ _ (by omega), show K.length + j - K.length = j from by omega, List.map_set]
  refine ⟨hks, ?_, fun a => ?_, fun a v hv => ?_⟩
  · show s.pl ++ [s.place e] = P ++ (t.pl ++ [t.place e]).map (shI K.length)
    rw [h.pl, hplace, List.map_append, List.append_assoc]; rfl
  · show passO s.o e (s.place e) a = (passO t.o e (t.place e) a).map fun v : Int => v + ((K.length : Nat) : Int)
    unfold passO
    by_cases h1 : e.k = 1
    · rw [if_pos h1, if_pos h1]
      unfold Mp.put
      split
      · rw [hplace, show t.place e = (t.ks.length : Nat) from by simp [Rd.place, h1, (by decide : plainK 1 = false)], shI_of (by omega)]; rfl
      · exact h.o a
    · rw [if_neg h1, if_neg h1]
      by_cases h5 : e.k = 5
      · rw [if_pos h5, if_pos h5]; unfold Mp.del; split
        · rfl
        · exact h.o a
      · rw [if_neg h5, if_neg h5]
        by_cases h6 : e.k = 6
        · rw [if_pos h6, if_pos h6]; unfold Mp.del; split
          · rfl
          · exact h.o a
        · rw [if_neg h6, if_neg h6]; exact h.o a
  · have hgrow : t.ks.length ≤ (t.ksAdd i e).length := by
      unfold Rd.ksAdd
      split
      · exact Nat.le_refl _
      · split <;> simp
    have old : ∀ v, t.o a = some v → ∃ j : Nat, v = j ∧ j < (t.ksAdd i e).length := fun v hv => by
      obtain ⟨j, hj, hl⟩ := h.ob _ _ hv
      exact ⟨j, hj, Nat.lt_of_lt_of_le hl hgrow⟩
    change passO t.o e (t.place e) a = some v at hv
    show ∃ j : Nat, v = j ∧ j < (t.ksAdd i e).length
    unfold passO at hv
    by_cases h1 : e.k = 1
    · rw [if_pos h1] at hv
      unfold Mp.put at hv
      split at hv
      · have hp1 : plainK e.k = false := by rw [h1]; rfl
        simp only [Rd.place, hp1, if_pos h1, Bool.false_eq_true, if_false, Option.some.injEq] at hv
        refine ⟨t.ks.length, hv.symm, ?_⟩
        unfold Rd.ksAdd
        rw [hp1, if_neg (by simp), if_pos h1]; simp
      · exact old v hv
    · rw [if_neg h1] at hv
      by_cases h5 : e.k = 5
      · rw [if_pos h5] at hv; unfold Mp.del at hv; split at hv
        · cases hv
        · exact old v hv
      · rw [if_neg h5] at hv
        by_cases h6 : e.k = 6
        · rw [if_pos h6] at hv; unfold Mp.del at hv; split at hv
          · cases hv
          · exact old v hv
        · rw [if_neg h6] at hv; exact old v hv
theorem sim_go {K : List Kn} {P : List Int} {n : Nat} : ∀ (h : List Ev) (s t t' : Rd) (i : Nat), Sim K P n s t → t.go i h = some t' → ∃ s', s.go (n + i) h = some s' ∧ Sim K P n s' t'
  | [], s, t, t', i, hs, hg => by rw [Rd.go] at hg; cases hg; exact ⟨s, rfl, hs⟩
  | e :: r, s, t, t', i, hs, hg => by
    rw [Rd.go] at hg
    split at hg
    · rename_i hk
      have h1 := hs.step hk (i := (i : Int)) (by omega)
      obtain ⟨s', h2, h3⟩ := sim_go r _ _ t' (i + 1) h1 hg
      refine ⟨s', ?_, h3⟩
      rw [Rd.go, hs.ok, if_pos hk, show (((n + i : Nat)) : Int) = (i : Int) + (n : Nat) from by omega]
      exact h2
    · cases hg

end Go.Proofs.Ytgjbhcnadenojaa
