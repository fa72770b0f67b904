/- What a Fill leaves of what was held: plain facts. Conditions: those stated in each theorem. -/
import Derived.Test.YtimoaiebikoojaaInv
namespace Go.Proofs.Ytimoaiebikoojaa

section
variable {n ways : Nat} {s : Sets} {u : Int}
/-- What a Fill answered, and what became of the entries. -/
structure FillV (n ways : Nat) (s : Sets) (r : Sets × Int × Value) (was : Ent) (had : Bool) (f : Int) : Prop where
  ans : r.2.2 = .tuple #[.agg was.cells.toArray, .bool had, .int .i64 f]
  each : ∀ e ∈ entries s ways n, (had = true ∧ was = e ∧ Finds r.1 e.line = none ∧ e.read = false ∧ e.write = false ∧ f = 0) ∨ ((had = true → was ≠ e) ∧ ∃ i j, Finds r.1 e.line = some (i, j) ∧ getE r.1 i j = e)

theorem fill_view (hn : 1 ≤ n) (h : Inv n ways s u) (h0 : 0 ≤ u) (k st : Int) (d : L8) : ∃ was had f, FillV n ways s (fillL s u k st d) was had f := by
  have same : ∀ e ∈ entries s ways n, ∃ i j, Finds s e.line = some (i, j) ∧ getE s i j = e := fun e he => by
    obtain ⟨i, j, _, _, hs, rfl⟩ := mem_entries.1 he
    exact ⟨i, j, h.finds_of hn hs, rfl⟩
  have keep : ∀ f, FillV n ways s (s, u, .tuple #[.agg Ent.zero.cells.toArray, .bool false, .int .i64 f]) Ent.zero false f := fun f => ⟨rfl, fun e he => .inr ⟨(fun h => by cases h), same e he⟩⟩
  have hg := h.fillL hn h0 k st d
  unfold Go.Proofs.Ytimoaiebikoojaa.fillL at hg ⊢
  split
  · exact ⟨_, _, _, keep 2⟩
  · rename_i hk
    split
    · exact ⟨_, _, _, keep 21⟩
    · rename_i hf
      split
      · exact ⟨_, _, _, keep 22⟩
      · rename_i i0 j0 hgo
        rw [if_neg hk, hf] at hg
        simp only [hgo] at hg
        obtain ⟨_, hil, hjl, hmk, _⟩ := h.goes_some hn hgo
        have g := h.getE_upd hil hjl (Ent.fresh k st d (u + 1))
        refine ⟨getE s i0 j0, (getE s i0 j0).state != 0, 0, rfl, fun e he => ?_⟩
        obtain ⟨i, j, hi, hj, hs, rfl⟩ := mem_entries.1 he
        by_cases hc : i = i0 ∧ j = j0
        · obtain ⟨rfl, rfl⟩ := hc
          refine .inl ⟨by simpa using hs, rfl, ?_, ?_, ?_, rfl⟩
          · cases hx : Finds (Go.Proofs.Ytimoaiebikoojaa.upd s i j (Ent.fresh k st d (u + 1))) (getE s i j).line with
            | none => rfl
            | some x =>
              obtain ⟨i', j'⟩ := x
              obtain ⟨_, _, _, _, h5, h6⟩ := hg.finds_some hn hx
              simp only [g] at h5 h6
              split at h6
              · exact absurd h6.symm (h.finds_none hf hs)
              · rename_i hne
                rw [if_neg hne] at h5
                have m1 := (h.mod i j hs).2
                have m2 := (h.mod i' j' h5).2
                rw [h6, m1] at m2
                subst m2
                exact absurd ⟨rfl, h.once i j' j h5 hs h6⟩ hne
          · have := hmk; unfold Ent.marked at this; exact (Bool.or_eq_false_iff.1 this).1
          · have := hmk; unfold Ent.marked at this; exact (Bool.or_eq_false_iff.1 this).2
        · refine .inr ⟨fun hh he => hc ?_, i, j, ?_, ?_⟩
          · have hs0 : (getE s i0 j0).state ≠ 0 := by simpa using hh
            have := h.apart i j i0 j0 hs hs0 (by rw [he])
            exact this
          · have := hg.finds_of hn (i := i) (j := j) (by simp only [g]; rw [if_neg hc]; exact hs)
            simp only [g] at this
            rwa [if_neg hc] at this
          · simp only [g]; rw [if_neg hc]

/-- How many of them belong to the set of that line. -/
def manyIn (n : Nat) (x : Ent) (es : List Ent) : Nat := (es.filter fun e => decide (e.line % (n : Int) = x.line % (n : Int))).length
theorem manyIn_take (n : Nat) (x : Ent) (es : List Ent) {k : Nat} {e : Ent} (h : es[k]? = some e) : manyIn n x (es.take (k + 1)) = manyIn n x (es.take k) + if e.line % (n : Int) = x.line % (n : Int) then 1 else 0 := by
  unfold manyIn
  rw [List.take_add_one, h, List.filter_append, List.length_append]
  congr 1
  by_cases hc : e.line % (n : Int) = x.line % (n : Int) <;> simp [hc]
theorem manyIn_le (n : Nat) (x : Ent) (es : List Ent) : manyIn n x es ≤ es.length := List.length_filter_le _ _
theorem Inv.many_le (h : Inv n ways s u) {es : List Ent} (hp : es.Perm (entries s ways n)) {x : Ent} (hx : x ∈ es) : manyIn n x es ≤ ways := by
  obtain ⟨i, j, _, _, hs, rfl⟩ := mem_entries.1 (hp.mem_iff.1 hx)
  obtain ⟨m0, _⟩ := h.mod i j hs
  obtain ⟨m, hm⟩ := Int.eq_ofNat_of_zero_le m0
  have h1 := h.row_le (m % n)
  rw [← ((hp.filter _).length_eq)] at h1
  unfold manyIn
  rw [hm]
  refine Nat.le_trans (Nat.le_of_eq (congrArg _ (List.filter_congr fun e _ => ?_))) h1
  rw [Int.natCast_emod]
theorem Inv.ent_ok (h : Inv n ways s u) {es : List Ent} (hp : es.Perm (entries s ways n)) {x : Ent} (hx : x ∈ es) : 0 ≤ x.line ∧ (x.state = 1 ∨ x.state = 2) := by
  obtain ⟨i, j, _, _, hs, rfl⟩ := mem_entries.1 (hp.mem_iff.1 hx)
  exact ⟨(h.mod i j hs).1, h.st i j hs⟩
end

end Go.Proofs.Ytimoaiebikoojaa
