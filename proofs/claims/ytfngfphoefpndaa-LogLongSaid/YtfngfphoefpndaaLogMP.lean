/- What a log says of lists: plain facts. No conditions but those stated in each theorem. -/
import Derived.Test.YtfngfphoefpndaaLogL
namespace Go.Proofs.Ytfngfphoefpndaa

/-- Each address once. -/
def Once (l : List Pr) : Prop := ∀ (i j : Nat) (x y : Pr), l[i]? = some x → l[j]? = some y → x.a = y.a → i = j
theorem Once.nil : Once [] := fun i j x y h => by simp at h
theorem Once.snoc {l : List Pr} (h : Once l) {z : Pr} (hz : posL l z.a = none) : Once (l ++ [z]) := by
  have hn := posL_none.1 hz
  intro i j x y hx hy hxy
  rw [List.getElem?_append] at hx hy
  split at hx
  · split at hy
    · exact h i j x y hx hy hxy
    · have := List.mem_of_getElem? hx
      have e := List.mem_of_getElem? hy
      simp at e; subst e
      exact absurd hxy (hn x this)
  · split at hy
    · have := List.mem_of_getElem? hy
      have e := List.mem_of_getElem? hx
      simp at e; subst e
      exact absurd hxy.symm (hn y this)
    · have h1 := (List.getElem?_eq_some_iff.1 hx).1
      have h2 := (List.getElem?_eq_some_iff.1 hy).1
      simp at h1 h2; omega
theorem Once.set {l : List Pr} (h : Once l) {i : Nat} {z : Pr} (hz : l[i]? = some z) (v : Int) : Once (l.set i ⟨z.a, v⟩) := by
  have k : ∀ (j : Nat) (x : Pr), (l.set i ⟨z.a, v⟩)[j]? = some x → ∃ x', l[j]? = some x' ∧ x'.a = x.a := fun j x hx => by
    rw [List.getElem?_set] at hx
    split at hx
    · rename_i hij
      subst hij
      split at hx
      · cases hx; exact ⟨z, hz, rfl⟩
      · cases hx
    · exact ⟨x, hx, rfl⟩
  intro a b x y hx hy hxy
  obtain ⟨x', hx', ex⟩ := k a x hx
  obtain ⟨y', hy', ey⟩ := k b y hy
  exact h a b x' y' hx' hy' (by rw [ex, ey, hxy])
theorem readL_once {l : List Pr} (h : Once l) (a v : Int) : Once (readL l a v) := by
  unfold readL
  split
  · exact h
  · split
    · exact h
    · rename_i hp
      split
      · exact h
      · exact h.snoc (z := ⟨a, v⟩) (by simpa using hp)
theorem writeL_once {l : List Pr} (h : Once l) (a v : Int) : Once (writeL l a v) := by
  unfold writeL
  split
  · exact h
  · split
    · rename_i i hp
      obtain ⟨x, hx, rfl⟩ := posL_at hp
      exact h.set hx v
    · rename_i hp
      split
      · exact h
      · exact h.snoc (z := ⟨a, v⟩) hp
structure LO (f : Lg) : Prop where
  r : Once f.r
  w : Once f.w
theorem LO.zero : LO Lg.zero := ⟨Once.nil, Once.nil⟩
theorem LO.step {f : Lg} (h : LO f) (x : OpV) : LO (stepL f x) := by
  unfold stepL
  split
  · exact ⟨readL_once h.r _ _, h.w⟩
  · split
    · exact ⟨h.r, writeL_once h.w _ _⟩
    · split
      · exact LO.zero
      · exact h
theorem LO.play {f : Lg} (h : LO f) (xs : List OpV) : LO (playL f xs) := by
  induction xs generalizing f with
  | nil => exact h
  | cons x xs ih => exact ih (h.step x)

theorem brokenL_none {l now : List Pr} (h : ∀ x ∈ l, offL now x = false) : brokenL l now = none := by
  unfold brokenL; rw [List.findIdx?_eq_none_iff]; exact h
theorem brokenL_some {l now : List Pr} {n : Nat} {x : Pr} (hx : l[n]? = some x) (h1 : offL now x = true) (h2 : ∀ i y, i < n → l[i]? = some y → offL now y = false) : brokenL l now = some n := by
  unfold brokenL
  rw [List.findIdx?_eq_some_iff_getElem]
  obtain ⟨hi, rfl⟩ := List.getElem?_eq_some_iff.1 hx
  exact ⟨hi, h1, fun j hj => by rw [h2 j _ hj (List.getElem?_eq_getElem (by omega))]; simp⟩
theorem off_get {now : List Pr} {x p : Pr} {j : Nat} (hp : posL now x.a = some j) (hj : now[j]? = some p) : offL now x = (p.v != x.v) := by
  unfold offL; rw [hp]; simp [List.getD, hj]
theorem off_no {now : List Pr} {x : Pr} (hp : posL now x.a = none) : offL now x = false := by unfold offL; rw [hp]
theorem Once.eq {l : List Pr} (h : Once l) {x y : Pr} (hx : x ∈ l) (hy : y ∈ l) (e : x.a = y.a) : x = y := by
  obtain ⟨i, hi, rfl⟩ := List.mem_iff_getElem.1 hx
  obtain ⟨j, hj, rfl⟩ := List.mem_iff_getElem.1 hy
  have := h i j _ _ (List.getElem?_eq_getElem hi) (List.getElem?_eq_getElem hj) e
  subst this; rfl
theorem Once.pos {l : List Pr} (h : Once l) {i : Nat} {x : Pr} (hx : l[i]? = some x) : posL l x.a = some i := by
  cases hp : posL l x.a with
  | none => exact absurd rfl (posL_none.1 hp x (List.mem_of_getElem? hx))
  | some j =>
    obtain ⟨y, hy, e⟩ := posL_at hp
    rw [h j i y x hy hx e]
/-- By a part of its own reads a log is not broken. -/
theorem broken_part {l now : List Pr} (h : Once l) (hn : ∀ y ∈ now, y ∈ l) : brokenL l now = none := brokenL_none fun x hx => by
  cases hp : posL now x.a with
  | none => exact off_no hp
  | some j =>
    obtain ⟨p, hj, e⟩ := posL_at hp
    rw [off_get hp hj, h.eq (hn p (List.mem_of_getElem? hj)) hx e]; simp
/-- .. nor by what it did not read. -/
theorem broken_other {l now : List Pr} (hn : ∀ y ∈ now, hasL l y.a = false) : brokenL l now = none := brokenL_none fun x hx => by
  refine off_no (posL_none.2 fun y hy e => ?_)
  have h1 := hn y hy
  unfold hasL at h1
  cases hp : posL l y.a with
  | none => exact posL_none.1 hp x hx e.symm
  | some j => rw [hp] at h1; simp at h1
/-- .. nor where the right ones stand ahead. -/
theorem broken_ahead {l m : List Pr} (h : Once l) : brokenL l (l ++ m) = none := brokenL_none fun x hx => by
  obtain ⟨i, hi, rfl⟩ := List.mem_iff_getElem.1 hx
  have h1 := h.pos (List.getElem?_eq_getElem hi)
  have h2 : posL (l ++ m) l[i].a = some i := by
    unfold posL at *
    rw [List.findIdx?_append, h1]; rfl
  rw [off_get h2 (by rw [List.getElem?_append_left hi]; exact List.getElem?_eq_getElem hi)]; simp
/-- With one value turned it is, just there. -/
theorem broken_turned {l : List Pr} (h : Once l) {n : Nat} {x : Pr} (hx : l[n]? = some x) {v : Int} (hv : v ≠ x.v) : brokenL l (l.set n ⟨x.a, v⟩) = some n := by
  have hn := (List.getElem?_eq_some_iff.1 hx).1
  refine brokenL_some hx ?_ fun i y hi hy => ?_
  · rw [off_get (p := ⟨x.a, v⟩) (by rw [posL_set hx]; exact h.pos hx) (by simp [hn])]
    simpa using hv
  · rw [off_get (p := y) (by rw [posL_set hx]; exact h.pos hy) (by rw [List.getElem?_set_ne (by omega)]; exact hy)]
    simp
theorem broken_alone {l : List Pr} (h : Once l) {n : Nat} {x : Pr} (hx : l[n]? = some x) {v : Int} (hv : v ≠ x.v) : brokenL l [⟨x.a, v⟩] = some n := by
  refine brokenL_some hx ?_ fun i y hi hy => ?_
  · rw [off_get (p := ⟨x.a, v⟩) (j := 0) (by simp [posL, List.findIdx?_cons]) rfl]
    simpa using hv
  · refine off_no (posL_none.2 fun z hz e => ?_)
    rw [List.mem_singleton.1 hz] at e
    have := h i n y x hy hx e.symm
    omega
theorem broken_rest {l : List Pr} (h : Once l) {n : Nat} {p : Pr} : brokenL l ((l.set n p).drop (n + 1)) = none := broken_part h fun y hy => by
  rw [List.drop_set, if_pos (by omega)] at hy
  exact List.mem_of_mem_drop hy

end Go.Proofs.Ytfngfphoefpndaa
