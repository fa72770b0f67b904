/- Pairs, lists of them, logs, as plain functions. No conditions. -/
import Derived.Test.YtgdfiggloifncaaB0
namespace Go.Proofs.Ytgdfiggloifncaa

/-- An address and a value. -/
structure Pr where
  a : Int
  v : Int
deriving DecidableEq
def Pr.zero : Pr := ⟨0, 0⟩
def Pr.cells (x : Pr) : List Value := [.int .i64 x.a, .int .u64 x.v]
def flatP (l : List Pr) : List Value := l.flatMap Pr.cells

/-- Where an address stands. -/
def posL (l : List Pr) (a : Int) : Option Nat := l.findIdx? (fun x => x.a == a)
def valL (l : List Pr) (a : Int) : Int := match posL l a with | none => 0 | some i => (l.getD i Pr.zero).v
def hasL (l : List Pr) (a : Int) : Bool := (posL l a).isSome

theorem posL_lt {l : List Pr} {a : Int} {i : Nat} (h : posL l a = some i) : i < l.length := by
  unfold posL at h; exact (List.findIdx?_eq_some_iff_getElem.1 h).1
theorem posL_at {l : List Pr} {a : Int} {i : Nat} (h : posL l a = some i) : ∃ x, l[i]? = some x ∧ x.a = a := by
  unfold posL at h
  obtain ⟨h1, h2, _⟩ := List.findIdx?_eq_some_iff_getElem.1 h
  exact ⟨l[i], List.getElem?_eq_getElem h1, by simpa using h2⟩
theorem posL_first {l : List Pr} {a : Int} {i : Nat} (h : posL l a = some i) {j : Nat} (hj : j < i) {y : Pr} (hy : l[j]? = some y) : y.a ≠ a := by
  unfold posL at h
  obtain ⟨h1, _, h3⟩ := List.findIdx?_eq_some_iff_getElem.1 h
  have := h3 j hj
  rw [List.getElem?_eq_getElem (by omega)] at hy
  cases hy
  simpa using this
theorem posL_none {l : List Pr} {a : Int} : posL l a = none ↔ ∀ x ∈ l, x.a ≠ a := by
  unfold posL; rw [List.findIdx?_eq_none_iff]; simp
theorem posL_snoc (l : List Pr) (y : Pr) (a : Int) : posL (l ++ [y]) a = match posL l a with | some i => some i | none => if y.a = a then some l.length else none := by
  unfold posL
  rw [List.findIdx?_append]
  cases h : l.findIdx? (fun x => x.a == a) with
  | some i => simp
  | none =>
    by_cases hy : y.a = a
    · simp [List.findIdx?_cons, hy]
    · simp [List.findIdx?_cons, hy]
theorem posL_set {l : List Pr} {i : Nat} {x : Pr} (h : l[i]? = some x) (v : Int) (a : Int) : posL (l.set i ⟨x.a, v⟩) a = posL l a := by
  have e : (l.set i ⟨x.a, v⟩).map (·.a) = l.map (·.a) := by
    rw [List.map_set]
    apply List.ext_getElem?
    intro j
    rw [List.getElem?_set]
    split
    · rename_i hj
      subst hj
      have hl := (List.getElem?_eq_some_iff.1 h).1
      obtain ⟨_, rfl⟩ := List.getElem?_eq_some_iff.1 h
      simp [hl]
    · rfl
  have k : ∀ m : List Pr, posL m a = (m.map (·.a)).findIdx? (· == a) := fun m => by
    unfold posL; rw [List.findIdx?_map]; rfl
  rw [k, k, e]

/-- A log. -/
structure Lg where
  r : List Pr
  w : List Pr
deriving DecidableEq
def Lg.zero : Lg := ⟨[], []⟩
def errRead (l : List Pr) (a : Int) : Int := if a < 0 then 2 else if (posL l a).isSome then 0 else if 128 ≤ l.length then 70 else 0
def readL (l : List Pr) (a v : Int) : List Pr := if a < 0 then l else if (posL l a).isSome then l else if 128 ≤ l.length then l else l ++ [⟨a, v⟩]
def writeL (l : List Pr) (a v : Int) : List Pr := if a < 0 then l else match posL l a with | some i => l.set i ⟨a, v⟩ | none => if 128 ≤ l.length then l else l ++ [⟨a, v⟩]
def Lg.read (f : Lg) (a v : Int) : Lg := { f with r := readL f.r a v }
def Lg.write (f : Lg) (a v : Int) : Lg := { f with w := writeL f.w a v }

/-- Is a read no longer so? -/
def offL (now : List Pr) (x : Pr) : Bool := match posL now x.a with | none => false | some i => (now.getD i Pr.zero).v != x.v
/-- The first read that is no longer so. -/
def brokenL (l now : List Pr) : Option Nat := l.findIdx? (offL now)

/-- Words that a machine has. -/
def Pr.fit (x : Pr) : Prop := (Lit.int .i64 x.a).wf = true ∧ (Lit.int .u64 x.v).wf = true
def FitL (l : List Pr) : Prop := ∀ x ∈ l, x.fit

theorem readL_fit {l : List Pr} (h : FitL l) {a v : Int} (ha : (Lit.int .i64 a).wf = true) (hv : (Lit.int .u64 v).wf = true) : FitL (readL l a v) := by
  unfold readL
  split
  · exact h
  · split
    · exact h
    · split
      · exact h
      · intro x hx
        rcases List.mem_append.1 hx with hx | hx
        · exact h x hx
        · rw [List.mem_singleton.1 hx]; exact ⟨ha, hv⟩
theorem writeL_fit {l : List Pr} (h : FitL l) {a v : Int} (ha : (Lit.int .i64 a).wf = true) (hv : (Lit.int .u64 v).wf = true) : FitL (writeL l a v) := by
  unfold writeL
  split
  · exact h
  · split
    · intro x hx
      rcases List.mem_or_eq_of_mem_set hx with hx | rfl
      · exact h x hx
      · exact ⟨ha, hv⟩
    · split
      · exact h
      · intro x hx
        rcases List.mem_append.1 hx with hx | hx
        · exact h x hx
        · rw [List.mem_singleton.1 hx]; exact ⟨ha, hv⟩
theorem readL_len {l : List Pr} (h : l.length ≤ 128) (a v : Int) : (readL l a v).length ≤ 128 := by
  unfold readL
  split
  · exact h
  · split
    · exact h
    · split
      · exact h
      · simp; omega
theorem writeL_len {l : List Pr} (h : l.length ≤ 128) (a v : Int) : (writeL l a v).length ≤ 128 := by
  unfold writeL
  split
  · exact h
  · split
    · simpa using h
    · split
      · exact h
      · simp; omega
theorem flatP_length (l : List Pr) : (flatP l).length = 2 * l.length := by
  induction l with
  | nil => rfl
  | cons x l ih => simp only [flatP, List.flatMap_cons, List.length_append, List.length_cons] at *; simp only [Pr.cells, List.length_cons, List.length_nil]; omega
theorem flatP_a {l : List Pr} {i : Nat} {x : Pr} (h : l[i]? = some x) : (flatP l)[2 * i]? = some (.int .i64 x.a) := by
  induction l generalizing i with
  | nil => simp at h
  | cons y l ih =>
    cases i with
    | zero => simp at h; subst h; rfl
    | succ i =>
      simp at h
      have := ih h
      rw [show 2 * (i + 1) = 2 * i + 2 from by omega]
      simpa [flatP, Pr.cells] using this
theorem flatP_v {l : List Pr} {i : Nat} {x : Pr} (h : l[i]? = some x) : (flatP l)[2 * i + 1]? = some (.int .u64 x.v) := by
  induction l generalizing i with
  | nil => simp at h
  | cons y l ih =>
    cases i with
    | zero => simp at h; subst h; rfl
    | succ i =>
      simp at h
      have := ih h
      rw [show 2 * (i + 1) + 1 = 2 * i + 1 + 2 from by omega]
      simpa [flatP, Pr.cells] using this
theorem flatP_set {l : List Pr} {i : Nat} {x : Pr} (h : l[i]? = some x) (v : Int) : (flatP l).set (2 * i + 1) (.int .u64 v) = flatP (l.set i ⟨x.a, v⟩) := by
  induction l generalizing i with
  | nil => simp at h
  | cons y l ih =>
    cases i with
    | zero => simp at h; subst h; rfl
    | succ i =>
      simp at h
      have := ih h
      rw [show 2 * (i + 1) + 1 = 2 * i + 1 + 2 from by omega]
      simpa [flatP, Pr.cells] using this
theorem flatP_snoc (l : List Pr) (x : Pr) : flatP (l ++ [x]) = flatP l ++ [.int .i64 x.a, .int .u64 x.v] := by simp [flatP, Pr.cells]

end Go.Proofs.Ytgdfiggloifncaa
