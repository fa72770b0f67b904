/- What reads and writes, done twice, leave. Conditions: those stated in each theorem. -/
import Derived.Test.YtfngfphoefpndaaLogJ
namespace Go.Proofs.Ytfngfphoefpndaa
open Go.RowKit Go.BigFrame Go.Maps

theorem Came.below {w w' : World} {a : Option Addr} {len : Nat} {ks : List CK} (h : Came w a len ks) (hb : Below w.heap.size w w') : Came w' a len ks := fun i hi j c hc => by
  obtain ⟨b, rfl, v, hv, hf⟩ := h i hi j c hc
  exact ⟨b, rfl, v, (hb.cell (World.block_lt_of_cell? _ _ hv)).trans hv, hf⟩
theorem OpV.ok.below {w w' : World} {x : OpV} (h : x.ok w) (hb : Below w.heap.size w w') : x.ok w' := ⟨h.1, h.2.1, h.2.2.below hb⟩
theorem OpsIn.below {w w' : World} {a : Option Addr} {xs : List OpV} (h : OpsIn w a xs) (hb : Below w.heap.size w w') : OpsIn w' a xs := ⟨h.1.below hb, fun x hx => (h.2 x hx).below hb⟩

/-- No address below 0. -/
def NoNeg (l : List Pr) : Prop := ∀ x ∈ l, 0 ≤ x.a
theorem readL_nn {l : List Pr} (h : NoNeg l) (a v : Int) : NoNeg (readL l a v) := by
  unfold readL
  split
  · exact h
  · split
    · exact h
    · split
      · exact h
      · intro x hx
        rcases List.mem_append.1 hx with hx | hx
        · exact h x hx
        · rw [List.mem_singleton.1 hx]; simp only; omega
theorem writeL_nn {l : List Pr} (h : NoNeg l) (a v : Int) : NoNeg (writeL l a v) := by
  unfold writeL
  split
  · exact h
  · split
    · intro x hx
      rcases List.mem_or_eq_of_mem_set hx with hx | rfl
      · exact h x hx
      · simp only; omega
    · split
      · exact h
      · intro x hx
        rcases List.mem_append.1 hx with hx | hx
        · exact h x hx
        · rw [List.mem_singleton.1 hx]; simp only; omega
theorem nn_none {l : List Pr} (h : NoNeg l) {a : Int} (ha : a < 0) : posL l a = none := posL_none.2 (fun x hx => by have := h x hx; omega)
/-- What all calls keep. -/
structure LI (f : Lg) : Prop where
  r : NoNeg f.r
  w : NoNeg f.w
  lr : f.r.length ≤ 128
  lw : f.w.length ≤ 128
theorem LI.zero : LI Lg.zero := ⟨fun x h => (by cases h), fun x h => (by cases h), by decide, by decide⟩
theorem LI.read {f : Lg} (h : LI f) (a v : Int) : LI (f.read a v) := ⟨readL_nn h.r a v, h.w, readL_len h.lr a v, h.lw⟩
theorem LI.write {f : Lg} (h : LI f) (a v : Int) : LI (f.write a v) := ⟨h.r, writeL_nn h.w a v, h.lr, writeL_len h.lw a v⟩
theorem LI.step {f : Lg} (h : LI f) (x : OpV) : LI (stepL f x) := by
  unfold stepL
  split
  · exact h.read _ _
  · split
    · exact h.write _ _
    · split
      · exact LI.zero
      · exact h
theorem LI.play {f : Lg} (h : LI f) (xs : List OpV) : LI (playL f xs) := by
  induction xs generalizing f with
  | nil => exact h
  | cons x xs ih => exact ih (h.step x)

theorem read_twice {f : Lg} (h : LI f) (A V V2 : Int) : ((f.read A V).read A V2).w = f.w ∧ errRead (f.read A V).r A = errRead f.r A ∧
    ((hasL f.r A = true ∧ errRead f.r A = 0 ∧ hasL ((f.read A V).read A V2).r A = true ∧ valL ((f.read A V).read A V2).r A = valL f.r A ∧ ((f.read A V).read A V2).r.length = f.r.length) ∨
     (hasL f.r A = false ∧ A < 0 ∧ errRead f.r A = 2 ∧ hasL ((f.read A V).read A V2).r A = false ∧ ((f.read A V).read A V2).r.length = f.r.length) ∨
     (hasL f.r A = false ∧ 0 ≤ A ∧ f.r.length = 128 ∧ errRead f.r A = 70 ∧ hasL ((f.read A V).read A V2).r A = false ∧ ((f.read A V).read A V2).r.length = 128) ∨
     (hasL f.r A = false ∧ errRead f.r A = 0 ∧ hasL ((f.read A V).read A V2).r A = true ∧ valL ((f.read A V).read A V2).r A = V ∧ ((f.read A V).read A V2).r.length = f.r.length + 1)) := by
  refine ⟨rfl, ?_⟩
  simp only [Lg.read]
  by_cases hA : A < 0
  · have hn := nn_none h.r hA
    have e1 : ∀ v, readL f.r A v = f.r := fun v => by simp [readL, hA]
    simp only [e1]
    exact ⟨trivial, .inr (.inl ⟨by simp [hasL, hn], hA, by simp [errRead, hA], by simp [hasL, hn], trivial⟩)⟩
  cases hp : posL f.r A with
  | some i =>
    have e1 : ∀ v, readL f.r A v = f.r := fun v => by simp [readL, hA, hp]
    simp only [e1]
    exact ⟨trivial, .inl ⟨by simp [hasL, hp], by simp [errRead, hA, hp], by simp [hasL, hp], trivial, trivial⟩⟩
  | none =>
    by_cases hl : 128 ≤ f.r.length
    · have e1 : ∀ v, readL f.r A v = f.r := fun v => by simp [readL, hA, hp, hl]
      have := h.lr
      simp only [e1]
      exact ⟨trivial, .inr (.inr (.inl ⟨by simp [hasL, hp], by omega, by omega, by simp [errRead, hA, hp, hl], by simp [hasL, hp], by omega⟩))⟩
    · have e1 : ∀ v, readL f.r A v = f.r ++ [⟨A, v⟩] := fun v => by simp [readL, hA, hp, hl]
      have hp2 : posL (f.r ++ [⟨A, V⟩]) A = some f.r.length := by rw [posL_snoc, hp]; simp
      have e2 : ∀ v, readL (f.r ++ [⟨A, V⟩]) A v = f.r ++ [⟨A, V⟩] := fun v => by simp [readL, hA, hp2]
      simp only [e1, e2]
      exact ⟨by simp [errRead, hA, hp2, hp, hl], .inr (.inr (.inr ⟨by simp [hasL, hp], by simp [errRead, hA, hp, hl], by simp [hasL, hp2], by simp [valL, hp2], by simp⟩))⟩

theorem write_twice {f : Lg} (h : LI f) (A V V2 : Int) : ((f.write A V).write A V2).r = f.r ∧ errRead (f.write A V).w A = errRead f.w A ∧
    ((hasL f.w A = true ∧ errRead f.w A = 0 ∧ hasL ((f.write A V).write A V2).w A = true ∧ valL ((f.write A V).write A V2).w A = V2 ∧ ((f.write A V).write A V2).w.length = f.w.length) ∨
     (hasL f.w A = false ∧ A < 0 ∧ errRead f.w A = 2 ∧ hasL ((f.write A V).write A V2).w A = false ∧ ((f.write A V).write A V2).w.length = f.w.length) ∨
     (hasL f.w A = false ∧ 0 ≤ A ∧ f.w.length = 128 ∧ errRead f.w A = 70 ∧ hasL ((f.write A V).write A V2).w A = false ∧ ((f.write A V).write A V2).w.length = 128) ∨
     (hasL f.w A = false ∧ errRead f.w A = 0 ∧ hasL ((f.write A V).write A V2).w A = true ∧ valL ((f.write A V).write A V2).w A = V2 ∧ ((f.write A V).write A V2).w.length = f.w.length + 1)) := by
  refine ⟨rfl, ?_⟩
  simp only [Lg.write]
  by_cases hA : A < 0
  · have hn := nn_none h.w hA
    have e1 : ∀ v, writeL f.w A v = f.w := fun v => by simp [writeL, hA]
    simp only [e1]
    exact ⟨trivial, .inr (.inl ⟨by simp [hasL, hn], hA, by simp [errRead, hA], by simp [hasL, hn], trivial⟩)⟩
  cases hp : posL f.w A with
  | some i =>
    obtain ⟨x, hx, rfl⟩ := posL_at hp
    have hi := posL_lt hp
    have e1 : ∀ v, writeL f.w x.a v = f.w.set i ⟨x.a, v⟩ := fun v => by simp [writeL, hA, hp]
    have hp2 : posL (f.w.set i ⟨x.a, V⟩) x.a = some i := by rw [posL_set hx]; exact hp
    have e2 : ∀ v, writeL (f.w.set i ⟨x.a, V⟩) x.a v = f.w.set i ⟨x.a, v⟩ := fun v => by simp [writeL, hA, hp2]
    have hp3 : posL (f.w.set i ⟨x.a, V2⟩) x.a = some i := by rw [posL_set hx]; exact hp
    simp only [e1, e2]
    exact ⟨by simp [errRead, hA, hp2, hp], .inl ⟨by simp [hasL, hp], by simp [errRead, hA, hp], by simp [hasL, hp3], by simp [valL, hp3, hi], by simp⟩⟩
  | none =>
    by_cases hl : 128 ≤ f.w.length
    · have e1 : ∀ v, writeL f.w A v = f.w := fun v => by simp [writeL, hA, hp, hl]
      have := h.lw
      simp only [e1]
      exact ⟨trivial, .inr (.inr (.inl ⟨by simp [hasL, hp], by omega, by omega, by simp [errRead, hA, hp, hl], by simp [hasL, hp], by omega⟩))⟩
    · have e1 : ∀ v, writeL f.w A v = f.w ++ [⟨A, v⟩] := fun v => by simp [writeL, hA, hp, hl]
      have hp2 : ∀ v, posL (f.w ++ [⟨A, v⟩]) A = some f.w.length := fun v => by rw [posL_snoc, hp]; simp
      have e2 : ∀ v, writeL (f.w ++ [⟨A, V⟩]) A v = f.w ++ [⟨A, v⟩] := fun v => by simp [writeL, hA, hp2]
      simp only [e1, e2]
      exact ⟨by simp [errRead, hA, hp2, hp, hl], .inr (.inr (.inr ⟨by simp [hasL, hp], by simp [errRead, hA, hp, hl], by simp [hasL, hp2], by simp [valL, hp2], by simp⟩))⟩

end Go.Proofs.Ytfngfphoefpndaa
