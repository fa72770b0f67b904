/- What a Discard brings back: plain facts. Conditions: those stated in each theorem. -/
import Derived.Test.YtimoaiebikoojaaInv
namespace Go.Proofs.Ytimoaiebikoojaa

def Ent.strip (e : Ent) : Ent := { e with used := 0 }
def Ent.Clean (e : Ent) : Prop := e.read = false ∧ e.write = false ∧ e.old = L8.zero
/-- What an entry is behind puts that each came behind a mark, where it was e0 ahead of them. -/
def BackE (e0 e : Ent) : Prop := e.line = e0.line ∧ e.state = e0.state ∧ e.read = e0.read ∧ ((e.write = true ∧ e.old = e0.data) ∨ (e.write = false ∧ e.data = e0.data ∧ e.old = e0.old))
theorem BackE.refl {e : Ent} (h : e.Clean) : BackE e e := ⟨rfl, rfl, rfl, .inr ⟨h.2.1, rfl, rfl⟩⟩
theorem BackE.keep {e0 e : Ent} (h : BackE e0 e) : BackE e0 e.keep := by
  obtain ⟨h1, h2, h3, h4⟩ := h
  unfold Ent.keep
  split
  · exact ⟨h1, h2, h3, h4⟩
  · rename_i hw
    rcases h4 with h4 | h4
    · exact absurd h4.1 hw
    · exact ⟨h1, h2, h3, .inl ⟨rfl, h4.2.1⟩⟩
theorem keep_write (e : Ent) : e.keep.write = true := by unfold Ent.keep; split <;> simp_all
theorem BackE.put {e0 e : Ent} (h : BackE e0 e) (hw : e.write = true) (u : Int) (d : L8) : BackE e0 { e with used := u, data := d } := by
  obtain ⟨h1, h2, h3, h4⟩ := h
  rcases h4 with h4 | h4
  · exact ⟨h1, h2, h3, .inl h4⟩
  · rw [hw] at h4; cases h4.1
theorem BackE.use {e0 e : Ent} (h : BackE e0 e) (u : Int) : BackE e0 { e with used := u } := ⟨h.1, h.2.1, h.2.2.1, h.2.2.2⟩
theorem BackE.done {e0 e : Ent} (h : BackE e0 e) (hc : e0.Clean) : e.back.clear.strip = e0.strip := by
  obtain ⟨h1, h2, h3, h4⟩ := h
  obtain ⟨c1, c2, c3⟩ := hc
  obtain ⟨l, s, r, w, d, o, us⟩ := e
  obtain ⟨l0, s0, r0, w0, d0, o0, us0⟩ := e0
  simp only at h1 h2 h3 h4 c1 c2 c3
  subst h1 h2 c1 c2 c3
  rcases h4 with ⟨rfl, rfl⟩ | ⟨rfl, rfl, rfl⟩ <;> simp [Ent.back, Ent.clear, Ent.strip]

/-- Behind puts that each came behind a mark. -/
def Kept (s1 s : Sets) : Prop := ∀ i j, BackE (getE s1 i j) (getE s i j)
section
variable {n ways : Nat} {s1 s : Sets} {u : Int}
theorem Inv.cleared (h : Inv n ways s u) (i j : Nat) : (getE (turnAll Ent.clear s) i j).Clean := by
  rw [getE_turnAll]
  split
  · exact ⟨rfl, rfl, rfl⟩
  · rename_i hs
    rw [h.zero i j (by simpa using hs)]; exact ⟨rfl, rfl, rfl⟩
theorem Kept.upd (h : Kept s1 s) (hi : Inv n ways s u) {i j : Nat} (hil : i < n) (hjl : j < ways) {e : Ent} (he : BackE (getE s1 i j) e) : Kept s1 (Go.Proofs.Ytimoaiebikoojaa.upd s i j e) := fun i' j' => by
  rw [hi.getE_upd hil hjl]
  split
  · rename_i hc; obtain ⟨rfl, rfl⟩ := hc; exact he
  · exact h i' j'

/-- A put behind a mark, and the word that is read behind it. -/
def putBack (s : Sets) (u a v : Int) : Sets × Int :=
  if a < 0 then (s, u)
  else match Finds s ((a.toNat / 8 : Nat) : Int) with
    | none => (s, u)
    | some (i, j) => if (getE s i j).state = 2 then
        let s2 := Go.Proofs.Ytimoaiebikoojaa.upd (Go.Proofs.Ytimoaiebikoojaa.upd s i j (getE s i j).keep) i j { (getE s i j).keep with used := u + 1, data := (getE s i j).keep.data.set (a.toNat % 8) v }
        (Go.Proofs.Ytimoaiebikoojaa.upd s2 i j { (getE s2 i j) with used := u + 1 + 1 }, u + 1 + 1)
      else (s, u)
theorem L8.get_set (d : L8) (i : Nat) (v : Int) (hi : i < 8) : (d.set i v).get i = v := by
  match i, hi with
  | 0, _ | 1, _ | 2, _ | 3, _ | 4, _ | 5, _ | 6, _ | 7, _ => rfl

/-- The steps of one put, where its line is held to write. -/
structure PutOk (n ways : Nat) (s1 s : Sets) (u a v : Int) (i j : Nat) : Prop where
  mark : markL s u ((a.toNat / 8 : Nat) : Int) true = (Go.Proofs.Ytimoaiebikoojaa.upd s i j (getE s i j).keep, u, .int .i64 0)
  put : putL (Go.Proofs.Ytimoaiebikoojaa.upd s i j (getE s i j).keep) u a v = (Go.Proofs.Ytimoaiebikoojaa.upd (Go.Proofs.Ytimoaiebikoojaa.upd s i j (getE s i j).keep) i j { (getE s i j).keep with used := u + 1, data := (getE s i j).keep.data.set (a.toNat % 8) v }, u + 1, .int .i64 0)
  word : wordL (Go.Proofs.Ytimoaiebikoojaa.upd (Go.Proofs.Ytimoaiebikoojaa.upd s i j (getE s i j).keep) i j { (getE s i j).keep with used := u + 1, data := (getE s i j).keep.data.set (a.toNat % 8) v }) (u + 1) a = ((putBack s u a v).1, u + 1 + 1, .tuple #[.int .u64 v, .int .i64 0])
  uses : (putBack s u a v).2 = u + 1 + 1
  inv : Inv n ways (putBack s u a v).1 (u + 1 + 1)
  kept : Kept s1 (putBack s u a v).1

theorem put_held (hn : 1 ≤ n) (h : Inv n ways s u) (hk : Kept s1 s) (h0 : 0 ≤ u) {a : Int} (ha : 0 ≤ a) (v : Int) {i j : Nat} (hf : Finds s ((a.toNat / 8 : Nat) : Int) = some (i, j)) (ht : (getE s i j).state = 2) : PutOk n ways s1 s u a v i j := by
  obtain ⟨_, _, hil, hjl, hs, hl⟩ := h.finds_some hn hf
  have hks := Ent.keep_same (getE s i j)
  have hkp : BackE (getE s1 i j) (getE s i j).keep := (hk i j).keep
  have i1 : Inv n ways (Go.Proofs.Ytimoaiebikoojaa.upd s i j (getE s i j).keep) u := h.turn hs _ (by rw [hks.1]; exact h.st i j hs) hks.2.1 h0 (.inl ⟨hks.2.2, rfl⟩)
  have g1 : getE (Go.Proofs.Ytimoaiebikoojaa.upd s i j (getE s i j).keep) i j = (getE s i j).keep := by rw [h.getE_upd hil hjl, if_pos ⟨rfl, rfl⟩]
  have k1 := hk.upd h hil hjl hkp
  generalize e1 : Go.Proofs.Ytimoaiebikoojaa.upd s i j (getE s i j).keep = sa at *
  have f1 : Finds sa ((a.toNat / 8 : Nat) : Int) = some (i, j) := by
    have := i1.finds_of hn (i := i) (j := j) (by rw [g1, hks.1]; exact hs)
    rwa [g1, hks.2.1, hl] at this
  have i2 : Inv n ways (Go.Proofs.Ytimoaiebikoojaa.upd sa i j { (getE s i j).keep with used := u + 1, data := (getE s i j).keep.data.set (a.toNat % 8) v }) (u + 1) :=
    i1.turn (by rw [g1, hks.1]; exact hs) _ (by simp only; rw [hks.1]; exact h.st i j hs) (by rw [g1]) h0 (.inr ⟨rfl, rfl⟩)
  have g2 : getE (Go.Proofs.Ytimoaiebikoojaa.upd sa i j { (getE s i j).keep with used := u + 1, data := (getE s i j).keep.data.set (a.toNat % 8) v }) i j = { (getE s i j).keep with used := u + 1, data := (getE s i j).keep.data.set (a.toNat % 8) v } := by rw [i1.getE_upd hil hjl, if_pos ⟨rfl, rfl⟩]
  have k2 := k1.upd i1 hil hjl (hkp.put (keep_write _) (u + 1) ((getE s i j).keep.data.set (a.toNat % 8) v))
  have hb : putBack s u a v = (Go.Proofs.Ytimoaiebikoojaa.upd (Go.Proofs.Ytimoaiebikoojaa.upd sa i j { (getE s i j).keep with used := u + 1, data := (getE s i j).keep.data.set (a.toNat % 8) v }) i j { (getE (Go.Proofs.Ytimoaiebikoojaa.upd sa i j { (getE s i j).keep with used := u + 1, data := (getE s i j).keep.data.set (a.toNat % 8) v }) i j) with used := u + 1 + 1 }, u + 1 + 1) := by
    unfold putBack
    rw [if_neg (by omega), hf]
    simp only [ht, if_true, e1]
  generalize e2 : Go.Proofs.Ytimoaiebikoojaa.upd sa i j { (getE s i j).keep with used := u + 1, data := (getE s i j).keep.data.set (a.toNat % 8) v } = sb at *
  have f2 : Finds sb ((a.toNat / 8 : Nat) : Int) = some (i, j) := by
    have := i2.finds_of hn (i := i) (j := j) (by rw [g2]; simp only; rw [hks.1]; exact hs)
    rw [g2] at this
    simp only at this
    rwa [hks.2.1, hl] at this
  subst e2
  subst e1
  refine ⟨?_, ?_, ?_, by rw [hb], ?_, ?_⟩
  · unfold Go.Proofs.Ytimoaiebikoojaa.markL
    rw [hf]
    show (if true = true then (if (getE s i j).state = 2 then _ else _) else _) = _
    rw [if_pos rfl, if_pos ht]
  · unfold Go.Proofs.Ytimoaiebikoojaa.putL
    rw [if_neg (by omega), f1]
    show (if (getE (Go.Proofs.Ytimoaiebikoojaa.upd s i j (getE s i j).keep) i j).state = 2 then _ else _) = _
    rw [if_pos (by rw [g1, hks.1]; exact ht), g1]
  · unfold Go.Proofs.Ytimoaiebikoojaa.wordL
    rw [if_neg (by omega), f2, hb]
    show (_, _, Value.tuple #[.int .u64 ((getE _ i j).data.get (a.toNat % 8)), .int .i64 0]) = _
    rw [g2]
    show (_, _, Value.tuple #[.int .u64 (((getE s i j).keep.data.set (a.toNat % 8) v).get (a.toNat % 8)), .int .i64 0]) = _
    rw [L8.get_set _ _ _ (Nat.mod_lt _ (by omega))]
  · rw [hb]
    exact i2.turn (by rw [g2]; simp only; rw [hks.1]; exact hs) _ (by rw [g2]; simp only; rw [hks.1]; exact h.st i j hs) rfl (by omega) (.inr ⟨rfl, rfl⟩)
  · rw [hb]
    exact k2.upd i2 hil hjl ((k2 i j).use _)

/-- A put whose line is not held to write: its mark is refused. -/
theorem put_not (a v : Int) (ha : 0 ≤ a) (h : ∀ i j, Finds s ((a.toNat / 8 : Nat) : Int) = some (i, j) → (getE s i j).state ≠ 2) : markL s u ((a.toNat / 8 : Nat) : Int) true = (s, u, .int .i64 20) ∧ putBack s u a v = (s, u) := by
  unfold Go.Proofs.Ytimoaiebikoojaa.markL putBack
  rw [if_neg (by omega)]
  cases hf : Finds s ((a.toNat / 8 : Nat) : Int) with
  | none => exact ⟨rfl, rfl⟩
  | some x =>
    obtain ⟨i, j⟩ := x
    have := h i j hf
    simp [this]

theorem entries_same {s s' : Sets} (h : ∀ i j, (getE s i j).strip = (getE s' i j).strip) : (entries s ways n).map Ent.strip = (entries s' ways n).map Ent.strip := by
  have hv : valid s = valid s' := by
    funext i j
    have := congrArg Ent.state (h i j)
    simp only [Ent.strip] at this
    simp only [valid, getE] at this ⊢
    rw [this]
  have he : entsAll s ways n = entsAll s' ways n := by
    have ho : entsOf s ways = entsOf s' ways := by funext i; simp only [entsOf, hv]
    simp only [entsAll, ho]
  unfold entries
  rw [he, List.map_map, List.map_map]
  exact List.map_congr_left (fun x _ => h x.1 x.2)

theorem Kept.all (hi : Inv n ways s u) {s0 : Sets} {u0 : Int} (h0 : Inv n ways s0 u0) (h : Kept (turnAll Ent.clear s0) s) : (entries (turnAll Ent.clear (turnAll Ent.back s)) ways n).map Ent.strip = (entries (turnAll Ent.clear s0) ways n).map Ent.strip := by
  refine entries_same (fun i j => ?_)
  have hk := h i j
  have hc := h0.cleared i j
  rw [getE_turnAll, getE_turnAll]
  by_cases hs : (getE s i j).state = 0
  · have hz := hi.zero i j hs
    have h1 : (getE (turnAll Ent.clear s0) i j).state = 0 := by rw [← hk.2.1]; exact hs
    have h2 := h0.commit.zero i j h1
    rw [h2, hz]
    rfl
  · rw [if_pos hs, if_pos (by rw [(Ent.back_same _).1]; exact hs)]
    exact hk.done hc

/-- Two lists that rise, of the same entries. -/
theorem rise_same {es es' xs ys : List Ent} (h1 : es.Perm xs) (h2 : es'.Perm ys) (p1 : es.Pairwise (fun a b => a.line < b.line)) (p2 : es'.Pairwise (fun a b => a.line < b.line)) (h : ys.map Ent.strip = xs.map Ent.strip) : es'.map Ent.strip = es.map Ent.strip := by
  refine List.Perm.eq_of_pairwise (le := fun a b : Ent => a.line < b.line) (fun a b _ _ h1 h2 => by omega) (by rw [List.pairwise_map]; exact p2) (by rw [List.pairwise_map]; exact p1) ?_
  exact (h2.map _).trans (h ▸ (h1.map Ent.strip).symm)
theorem rise_at {es es' : List Ent} (h : es'.map Ent.strip = es.map Ent.strip) : es'.length = es.length ∧ ∀ (i : Nat) (e e' : Ent), es[i]? = some e → es'[i]? = some e' → { e' with used := e.used } = e := by
  refine ⟨by simpa using congrArg List.length h, fun i e e' h1 h2 => ?_⟩
  have := congrArg (fun l => l[i]?) h
  simp only [List.getElem?_map, h1, h2, Option.map_some, Option.some.injEq] at this
  obtain ⟨l, s, r, w, d, o, us⟩ := e
  obtain ⟨l', s', r', w', d', o', us'⟩ := e'
  simp only [Ent.strip, Ent.mk.injEq] at this ⊢
  obtain ⟨a1, a2, a3, a4, a5, a6, _⟩ := this
  exact ⟨a1, a2, a3, a4, a5, a6, trivial⟩
end

/-- Puts, one behind the other. -/
def putsBack (s : Sets × Int) (ys : List (Int × Int)) : Sets × Int := ys.foldl (fun s y => putBack s.1 s.2 y.1 y.2) s
theorem putsBack_take (ys : List (Int × Int)) (s : Sets × Int) {k : Nat} {y : Int × Int} (h : ys[k]? = some y) : putsBack s (ys.take (k + 1)) = putBack (putsBack s (ys.take k)).1 (putsBack s (ys.take k)).2 y.1 y.2 := by
  simp [putsBack, List.take_add_one, h]

end Go.Proofs.Ytimoaiebikoojaa
