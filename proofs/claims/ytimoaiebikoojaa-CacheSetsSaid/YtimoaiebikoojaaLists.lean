/- All of a cache as a list that rises, and play over any steps that came in. Conditions: those stated in each theorem. -/
import Derived.Test.YtimoaiebikoojaaEq
import Derived.StillTailTactics
namespace Go.Proofs.Ytimoaiebikoojaa
open Go.RowKit Go.BigFrame

/-! ### Regions that only read -/
theorem wpStill_load_mid {P : Program} {ops : Array Oper} {rest : List Oper} {op : Oper} {a : Act} {w : World} {Q : Act → Prop} (hw : Region.wanted op (yielded ops a.tmps) = true) (ty : TypeId) (x : Operand) (ho : op.op = .load ty x)
    (b o : Nat) (hx : a.eval x = .pointer (some ⟨b, o, none⟩)) (cs : List Value) (d : TypeDesc) (hc : w.rangeAt b o cs)
    (hu : P.underlying ty = some d) (hd : d.isRow = true) (hi : (P.info? ty).map (·.size) = some cs.length)
    (h : wpStill P ops w Q rest (a.put op.dst (.agg cs.toArray))) : wpStill P ops w Q (op :: rest) a := by
  refine wpStill_step fun K hK => ?_
  rw [if_pos hw]
  unfold Oper.still execOp
  simp only [ho, hx, Instr.loadAt, Instr.sureAddr, Sem.run_bind, Sem.run_pure, Result.andThen_ok, run_loadVar_mid w b o ty cs d hc hu hd hi, Oper.stillUpon]
  exact ⟨trivial, hK _ h⟩

/-- Operations under a guard that is decided. -/
theorem wpStill_want {P : Program} {ops : Array Oper} {rest : List Oper} {o : Oper} {a : Act} {w : World} {Q : Act → Prop} (hw : Region.wanted o (yielded ops a.tmps) = true)
    (h : ∀ K : Act → Prop, (∀ a, wpStill P ops w Q rest a → K a) → o.still P a w K) : wpStill P ops w Q (o :: rest) a :=
  wpStill_step fun K hK => by rw [if_pos hw]; exact h K hK
theorem wpStill_skip {P : Program} {ops : Array Oper} {rest : List Oper} {o : Oper} {a : Act} {w : World} {Q : Act → Prop} (hw : Region.wanted o (yielded ops a.tmps) = false)
    (h : ∀ K : Act → Prop, (∀ a, wpStill P ops w Q rest a → K a) → K (a.put o.dst undef)) : wpStill P ops w Q (o :: rest) a :=
  wpStill_step fun K hK => by rw [if_neg (by rw [hw]; exact Bool.false_ne_true)]; exact h K hK

/-! ### All -/
def rowsOf (a : Option Addr) (es : List Ent) : List (Nat × List Value) := match a with | none => [] | some p => [(p.block, es.flatMap Ent.cells)]
section
variable {w0 w : World} {p S : Nat} {bs : List Nat} {ways : Nat} {ss : Sets} {u : Int} {G : List (Nat × List Value)}

def AllPost (w0 : World) (p S : Nat) (bs : List Nat) (ways : Nat) (ss : Sets) (u : Int) (G : List (Nat × List Value)) (e : Ending) (w' : World) : Prop :=
  ∃ a cap es, e = .returned (.slice a es.length cap) ∧ es.Perm (entries ss ways bs.length) ∧ es.length ≤ 32 ∧ es.Pairwise (fun a b => a.line < b.line) ∧ (es ≠ [] → ∃ g, a = some ⟨g, 0, none⟩) ∧ (∀ q, a = some q → q.spot = none ∧ q.off = 0) ∧ St w0 w' p S bs ways ss u (rowsOf a es ++ G)

theorem flat_at {es : List Ent} {i : Nat} {v : Value} (h : (es.flatMap Ent.cells)[i]? = some v) : ∃ e, es[i / 21]? = some e ∧ e.cells[i % 21]? = some v := by
  have hl := (List.getElem?_eq_some_iff.1 h).1
  rw [rows_len] at hl
  have hi : i / 21 < es.length := by omega
  refine ⟨es[i / 21], List.getElem?_eq_getElem hi, ?_⟩
  rw [← rows_get Ent.cells Ent.len es (i / 21) (i % 21) _ (List.getElem?_eq_getElem hi) (Nat.mod_lt _ (by omega)), ← h]
  congr 1; omega

theorem all_st (h : St w0 w p S bs ways ss u G) (hi : Inv bs.length ways ss u) :
    Calls Try.prog 10 #[.pointer (some ⟨p, 0, none⟩)] w (AllPost w0 p S bs ways ss u G) := by
  refine (callsIn_wide.1 (alls_in p S ways bs ss u w h.cache)).mono ?_
  rintro e w' ⟨v, es, rfl, hp, hs, hv, hb⟩
  have hst := h.idle hb
  have hd : es.Pairwise (fun a b => a.line < b.line) := by
    have hne := (hp.pairwise_iff (R := fun a b : Ent => a.line ≠ b.line) (fun h => Ne.symm h)).2 hi.lines
    exact (hs.and hne).imp (fun h => by omega)
  have h32 : es.length ≤ 32 := by
    have h1 := hp.length_eq
    rw [entries, List.length_map] at h1
    have h2 := entsAll_len ss ways bs.length
    have h3 := Nat.mul_le_mul h.cache.n8 h.cache.w4
    omega
  rcases hv with ⟨rfl, rfl⟩ | ⟨g, cap, rfl, hg, hlt, he⟩
  · exact ⟨none, 0, [], rfl, hp, h32, hd, fun h => absurd rfl h, (fun _ h => by cases h), hst⟩
  · refine ⟨some ⟨g, 0, none⟩, cap, es, rfl, hp, h32, hd, fun _ => ⟨g, rfl⟩, (fun q h => by cases h; exact ⟨rfl, rfl⟩), hst.cache, hst.below, hst.size, hst.mine, fun x hx => ?_⟩
    rcases List.mem_append.1 hx with hx | hx
    · simp only [rowsOf, List.mem_singleton] at hx
      subst hx
      have hl := h.cache.lt
      refine ⟨hlt, fun ht => ht.elim (fun e => by simp only at e; omega) (fun hm => by have := hl.2.2 _ hm; simp only at this; omega), fun i v hv => ?_⟩
      obtain ⟨e, h1, h2⟩ := flat_at hv
      have := (he (i / 21) e h1 (i % 21) v h2).1
      rw [show i / 21 * 21 + i % 21 = 0 + i from by omega] at this
      exact this
    · exact hst.rows x hx

/-- An element of a list that All answered. -/
theorem St.row_at {a : Option Addr} {es : List Ent} (h : St w0 w p S bs ways ss u G) (hG : ∀ x ∈ rowsOf a es, x ∈ G) (ha : ∀ q, a = some q → q.spot = none ∧ q.off = 0) {g : Nat} (hg : a = some ⟨g, 0, none⟩) {i : Nat} {e : Ent} (he : es[i]? = some e) : w.rangeAt g (i * 21) e.cells := by
  subst hg
  have := (h.rows (g, es.flatMap Ent.cells) (hG _ (by simp [rowsOf]))).2.2
  intro j v hv
  have hj : j < 21 := (List.getElem?_eq_some_iff.1 hv).1
  have h1 := this (i * 21 + j) v (by rw [rows_get Ent.cells Ent.len es i j e he hj, hv])
  rwa [Nat.zero_add] at h1
theorem St.rowlt {a : Option Addr} {es : List Ent} (h : St w0 w p S bs ways ss u G) (hG : ∀ x ∈ rowsOf a es, x ∈ G) {g : Nat} (hg : a = some ⟨g, 0, none⟩) : g < w.heap.size := by
  subst hg
  exact (h.rows (g, es.flatMap Ent.cells) (hG _ (by simp [rowsOf]))).1
end

/-! ### play -/
/-- The steps that came in. -/
def StepsIn (w : World) (a : Option Addr) (xs : List StepV) : Prop := xs = [] ∨ ∃ q c, a = some ⟨q, c, none⟩ ∧ StepsAt w q c xs

set_option maxHeartbeats 400000 in
theorem play_none (p : Nat) (a : Option Addr) (cap : Nat) (w : World) : Calls Try.prog 23 #[.pointer (some ⟨p, 0, none⟩), .slice a 0 cap] w fun e w' => e = .returned (.tuple #[]) ∧ w = w' := by
  go_enter Try.func23, Try.ntmps23
  go_wp2
  refine wp_loop_rounds 1 ?_
  rw [rounds_succ]
  go_wp2
  exact ⟨rfl, .tuple #[], (by simp [results, Try.results23, go_sem]), rfl, rfl⟩
section
variable {w0 w : World} {p S : Nat} {bs : List Nat} {ways : Nat} {ss : Sets} {u : Int} {G : List (Nat × List Value)}
theorem play_any (h : St w0 w p S bs ways ss u G) (a : Option Addr) (cap : Nat) (xs : List StepV) (hx : StepsIn w0 a xs) (h0 : 0 ≤ u) (hu : u + xs.length < 4294967296) (hn : ∀ x ∈ xs, x.n ≤ 9223372036854775807) :
    Calls Try.prog 23 #[.pointer (some ⟨p, 0, none⟩), .slice a xs.length cap] w fun e w' => e = .returned (.tuple #[]) ∧ St w0 w' p S bs ways (playL (ss, u) xs).1 (playL (ss, u) xs).2 G := by
  rcases hx with rfl | ⟨q, c, rfl, hx⟩
  · exact (play_none p a cap w).mono fun e w' hb => ⟨hb.1, hb.2 ▸ h⟩
  · exact play_ok h q c cap xs hx h0 hu hn
end

end Go.Proofs.Ytimoaiebikoojaa
