/- A map of places, in memory. Conditions: those stated in each theorem. -/
import Derived.Test.YteijhcibdglkeaaGreatDoorLntC
namespace Go.Proofs.YteijhcibdglkeaaGreatDoor
open Go.RowKit Go.BigFrame Go.Maps Go.ChangeMaps

theorem Tryz.keyNv : Keyed Tryz.prog 3 := int_keyed Tryz.underlying3
theorem Tryz.zeroNv (w : World) : (zeroValue 3).run Tryz.prog w = .ok (.int .i64 0) w := by kernel_rfl
theorem key_nv {p : Nat} (h : p ≤ 2000) : keyOf Tryz.prog 3 (.int .i64 (p : Nat)) = some (.int .i64 (p : Nat)) :=
  keyOf_int_mk Tryz.underlying3 (by simp [Lit.wf, IntKind.min, IntKind.max, IntKind.signed, IntKind.bits]; omega)
def IsNv (D : DataW Unit) (S : Nat → Bool) : Prop := IsMap D ∧ ∀ p : Nat, Maps.has D (.int .i64 (p : Nat)) = S p ∧ (S p = true → ∀ z, D.atKey (.int .i64 (p : Nat)) z = .lit (.int .i64 1))
theorem isNv_none : IsNv (.map []) (fun _ => false) := ⟨isMap_empty, fun _ => ⟨rfl, fun h => by cases h⟩⟩
theorem IsNv.put {D : DataW Unit} {S : Nat → Bool} (h : IsNv D S) (p : Nat) : IsNv (D.put (.int .i64 (p : Nat)) (.lit (.int .i64 1))) (fun q => if q = p then true else S q) := by
  refine ⟨h.1.put _ _, fun q => ?_⟩
  by_cases e : q = p
  · subst e
    simp only [if_true]
    exact ⟨has_put_same h.1 (by simp [WideAt.IsKeyLit]) _, fun _ z => atKey_put_same h.1 (by simp [WideAt.IsKeyLit]) _ _⟩
  · have hne : (Lit.int .i64 (q : Nat)) ≠ Lit.int .i64 (p : Nat) := fun x => e (by cases x; rfl)
    simp only [if_neg e, has_put_other hne]
    exact ⟨(h.2 q).1, fun hk z => by rw [atKey_put_other hne]; exact (h.2 q).2 hk z⟩
def NvAt (w : World) (b n : Nat) (S : Nat → Bool) : Prop := ∃ D, w.ownsMap Tryz.prog 3 (plainElem (H := Unit) Tryz.prog 3) b n D ∧ IsNv D S
section
variable {w w' : World} {b n : Nat} {S : Nat → Bool}
theorem NvAt.same (h : NvAt w b n S) (k : w'.heap[b]? = w.heap[b]?) : NvAt w' b n S := by
  obtain ⟨D, ⟨es, clock, hb, r⟩, h2⟩ := h
  exact ⟨D, ⟨es, clock, k.trans hb, r⟩, h2⟩
theorem NvAt.lt (h : NvAt w b n S) : b < w.heap.size := by
  obtain ⟨D, ⟨es, clock, hb, r⟩, h2⟩ := h
  exact (Array.getElem?_eq_some_iff.1 hb).1
theorem NvAt.made (w : World) : NvAt (w.alloc (.map #[] 0)) w.heap.size 0 (fun _ => false) := ⟨_, World.ownsMap_made w _ _ _, isNv_none⟩
theorem NvAt.more {m : Nat} (h : NvAt w b n S) (hm : n ≤ m) : NvAt w b m S := by
  obtain ⟨D, ⟨es, clock, hb, r, r2, r3⟩, h2⟩ := h
  exact ⟨D, ⟨es, clock, hb, r, Nat.le_trans r2 hm, r3⟩, h2⟩
theorem NvAt.below (h : NvAt w b n S) (hb : Below w.heap.size w w') : NvAt w' b n S := h.same (hb.block b h.lt)
theorem NvAt.congr {T : Nat → Bool} (h : NvAt w b n S) (e : ∀ p, S p = T p) : NvAt w b n T := by rw [← funext e]; exact h
theorem NvAt.run (h : NvAt w b n S) {p : Nat} (hp : p ≤ 2000) :
    (Instr.lookup 52 (.map (some b)) (.int .i64 (p : Nat)) false).run Tryz.prog w = .ok (.int .i64 (if S p then 1 else 0)) w := by
  obtain ⟨D, h1, h2⟩ := h
  obtain ⟨c, hrun, hc, _⟩ := h1.lookup_int Tryz.keyNv Tryz.underlying52 Tryz.underlying3 (Tryz.zeroNv w) (key_nv hp)
  rw [hrun]
  cases hf : S p with
  | true =>
    rw [(h2.2 p).2 hf] at hc
    cases hc; rfl
  | false =>
    have hh := (h2.2 p).1
    rw [hf] at hh
    rw [atKey_of_not_has hh] at hc
    cases hc; rfl
theorem nv_store (h : NvAt w b n S) {p : Nat} (hp : p ≤ 2000) (hn : n < maxLen) :
    ∃ w', (Instr.mapUpdate 52 (.map (some b)) (.int .i64 (p : Nat)) (.int .i64 1)).run Tryz.prog w = .ok () w' ∧ NvAt w' b (n + 1) (fun q => if q = p then true else S q) ∧ w.grownBy w' (some b) ∧ w'.heap.size = w.heap.size := by
  obtain ⟨D, h1, h2⟩ := h
  obtain ⟨w', hrun, r1, r2⟩ := h1.store Tryz.keyNv Tryz.underlying52 hn (key_nv hp) (plainElem_int Tryz.underlying3 (show (Lit.int .i64 1).wf = true by decide))
  refine ⟨w', hrun, ⟨_, r1, h2.put p⟩, r2.grown, ?_⟩
  obtain ⟨es, clock, es', clock', _, rfl⟩ := r2
  simp [setBlock]
end
end Go.Proofs.YteijhcibdglkeaaGreatDoor
