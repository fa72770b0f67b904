/- NodeBack: rows that a law writes into. Conditions: those stated in each theorem. -/
import Derived.Test.YtddajnpichchfaaNodeX
import Derived.Test.YtddajnpichchfaaNodeY
namespace Go.Proofs.Ytddajnpichchfaa
open Go.RowKit Go.BigFrame

theorem cells_len : ∀ es : List Ent, (es.flatMap Ent.cells).length = es.length * 21
  | [] => rfl
  | e :: es => by rw [List.flatMap_cons, List.length_append, cells_len es, Ent.len]; simp; omega
/-- The cells of a row may be written. -/
def FZ (W : World) (ad : Option Addr) (N : Nat) : Prop := ∀ g, ad = some ⟨g, 0, none⟩ → ∀ i, i < N → W.frozen? ⟨g, i, none⟩ = false
theorem FZ.heap {W W' : World} {ad : Option Addr} {N l cap : Nat} {es : List Ent} {G : List (Nat × List Value)} (h : FZ W ad N) (hh : ∀ x ∈ rowsE (.slice ad l cap) es ++ G, W'.heap[x.1]? = W.heap[x.1]?) : FZ W' ad N := fun g hg i hi => by
  subst hg
  rw [World.frozen?_of_block (w := W) (hh (g, es.flatMap Ent.cells) (by simp [rowsE]))]
  exact h g rfl i hi
theorem FZ.drewN {W : World} {ad : Option Addr} {N : Nat} (h : FZ W ad N) (q : Nat) : FZ (W.drewN q) ad N := fun g hg i hi => h g hg i hi
theorem FZ.setCell {W : World} {ad : Option Addr} {N : Nat} (h : FZ W ad N) (p : Addr) (v : Value) : FZ (W.setCell p v) ad N := fun g hg i hi => by rw [World.frozen?_setCell]; exact h g hg i hi
section
variable {w0 w w' : World} {a p S : Nat} {bs : List Nat} {ways : Nat} {n n' : Nd} {G : List (Nat × List Value)}
theorem alls_fresh (h : NSt w0 w a p S bs ways n G) (L : Nat) (hL : n.lines = L) (hL64 : L ≤ 64) :
    Calls Try.prog 27 #[.pointer (some ⟨a, 0, none⟩)] w fun e w' => ∃ v, e = .returned v ∧ SlE v n.all ∧ (∀ x ∈ rowsE v n.all, w.heap.size ≤ x.1 ∧ x.1 ≠ S) ∧ (∀ x ∈ rowsE v n.all, ∀ i, i < n.all.length * 21 → w'.frozen? ⟨x.1, i, none⟩ = false) ∧ NSt w0 w' a p S bs ways n (rowsE v n.all ++ G) := by
  obtain ⟨bv, h1, h2⟩ := h.node
  refine (callsIn_wide.1 (nall_in w h1 L hL hL64)).mono ?_
  rintro e w' ⟨v, rfl, ho, hb⟩
  have hi := h.idle hb
  rcases owns_form ho with ⟨rfl, h0, -⟩ | ⟨g, cap, rfl, hg⟩
  · exact ⟨_, rfl, .inl ⟨rfl, List.eq_nil_of_length_eq_zero h0⟩, (fun x hx => by cases hx), (fun x hx => by cases hx), hi⟩
  · have hgl := owns_lt ho hg
    have hl := h1.lts
    have hno : ¬ Own a p bs bv g := fun hk => by
      rcases hk with hk | hk | hk
      · omega
      · exact hk.elim (fun e => by omega) (fun hm => by have := hl.2.2.2 g hm; omega)
      · have := (owns_lt h1.own hk).2; omega
    refine ⟨_, rfl, .inr ⟨g, cap, rfl⟩, (fun x hx => by
      simp only [rowsE, List.mem_singleton] at hx; subst hx
      exact ⟨hgl.1, by show g ≠ S; omega⟩), (fun x hx i hi => by
      simp only [rowsE, List.mem_singleton] at hx; subst hx
      have hlen : (n.all.flatMap Ent.cells).length = n.all.length * 21 := cells_len n.all
      exact (owns_cell ho hg (List.getElem?_eq_getElem (by rw [hlen]; exact hi))).2), ⟨bv, h1.below hb (Nat.le_refl _), fun x hx => ?_⟩, hi.below, fun x hx => ?_⟩
    · rcases List.mem_append.1 hx with hx | hx
      · simp only [rowsE, List.mem_singleton] at hx; subst hx; exact hno
      · exact h2 x hx
    · rcases List.mem_append.1 hx with hx | hx
      · simp only [rowsE, List.mem_singleton] at hx; subst hx
        exact ⟨hgl.2, fun i v hi => by rw [Nat.zero_add]; exact (owns_cell ho hg hi).1⟩
      · exact hi.rows x hx

theorem load_stF (h : NSt w0 w a p S bs ways n G) (k : Int) (hk : k ≤ 9223372036854775807) (h0 : 0 ≤ n.u) (hu : n.u < 4294967295) (hl : n.backs.length < 100000) :
    Calls Try.prog 13 #[.pointer (some ⟨a, 0, none⟩), .int .i64 k] w fun e w' => ∃ v, e = .returned (.tuple #[.int .u64 (n.load k).2.1, .bool (n.load k).2.2.1, v, .int .i64 (n.load k).2.2.2.2]) ∧ NSt w0 w' a p S bs ways (n.load k).1 G ∧ ∀ x ∈ G, w'.heap[x.1]? = w.heap[x.1]? := by
  obtain ⟨bv, h1, h2⟩ := h.node
  refine (load_any h1 k hk (by omega) h0 (by omega)).mono ?_
  rintro e w' ⟨v, rfl, hn⟩
  have hs := (NSt.next h2 h.below h1 h.rows hn).2
  obtain ⟨bv', o1, o2, o3, o4⟩ := hn
  exact ⟨v, rfl, hs.drop G (fun y hy => List.mem_append_right _ hy), fun x hx => o3.block x.1 (h.rows x hx).1 (h2 x hx)⟩
theorem store_stF (h : NSt w0 w a p S bs ways n G) (k x : Int) (hk : k ≤ 9223372036854775807) (h0 : 0 ≤ n.u) (hu : n.u < 4294967295) (hl : n.backs.length < 100000) :
    Calls Try.prog 19 #[.pointer (some ⟨a, 0, none⟩), .int .i64 k, .int .u64 x] w fun e w' => ∃ v, e = .returned (.tuple #[.bool (n.store k x).2.1, v, .int .i64 (n.store k x).2.2.2]) ∧ NSt w0 w' a p S bs ways (n.store k x).1 G ∧ ∀ x ∈ G, w'.heap[x.1]? = w.heap[x.1]? := by
  obtain ⟨bv, h1, h2⟩ := h.node
  refine (store_any h1 k x hk (by omega) h0 (by omega)).mono ?_
  rintro e w' ⟨v, rfl, hn⟩
  have hs := (NSt.next h2 h.below h1 h.rows hn).2
  obtain ⟨bv', o1, o2, o3, o4⟩ := hn
  exact ⟨v, rfl, hs.drop G (fun y hy => List.mem_append_right _ hy), fun x hx => o3.block x.1 (h.rows x hx).1 (h2 x hx)⟩
theorem word_splice (e : Ent) (r : Nat) (hr : r < 8) (v : Int) : splice e.cells (4 + r) [.int .u64 v] = ({ e with data := e.data.set r v } : Ent).cells := by
  match r, hr with
  | 0, _ | 1, _ | 2, _ | 3, _ | 4, _ | 5, _ | 6, _ | 7, _ => rfl
/-- A word of a row is written. -/
theorem NSt.putRow {g l cap : Nat} {es : List Ent} (h : NSt w0 w a p S bs ways n (rowsE (.slice (some ⟨g, 0, none⟩) l cap) es ++ G)) (hg : w0.heap.size ≤ g) (hS : g ≠ S) (hG : ∀ x ∈ G, x.1 ≠ g) {j : Nat} {e : Ent} (he : es[j]? = some e) {r : Nat} (hr : r < 8) (v : Int) :
    NSt w0 (w.setCell ⟨g, j * 21 + 4 + r, none⟩ (.int .u64 v)) a p S bs ways n (rowsE (.slice (some ⟨g, 0, none⟩) l cap) (es.set j { e with data := e.data.set r v }) ++ G) := by
  obtain ⟨bv, h1, h2⟩ := h.node
  have hgm : (g, es.flatMap Ent.cells) ∈ rowsE (.slice (some ⟨g, 0, none⟩) l cap) es ++ G := by simp [rowsE]
  have hno := h2 _ hgm
  obtain ⟨hgl, hgr⟩ := h.rows _ hgm
  have hT : Tch (· = g) w (w.setCell ⟨g, j * 21 + 4 + r, none⟩ (.int .u64 v)) := Tch.setCell (C := (· = g)) (Tch.refl _ w) (p := ⟨g, j * 21 + 4 + r, none⟩) (.inl rfl) _
  have hsp := splice_rows Ent.cells Ent.len es j (4 + r) [.int .u64 v] e { e with data := e.data.set r v } he (by simp; omega) (word_splice e r hr v)
  rw [← Nat.add_assoc] at hsp
  have hsp' : (es.set j { e with data := e.data.set r v }).flatMap Ent.cells = (es.flatMap Ent.cells).set (j * 21 + 4 + r) (.int .u64 v) := hsp.symm
  refine ⟨⟨bv, h1.frame hT (fun e => hno (.inl e.symm)) (fun e => hno (.inr (.inl (.inl e.symm)))) (fun e => hS e.symm) (fun b hb e => hno (.inr (.inl (.inr (e ▸ hb))))) (fun g' hg' e => hno (.inr (.inr (e ▸ hg')))), fun x hx => ?_⟩, h.below.setCell hg _, fun x hx => ?_⟩
  · rcases List.mem_append.1 hx with hx | hx
    · simp only [rowsE, List.mem_singleton] at hx; subst hx; exact hno
    · exact h2 x (List.mem_append_right _ hx)
  · rcases List.mem_append.1 hx with hx | hx
    · simp only [rowsE, List.mem_singleton] at hx; subst hx
      refine ⟨by simpa using hgl, fun i u hi => ?_⟩
      simp only at hi hgr ⊢
      rw [hsp'] at hi
      have hil := (List.getElem?_eq_some_iff.1 hi).1
      rw [List.length_set] at hil
      by_cases hc : i = j * 21 + 4 + r
      · subst hc
        rw [List.getElem?_set_self hil] at hi
        cases hi
        rw [Nat.zero_add]
        have := hgr (j * 21 + 4 + r) _ (List.getElem?_eq_getElem hil)
        rw [Nat.zero_add] at this
        exact World.cell?_setCell_same _ _ _ this
      · rw [List.getElem?_set_ne (Ne.symm hc)] at hi
        rw [World.cell?_setCell_other _ _ _ _ (by intro e; simp at e; first | exact hc e.symm | skip)]
        exact hgr i u hi
    · obtain ⟨q1, q2⟩ := h.rows x (List.mem_append_right _ hx)
      refine ⟨by simpa using q1, fun i u hi => ?_⟩
      rw [World.cell?_setCell_other _ _ _ _ (by intro e; simp at e; exact hG x hx e.1.symm)]
      exact q2 i u hi
end

end Go.Proofs.Ytddajnpichchfaa
