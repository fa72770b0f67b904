/- A log: New, Clear; rows that a call made. Conditions: those stated in each theorem. -/
import Derived.Test.YtgdfiggloifncaaLogF
import Derived.Test.YtgdfiggloifncaaCame
namespace Go.Proofs.Ytgdfiggloifncaa
open Go.RowKit Go.BigFrame Go.Maps

section
variable {w w' : World} {a : Nat} {f : Lg} {S : Nat → Prop}

/-- A new list. -/
theorem new_list {b : Nat} (h : MapAt w b []) : LsAt w (.slice none 0 0) b [] := ⟨World.ownsRow_nil _ _ _ _, h, by simp, fun x hx => by cases hx⟩

set_option maxRecDepth 100000 in
set_option maxHeartbeats 1000000 in
theorem new_any (w : World) : Calls Try.prog 35 #[] w fun e w' => ∃ a, e = .returned (.pointer (some ⟨a, 0, none⟩)) ∧ LgAt w' (fun k => w.heap.size ≤ k ∧ k < w'.heap.size) a Lg.zero ∧ Below w.heap.size w w' := by
  go_enter Try.func35, Try.ntmps35
  go_wp2_with fail
  refine (empty_any _).mono ?_
  rintro e w1 ⟨b1, rfl, h1, hb1, hB1⟩
  have H1 := Lib.hid (And.intro h1 (And.intro hb1 hB1)); clear h1 hb1 hB1
  go_wp2_with fail
  refine (empty_any _).mono ?_
  rintro e w2 ⟨b2, rfl, h2, hb2, hB2⟩
  have hl1 := H1.out.1.lt
  have hl2 := h2.lt
  have hs := hB2.size
  have k1 := H1.out.1.same (hB2.block b1 hl1)
  have hBB : Below w.heap.size w w2 := H1.out.2.2.trans (hB2.mono H1.out.2.2.size)
  have H2 := Lib.hid (And.intro k1 (And.intro h2 (And.intro hBB hb2)))
  clear hB2 hBB h2 k1
  go_wp2
  go_ret
  have hn : Holds (w2.alloc (.cells (lcells w2.heap.size (.slice none 0 0) b1 (.slice none 0 0) b2).toArray 89)) w2.heap.size 89 (lcells w2.heap.size (.slice none 0 0) b1 (.slice none 0 0) b2) := Holds.new _ _ _
  have hB : Below w2.heap.size w2 (w2.alloc (.cells (lcells w2.heap.size (.slice none 0 0) b1 (.slice none 0 0) b2).toArray 89)) := (Below.refl _ _).alloc (Nat.le_refl _) _
  have hws := H2.out.2.2.1.size
  refine ⟨_, rfl, ⟨_, b1, _, b2, ⟨hn, new_list (H2.out.1.same (hB.block b1 (by omega))), new_list (H2.out.2.1.same (hB.block b2 hl2)), by have := H2.out.2.2.2; omega, fun g e => by cases e⟩, fun k hk => ?_⟩, H2.out.2.2.1.trans (hB.mono hws)⟩
  have e1 : (w2.alloc (.cells (lcells w2.heap.size (.slice none 0 0) b1 (.slice none 0 0) b2).toArray 89)).heap.size = w2.heap.size + 1 := by simp
  have := H1.out.2.1
  have := H2.out.2.2.2
  have := H1.out.2.2.size
  rcases hk with rfl | rfl | rfl | e | e
  · exact ⟨hws, by show _ < (w2.alloc (.cells (lcells _ _ _ _ _).toArray _)).heap.size; rw [e1]; omega⟩
  · exact ⟨this |> fun _ => by omega, by show _ < (w2.alloc (.cells (lcells _ _ _ _ _).toArray _)).heap.size; rw [e1]; omega⟩
  · exact ⟨by omega, by show _ < (w2.alloc (.cells (lcells _ _ _ _ _).toArray _)).heap.size; rw [e1]; omega⟩
  · cases e
  · cases e

set_option maxRecDepth 100000 in
set_option maxHeartbeats 1000000 in
theorem clear_any (h : LgAt w S a f) : Calls Try.prog 48 #[.pointer (some ⟨a, 0, none⟩)] w fun e w' => e = .returned (.int .i64 0) ∧ LOut w S a Lg.zero w' := by
  have HN := Lib.hid (none_any h)
  obtain ⟨pr, br, pw, bw, hp, hS⟩ := h
  have hl := hp.head.lt
  have HH := Lib.hid hp.head
  have HS := Lib.hid (hS a (.inl rfl))
  clear hS hp
  go_enter Try.func48, Try.ntmps48
  go_wp2_with (go_at_call 65; refine HN.out.mono ?_; rintro e w' ⟨rfl, rfl⟩)
  refine (empty_any _).mono ?_
  rintro e w1 ⟨b1, rfl, h1, hb1, hB1⟩
  have H1 := Lib.hid (And.intro h1 (And.intro hb1 hB1)); clear h1 hb1 hB1
  go_wp2_with fail
  refine (empty_any _).mono ?_
  rintro e w2 ⟨b2, rfl, h2, hb2, hB2⟩
  have hl1 := H1.out.1.lt
  have hl2 := h2.lt
  have hs := hB2.size
  have k1 := H1.out.1.same (hB2.block b1 hl1)
  have hBB : Below w.heap.size w w2 := H1.out.2.2.trans (hB2.mono H1.out.2.2.size)
  have hh := HH.out.below hBB
  have c1 := hh.cell (i := 1) rfl
  have c2 := hh.cell (i := 2) rfl
  have c3 := hh.cell (i := 3) rfl
  have c4 := hh.cell (i := 4) rfl
  have f1 := hh.free 1
  have f2 := hh.free 2
  have f3 := hh.free 3
  have f4 := hh.free 4
  have H2 := Lib.hid (And.intro k1 (And.intro h2 (And.intro hBB hb2)))
  have Hh := Lib.hid hh
  clear hB2 hBB h2 k1 hh
  go_wp2
  go_ret
  have hh := H1.out.2.1
  have hh2 := H2.out.2.2.2
  have hh3 := H1.out.2.2.size
  have hk : ∀ k, k ≠ a → ((((w2.setCell ⟨a, 1, none⟩ (.slice none 0 0)).setCell ⟨a, 2, none⟩ (.map (some b1))).setCell ⟨a, 3, none⟩ (.slice none 0 0)).setCell ⟨a, 4, none⟩ (.map (some b2))).heap[k]? = w2.heap[k]? := fun k hk =>
    (Below.heap_setCell _ ⟨a, 4, none⟩ _ k hk).trans ((Below.heap_setCell _ ⟨a, 3, none⟩ _ k hk).trans ((Below.heap_setCell _ ⟨a, 2, none⟩ _ k hk).trans (Below.heap_setCell _ ⟨a, 1, none⟩ _ k hk)))
  have hd : Holds ((((w2.setCell ⟨a, 1, none⟩ (.slice none 0 0)).setCell ⟨a, 2, none⟩ (.map (some b1))).setCell ⟨a, 3, none⟩ (.slice none 0 0)).setCell ⟨a, 4, none⟩ (.map (some b2))) a 89 (lcells a (.slice none 0 0) b1 (.slice none 0 0) b2) := (((Hh.out.set 1 (.slice none 0 0)).set 2 (.map (some b1))).set 3 (.slice none 0 0)).set 4 (.map (some b2))
  have hT : Tch S w2 ((((w2.setCell ⟨a, 1, none⟩ (.slice none 0 0)).setCell ⟨a, 2, none⟩ (.map (some b1))).setCell ⟨a, 3, none⟩ (.slice none 0 0)).setCell ⟨a, 4, none⟩ (.map (some b2))) :=
    ((((Tch.refl S w2).setCell (p := ⟨a, 1, none⟩) (.inl HS.out) _).setCell (p := ⟨a, 2, none⟩) (.inl HS.out) _).setCell (p := ⟨a, 3, none⟩) (.inl HS.out) _).setCell (p := ⟨a, 4, none⟩) (.inl HS.out) _
  have hsz : ((((w2.setCell ⟨a, 1, none⟩ (.slice none 0 0)).setCell ⟨a, 2, none⟩ (.map (some b1))).setCell ⟨a, 3, none⟩ (.slice none 0 0)).setCell ⟨a, 4, none⟩ (.map (some b2))).heap.size = w2.heap.size := by simp
  generalize (((w2.setCell ⟨a, 1, none⟩ (.slice none 0 0)).setCell ⟨a, 2, none⟩ (.map (some b1))).setCell ⟨a, 3, none⟩ (.slice none 0 0)).setCell ⟨a, 4, none⟩ (.map (some b2)) = W at *
  refine ⟨rfl, ⟨_, b1, _, b2, ⟨hd, new_list (H2.out.1.same (hk b1 (by omega))), new_list (H2.out.2.1.same (hk b2 (by omega))), by omega, fun g e => by cases e⟩, fun k hk => ?_⟩, (Tch.of_idle H2.out.2.2.1).trans hT⟩
  rcases hk with rfl | rfl | rfl | e | e
  · exact .inl HS.out
  · exact .inr ⟨by omega, by omega⟩
  · exact .inr ⟨by omega, by omega⟩
  · cases e
  · cases e
end

/-! ### In a law's walk -/
section
variable {w w' : World}
theorem RowL.same {lo : Nat} {v : Value} {l : List Pr} (h : RowL w lo v l) (hb : ∀ g, v.ownBlock = some g → w'.heap[g]? = w.heap[g]?) : RowL w' lo v l := owns_same h hb
theorem RowL.lt {lo : Nat} {v : Value} {l : List Pr} (h : RowL w lo v l) {g : Nat} (hg : v.ownBlock = some g) : lo ≤ g ∧ g < w.heap.size := owns_lt h hg
theorem RowL.form {lo : Nat} {v : Value} {l : List Pr} (h : RowL w lo v l) (hn : 0 < l.length) : ∃ g cap, v = .slice (some ⟨g, 0, none⟩) l.length cap := by
  obtain ⟨g, cap, hv, -, -⟩ := World.ownsRow.form h hn
  exact ⟨g, cap, hv⟩
theorem RowL.at {lo g len cap : Nat} {l : List Pr} (h : RowL w lo (.slice (some ⟨g, 0, none⟩) len cap) l) {i : Nat} {x : Pr} (hx : l[i]? = some x) : w.cell? ⟨g, i * 2, none⟩ = some (.int .i64 x.a) ∧ w.cell? ⟨g, i * 2 + 1, none⟩ = some (.int .u64 x.v) :=
  ⟨(owns_cell h rfl (by rw [Nat.mul_comm]; exact flatP_a hx)).1, (owns_cell h rfl (by rw [Nat.mul_comm]; exact flatP_v hx)).1⟩
/-- A value of a row turned. -/
theorem RowL.setv {lo g len cap : Nat} {l : List Pr} (h : RowL w lo (.slice (some ⟨g, 0, none⟩) len cap) l) {n : Nat} {x : Pr} (hx : l[n]? = some x) (v : Int) : RowL (w.setCell ⟨g, n * 2 + 1, none⟩ (.int .u64 v)) lo (.slice (some ⟨g, 0, none⟩) len cap) (l.set n ⟨x.a, v⟩) := by
  unfold RowL at *
  have hl : len = l.length := by
    rcases h.2 with ⟨e, _⟩ | ⟨_, _, _, e, _⟩
    · cases e
    · cases e; rfl
  subst hl
  have := (World.ownsRow.stored h (n * 2 + 1) (.int .u64 v)).1
  rw [List.length_set, ← flatP_set hx, Nat.mul_comm 2 n]
  exact this
/-- A row that the call made, as one that came in. -/
theorem RowL.rows {lo : Nat} {v : Value} {l : List Pr} (h : RowL w lo v l) : ∃ ad cap, v = .slice ad l.length cap ∧ RowsIn w ad 2 Pr.cells l ∧ (ad = none ∨ ∃ g, ad = some ⟨g, 0, none⟩ ∧ v.ownBlock = some g) := by
  rcases owns_form h with ⟨rfl, h2, -⟩ | ⟨g, cap, rfl, hg⟩
  · exact ⟨none, 0, by rw [h2], .inl (List.eq_nil_of_length_eq_zero h2), .inl rfl⟩
  · refine ⟨_, cap, rfl, .inr ⟨g, 0, rfl, (owns_lt h hg).2, fun k x hx i u hu => ?_⟩, .inr ⟨g, rfl, hg⟩⟩
    have hi : i < 2 := (List.getElem?_eq_some_iff.1 hu).1
    refine (owns_cell h hg (j := 0 + k * 2 + i) ?_).1
    match i, hi with
    | 0, _ => cases hu; rw [show 0 + k * 2 + 0 = 2 * k from by omega]; exact flatP_a hx
    | 1, _ => cases hu; rw [show 0 + k * 2 + 1 = 2 * k + 1 from by omega]; exact flatP_v hx
end

end Go.Proofs.Ytgdfiggloifncaa
