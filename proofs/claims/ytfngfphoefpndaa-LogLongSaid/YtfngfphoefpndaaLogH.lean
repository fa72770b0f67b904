/- A log: New, Clear; Broken. Conditions: those stated in each theorem. -/
import Derived.Test.YtfngfphoefpndaaLogG
namespace Go.Proofs.Ytfngfphoefpndaa
open Go.RowKit Go.BigFrame Go.Maps

section
variable {w w' : World} {a : Nat} {f : Lg} {S : Nat → Prop}

theorem broken_any (h : LgAt w S a f) (ad : Option Addr) (cap : Nat) (now : List Pr) (hnow : RowsIn w ad 2 Pr.cells now) (hln : now.length ≤ 100000) :
    Calls Try.prog 20 #[.pointer (some ⟨a, 0, none⟩), .slice ad now.length cap] w fun e w' => e = .returned (BrkAns f.r now) ∧ Below w.heap.size w w' := callsIn_wide.1 (broken_in w h ad cap now hnow hln)

/-- A new list. -/
theorem new_list {b : Nat} (h : MapAt w b []) : LsAt w (.slice none 0 0) b [] := ⟨World.ownsRow_nil _ _ _ _, h, by simp, fun x hx => by cases hx⟩

set_option maxRecDepth 100000 in
set_option maxHeartbeats 1000000 in
theorem new_any (w : World) : Calls Try.prog 10 #[] w fun e w' => ∃ a, e = .returned (.pointer (some ⟨a, 0, none⟩)) ∧ LgAt w' (fun k => w.heap.size ≤ k ∧ k < w'.heap.size) a Lg.zero ∧ Below w.heap.size w w' := by
  go_enter Try.func10, Try.ntmps10
  go_wp2_with fail
  refine (empty_any _).mono ?_
  rintro e w1 ⟨b1, rfl, h1, hb1, hB1⟩
  have H1 := Lib.hid (And.intro h1 (And.intro hb1 hB1)); clear h1 hb1 hB1
  go_wp2_with fail
  refine (empty_any _).mono ?_
  rintro e w2 ⟨b2, rfl, h2, hb2, hB2⟩
  have hl1 := H1.out.1.lt
  have hl2 := h2.lt
  have hs := hB2.size
  have k1 := H1.out.1.same (hB2.block b1 hl1)
  have hBB : Below w.heap.size w w2 := H1.out.2.2.trans (hB2.mono H1.out.2.2.size)
  have H2 := Lib.hid (And.intro k1 (And.intro h2 (And.intro hBB hb2)))
  clear hB2 hBB h2 k1
  go_wp2
  go_ret
  have hn : Holds (w2.alloc (.cells (lcells w2.heap.size (.slice none 0 0) b1 (.slice none 0 0) b2).toArray 54)) w2.heap.size 54 (lcells w2.heap.size (.slice none 0 0) b1 (.slice none 0 0) b2) := Holds.new _ _ _
  have hB : Below w2.heap.size w2 (w2.alloc (.cells (lcells w2.heap.size (.slice none 0 0) b1 (.slice none 0 0) b2).toArray 54)) := (Below.refl _ _).alloc (Nat.le_refl _) _
  have hws := H2.out.2.2.1.size
  refine ⟨_, rfl, ⟨_, b1, _, b2, ⟨hn, new_list (H2.out.1.same (hB.block b1 (by omega))), new_list (H2.out.2.1.same (hB.block b2 hl2)), by have := H2.out.2.2.2; omega, fun g e => by cases e⟩, fun k hk => ?_⟩, H2.out.2.2.1.trans (hB.mono hws)⟩
  have e1 : (w2.alloc (.cells (lcells w2.heap.size (.slice none 0 0) b1 (.slice none 0 0) b2).toArray 54)).heap.size = w2.heap.size + 1 := by simp
  have := H1.out.2.1
  have := H2.out.2.2.2
  have := H1.out.2.2.size
  rcases hk with rfl | rfl | rfl | e | e
  · exact ⟨hws, by show _ < (w2.alloc (.cells (lcells _ _ _ _ _).toArray _)).heap.size; rw [e1]; omega⟩
  · exact ⟨this |> fun _ => by omega, by show _ < (w2.alloc (.cells (lcells _ _ _ _ _).toArray _)).heap.size; rw [e1]; omega⟩
  · exact ⟨by omega, by show _ < (w2.alloc (.cells (lcells _ _ _ _ _).toArray _)).heap.size; rw [e1]; omega⟩
  · cases e
  · cases e

set_option maxRecDepth 100000 in
set_option maxHeartbeats 1000000 in
theorem clear_any (h : LgAt w S a f) : Calls Try.prog 21 #[.pointer (some ⟨a, 0, none⟩)] w fun e w' => e = .returned (.int .i64 0) ∧ LOut w S a Lg.zero w' := by
  have HN := Lib.hid (none_any h)
  obtain ⟨pr, br, pw, bw, hp, hS⟩ := h
  have hl := hp.head.lt
  have HH := Lib.hid hp.head
  have HS := Lib.hid (hS a (.inl rfl))
  clear hS hp
  go_enter Try.func21, Try.ntmps21
  go_wp2_with (go_at_call 31; refine HN.out.mono ?_; rintro e w' ⟨rfl, rfl⟩)
  refine (empty_any _).mono ?_
  rintro e w1 ⟨b1, rfl, h1, hb1, hB1⟩
  have H1 := Lib.hid (And.intro h1 (And.intro hb1 hB1)); clear h1 hb1 hB1
  go_wp2_with fail
  refine (empty_any _).mono ?_
  rintro e w2 ⟨b2, rfl, h2, hb2, hB2⟩
  have hl1 := H1.out.1.lt
  have hl2 := h2.lt
  have hs := hB2.size
  have k1 := H1.out.1.same (hB2.block b1 hl1)
  have hBB : Below w.heap.size w w2 := H1.out.2.2.trans (hB2.mono H1.out.2.2.size)
  have hh := HH.out.below hBB
  have c1 := hh.cell (i := 1) rfl
  have c2 := hh.cell (i := 2) rfl
  have c3 := hh.cell (i := 3) rfl
  have c4 := hh.cell (i := 4) rfl
  have f1 := hh.free 1
  have f2 := hh.free 2
  have f3 := hh.free 3
  have f4 := hh.free 4
  have H2 := Lib.hid (And.intro k1 (And.intro h2 (And.intro hBB hb2)))
  have Hh := Lib.hid hh
  clear hB2 hBB h2 k1 hh
  go_wp2
  go_ret
  have hh := H1.out.2.1
  have hh2 := H2.out.2.2.2
  have hh3 := H1.out.2.2.size
  have hk : ∀ k, k ≠ a → ((((w2.setCell ⟨a, 1, none⟩ (.slice none 0 0)).setCell ⟨a, 2, none⟩ (.map (some b1))).setCell ⟨a, 3, none⟩ (.slice none 0 0)).setCell ⟨a, 4, none⟩ (.map (some b2))).heap[k]? = w2.heap[k]? := fun k hk =>
    (Below.heap_setCell _ ⟨a, 4, none⟩ _ k hk).trans ((Below.heap_setCell _ ⟨a, 3, none⟩ _ k hk).trans ((Below.heap_setCell _ ⟨a, 2, none⟩ _ k hk).trans (Below.heap_setCell _ ⟨a, 1, none⟩ _ k hk)))
  have hd : Holds ((((w2.setCell ⟨a, 1, none⟩ (.slice none 0 0)).setCell ⟨a, 2, none⟩ (.map (some b1))).setCell ⟨a, 3, none⟩ (.slice none 0 0)).setCell ⟨a, 4, none⟩ (.map (some b2))) a 54 (lcells a (.slice none 0 0) b1 (.slice none 0 0) b2) := (((Hh.out.set 1 (.slice none 0 0)).set 2 (.map (some b1))).set 3 (.slice none 0 0)).set 4 (.map (some b2))
  have hT : Tch S w2 ((((w2.setCell ⟨a, 1, none⟩ (.slice none 0 0)).setCell ⟨a, 2, none⟩ (.map (some b1))).setCell ⟨a, 3, none⟩ (.slice none 0 0)).setCell ⟨a, 4, none⟩ (.map (some b2))) :=
    ((((Tch.refl S w2).setCell (p := ⟨a, 1, none⟩) (.inl HS.out) _).setCell (p := ⟨a, 2, none⟩) (.inl HS.out) _).setCell (p := ⟨a, 3, none⟩) (.inl HS.out) _).setCell (p := ⟨a, 4, none⟩) (.inl HS.out) _
  have hsz : ((((w2.setCell ⟨a, 1, none⟩ (.slice none 0 0)).setCell ⟨a, 2, none⟩ (.map (some b1))).setCell ⟨a, 3, none⟩ (.slice none 0 0)).setCell ⟨a, 4, none⟩ (.map (some b2))).heap.size = w2.heap.size := by simp
  generalize (((w2.setCell ⟨a, 1, none⟩ (.slice none 0 0)).setCell ⟨a, 2, none⟩ (.map (some b1))).setCell ⟨a, 3, none⟩ (.slice none 0 0)).setCell ⟨a, 4, none⟩ (.map (some b2)) = W at *
  refine ⟨rfl, ⟨_, b1, _, b2, ⟨hd, new_list (H2.out.1.same (hk b1 (by omega))), new_list (H2.out.2.1.same (hk b2 (by omega))), by omega, fun g e => by cases e⟩, fun k hk => ?_⟩, (Tch.of_idle H2.out.2.2.1).trans hT⟩
  rcases hk with rfl | rfl | rfl | e | e
  · exact .inl HS.out
  · exact .inr ⟨by omega, by omega⟩
  · exact .inr ⟨by omega, by omega⟩
  · cases e
  · cases e
end

/-! ### In a law's walk -/
/-- Rows that lie aside, each with what it says. -/
def Aside (w0 w : World) (S : Nat → Prop) (G : List (Value × List Pr)) : Prop := ∀ x ∈ G, RowL w w0.heap.size x.1 x.2 ∧ ∀ g, x.1.ownBlock = some g → ¬ S g
/-- Where a law's walk with one log stands. -/
structure LSt (w0 w : World) (a : Nat) (f : Lg) (G : List (Value × List Pr)) : Prop where
  own : ∃ S : Nat → Prop, LgAt w S a f ∧ (∀ k, S k → w0.heap.size ≤ k ∧ k < w.heap.size) ∧ Aside w0 w S G
  below : Below w0.heap.size w0 w

section
variable {w0 w w' : World} {a : Nat} {f f' : Lg} {G : List (Value × List Pr)}
theorem RowL.same {lo : Nat} {v : Value} {l : List Pr} (h : RowL w lo v l) (hb : ∀ g, v.ownBlock = some g → w'.heap[g]? = w.heap[g]?) : RowL w' lo v l := owns_same h hb
theorem RowL.lt {lo : Nat} {v : Value} {l : List Pr} (h : RowL w lo v l) {g : Nat} (hg : v.ownBlock = some g) : lo ≤ g ∧ g < w.heap.size := owns_lt h hg
theorem RowL.form {lo : Nat} {v : Value} {l : List Pr} (h : RowL w lo v l) (hn : 0 < l.length) : ∃ g cap, v = .slice (some ⟨g, 0, none⟩) l.length cap := by
  obtain ⟨g, cap, hv, -, -⟩ := World.ownsRow.form h hn
  exact ⟨g, cap, hv⟩
theorem RowL.at {lo g len cap : Nat} {l : List Pr} (h : RowL w lo (.slice (some ⟨g, 0, none⟩) len cap) l) {i : Nat} {x : Pr} (hx : l[i]? = some x) : w.cell? ⟨g, i * 2, none⟩ = some (.int .i64 x.a) ∧ w.cell? ⟨g, i * 2 + 1, none⟩ = some (.int .u64 x.v) :=
  ⟨(owns_cell h rfl (by rw [Nat.mul_comm]; exact flatP_a hx)).1, (owns_cell h rfl (by rw [Nat.mul_comm]; exact flatP_v hx)).1⟩
/-- A value of a row turned. -/
theorem RowL.setv {lo g len cap : Nat} {l : List Pr} (h : RowL w lo (.slice (some ⟨g, 0, none⟩) len cap) l) {n : Nat} {x : Pr} (hx : l[n]? = some x) (v : Int) : RowL (w.setCell ⟨g, n * 2 + 1, none⟩ (.int .u64 v)) lo (.slice (some ⟨g, 0, none⟩) len cap) (l.set n ⟨x.a, v⟩) := by
  unfold RowL at *
  have hl : len = l.length := by
    rcases h.2 with ⟨e, _⟩ | ⟨_, _, _, e, _⟩
    · cases e
    · cases e; rfl
  subst hl
  have := (World.ownsRow.stored h (n * 2 + 1) (.int .u64 v)).1
  rw [List.length_set, ← flatP_set hx, Nat.mul_comm 2 n]
  exact this
/-- A row that the call made, as one that came in. -/
theorem RowL.rows {lo : Nat} {v : Value} {l : List Pr} (h : RowL w lo v l) : ∃ ad cap, v = .slice ad l.length cap ∧ RowsIn w ad 2 Pr.cells l ∧ (ad = none ∨ ∃ g, ad = some ⟨g, 0, none⟩ ∧ v.ownBlock = some g) := by
  rcases owns_form h with ⟨rfl, h2, -⟩ | ⟨g, cap, rfl, hg⟩
  · exact ⟨none, 0, by rw [h2], .inl (List.eq_nil_of_length_eq_zero h2), .inl rfl⟩
  · refine ⟨_, cap, rfl, .inr ⟨g, 0, rfl, (owns_lt h hg).2, fun k x hx i u hu => ?_⟩, .inr ⟨g, rfl, hg⟩⟩
    have hi : i < 2 := (List.getElem?_eq_some_iff.1 hu).1
    refine (owns_cell h hg (j := 0 + k * 2 + i) ?_).1
    match i, hi with
    | 0, _ => cases hu; rw [show 0 + k * 2 + 0 = 2 * k from by omega]; exact flatP_a hx
    | 1, _ => cases hu; rw [show 0 + k * 2 + 1 = 2 * k + 1 from by omega]; exact flatP_v hx
theorem LSt.idle (h : LSt w0 w a f G) (hb : Below w.heap.size w w') : LSt w0 w' a f G := by
  obtain ⟨⟨S, h1, h2, h3⟩, h4⟩ := h
  exact ⟨⟨S, h1.below hb, fun k hk => ⟨(h2 k hk).1, Nat.lt_of_lt_of_le (h2 k hk).2 hb.size⟩, fun x hx => ⟨(h3 x hx).1.same (fun g e => hb.block g ((h3 x hx).1.lt e).2), (h3 x hx).2⟩⟩, h4.trans (hb.mono h4.size)⟩
theorem LSt.into {S : Nat → Prop} (h2 : ∀ k, S k → w0.heap.size ≤ k ∧ k < w.heap.size) (h3 : Aside w0 w S G) (h4 : Below w0.heap.size w0 w) (k : LOut w S a f' w') : LSt w0 w' a f' G := by
  obtain ⟨k1, k2⟩ := k
  refine ⟨⟨_, k1, fun k hk => ?_, fun x hx => ⟨(h3 x hx).1.same (fun g e => k2.block g ((h3 x hx).1.lt e).2 ((h3 x hx).2 g e)), fun g e hg => ?_⟩⟩, h4.trans (k2.below h4.size (fun k hk => (h2 k hk).1))⟩
  · rcases hk with hk | hk
    · exact ⟨(h2 k hk).1, Nat.lt_of_lt_of_le (h2 k hk).2 k2.size⟩
    · exact ⟨Nat.le_trans h4.size hk.1, hk.2⟩
  · rcases hg with hg | hg
    · exact (h3 x hx).2 g e hg
    · have := ((h3 x hx).1.lt e).2; omega
theorem LSt.drop (h : LSt w0 w a f G) (G' : List (Value × List Pr)) (hG : ∀ x ∈ G', x ∈ G) : LSt w0 w a f G' := by
  obtain ⟨⟨S, h1, h2, h3⟩, h4⟩ := h
  exact ⟨⟨S, h1, h2, fun x hx => h3 x (hG x hx)⟩, h4⟩
/-- A row of new memory is laid aside. -/
theorem LSt.more (h : LSt w0 w a f G) (hb : Below w.heap.size w w') {v : Value} {l : List Pr} (hr : RowL w' w.heap.size v l) : LSt w0 w' a f ((v, l) :: G) := by
  obtain ⟨⟨S, h1, h2, h3⟩, h4⟩ := h.idle hb
  obtain ⟨⟨T, k1, k2, k3⟩, k4⟩ := h
  refine ⟨⟨T, k1.below hb, fun k hk => ⟨(k2 k hk).1, Nat.lt_of_lt_of_le (k2 k hk).2 hb.size⟩, fun x hx => ?_⟩, h4⟩
  rcases List.mem_cons.1 hx with rfl | hx
  · exact ⟨owns_mono hr (fun g e => Nat.le_trans k4.size (hr.lt e).1), fun g e hg => by have := (k2 g hg).2; have := (hr.lt e).1; omega⟩
  · exact ⟨(k3 x hx).1.same (fun g e => hb.block g ((k3 x hx).1.lt e).2), (k3 x hx).2⟩
/-- A row that lies aside is turned, or made longer. -/
theorem LSt.redo (h : LSt w0 w a f G) {v v' : Value} {l l' : List Pr} {G' : List (Value × List Pr)} (hx : (v, l) ∈ G) (ht : Tch (fun k => v.ownBlock = some k) w w') (hr : RowL w' w0.heap.size v' l') (hv : ∀ g, v'.ownBlock = some g → v.ownBlock = some g ∨ w.heap.size ≤ g)
    (hG : ∀ y ∈ G', y ∈ G ∧ ∀ g, y.1.ownBlock = some g → v.ownBlock ≠ some g) : LSt w0 w' a f ((v', l') :: G') := by
  obtain ⟨⟨S, h1, h2, h3⟩, h4⟩ := h
  have hS := (h3 _ hx).2
  refine ⟨⟨S, h1.frame ht (fun k hk e => hS k e hk), fun k hk => ⟨(h2 k hk).1, Nat.lt_of_lt_of_le (h2 k hk).2 ht.size⟩, fun y hy => ?_⟩, h4.trans (ht.below h4.size (fun k e => ((h3 _ hx).1.lt e).1))⟩
  rcases List.mem_cons.1 hy with rfl | hy
  · exact ⟨hr, fun g e hg => by
      rcases hv g e with e2 | e2
      · exact hS g e2 hg
      · have := (h2 g hg).2; omega⟩
  · obtain ⟨hyG, hyn⟩ := hG y hy
    exact ⟨(h3 y hyG).1.same (fun g e => ht.block g ((h3 y hyG).1.lt e).2 (hyn g e)), (h3 y hyG).2⟩
theorem LSt.row (h : LSt w0 w a f G) {x : Value × List Pr} (hx : x ∈ G) : RowL w w0.heap.size x.1 x.2 := by
  obtain ⟨⟨S, h1, h2, h3⟩, h4⟩ := h
  exact (h3 x hx).1
theorem LSt.row1 {v : Value} {l : List Pr} (h : LSt w0 w a f ((v, l) :: G)) : RowL w w0.heap.size v l := h.row (List.mem_cons_self ..)
theorem LSt.row2 {v v2 : Value} {l l2 : List Pr} (h : LSt w0 w a f ((v2, l2) :: (v, l) :: G)) : RowL w w0.heap.size v l := h.row (x := (v, l)) (by simp)
theorem LSt.fit (h : LSt w0 w a f G) : FitL f.r ∧ FitL f.w ∧ f.r.length ≤ 128 ∧ f.w.length ≤ 128 := by
  obtain ⟨⟨S, h1, h2, h3⟩, h4⟩ := h
  exact h1.fit

theorem read_st (h : LSt w0 w a f G) (i v : Int) (hi : (Lit.int .i64 i).wf = true) (hv : (Lit.int .u64 v).wf = true) : Calls Try.prog 16 #[.pointer (some ⟨a, 0, none⟩), .int .i64 i, .int .u64 v] w fun e w' => e = .returned (.int .i64 (errRead f.r i)) ∧ LSt w0 w' a (f.read i v) G := by
  obtain ⟨⟨S, h1, h2, h3⟩, h4⟩ := h
  exact (read_any h1 i v hi hv).mono fun _ _ ⟨e, k⟩ => ⟨e, LSt.into h2 h3 h4 k⟩
theorem write_st (h : LSt w0 w a f G) (i v : Int) (hi : (Lit.int .i64 i).wf = true) (hv : (Lit.int .u64 v).wf = true) : Calls Try.prog 18 #[.pointer (some ⟨a, 0, none⟩), .int .i64 i, .int .u64 v] w fun e w' => e = .returned (.int .i64 (errRead f.w i)) ∧ LSt w0 w' a (f.write i v) G := by
  obtain ⟨⟨S, h1, h2, h3⟩, h4⟩ := h
  exact (write_any h1 i v hi hv).mono fun _ _ ⟨e, k⟩ => ⟨e, LSt.into h2 h3 h4 k⟩
theorem clear_st (h : LSt w0 w a f G) : Calls Try.prog 21 #[.pointer (some ⟨a, 0, none⟩)] w fun e w' => e = .returned (.int .i64 0) ∧ LSt w0 w' a Lg.zero G := by
  obtain ⟨⟨S, h1, h2, h3⟩, h4⟩ := h
  exact (clear_any h1).mono fun _ _ ⟨e, k⟩ => ⟨e, LSt.into h2 h3 h4 k⟩
theorem was_st (h : LSt w0 w a f G) (i : Int) (hi : (Lit.int .i64 i).wf = true) : Calls Try.prog 22 #[.pointer (some ⟨a, 0, none⟩), .int .i64 i] w fun e w' => e = .returned (.tuple #[.int .u64 (valL f.r i), .bool (hasL f.r i)]) ∧ w = w' := by
  obtain ⟨⟨S, h1, h2, h3⟩, h4⟩ := h
  exact was_any h1 i hi
theorem look_st (h : LSt w0 w a f G) (i : Int) (hi : (Lit.int .i64 i).wf = true) : Calls Try.prog 23 #[.pointer (some ⟨a, 0, none⟩), .int .i64 i] w fun e w' => e = .returned (.tuple #[.int .u64 (valL f.w i), .bool (hasL f.w i)]) ∧ w = w' := by
  obtain ⟨⟨S, h1, h2, h3⟩, h4⟩ := h
  exact look_any h1 i hi
theorem reads_st (h : LSt w0 w a f G) : Calls Try.prog 13 #[.pointer (some ⟨a, 0, none⟩)] w fun e w' => ∃ v, e = .returned v ∧ LSt w0 w' a f ((v, f.r) :: G) := by
  obtain ⟨⟨S, h1, h2, h3⟩, h4⟩ := h
  exact (reads_any h1).mono fun _ _ ⟨v, e, k1, k2⟩ => ⟨v, e, LSt.more ⟨⟨S, h1, h2, h3⟩, h4⟩ k2 k1⟩
theorem writes_st (h : LSt w0 w a f G) : Calls Try.prog 14 #[.pointer (some ⟨a, 0, none⟩)] w fun e w' => ∃ v, e = .returned v ∧ LSt w0 w' a f ((v, f.w) :: G) := by
  obtain ⟨⟨S, h1, h2, h3⟩, h4⟩ := h
  exact (writes_any h1).mono fun _ _ ⟨v, e, k1, k2⟩ => ⟨v, e, LSt.more ⟨⟨S, h1, h2, h3⟩, h4⟩ k2 k1⟩
theorem broken_st (h : LSt w0 w a f G) (ad : Option Addr) (cap : Nat) (now : List Pr) (hnow : RowsIn w ad 2 Pr.cells now) (hln : now.length ≤ 100000) :
    Calls Try.prog 20 #[.pointer (some ⟨a, 0, none⟩), .slice ad now.length cap] w fun e w' => e = .returned (BrkAns f.r now) ∧ LSt w0 w' a f G := by
  obtain ⟨⟨S, h1, h2, h3⟩, h4⟩ := h
  exact (broken_any h1 ad cap now hnow hln).mono fun _ _ ⟨e, k⟩ => ⟨e, LSt.idle ⟨⟨S, h1, h2, h3⟩, h4⟩ k⟩
theorem new_st (hb : Below w0.heap.size w0 w) : Calls Try.prog 10 #[] w fun e w' => ∃ a, e = .returned (.pointer (some ⟨a, 0, none⟩)) ∧ LSt w0 w' a Lg.zero [] :=
  (new_any w).mono fun _ _ ⟨a, h1, h2, h3⟩ => ⟨a, h1, ⟨_, h2, fun _ hk => ⟨Nat.le_trans hb.size hk.1, hk.2⟩, by simp [Aside]⟩, hb.trans (h3.mono hb.size)⟩
end

end Go.Proofs.Ytfngfphoefpndaa
