/- A node in a law's walk; New; the example alive. Conditions: those stated in each theorem. -/
import Derived.Test.YtddajnpichchfaaNodeM
namespace Go.Proofs.Ytddajnpichchfaa
open Go.RowKit Go.BigFrame Go.Sort

/-- Rows that lie aside. -/
def rowsM (v : Value) (ms : List MsgV) : List (Nat × List Value) := match v with | .slice (some ad) _ _ => [(ad.block, ms.flatMap MsgV.cells)] | _ => []
def SlM (v : Value) (ms : List MsgV) : Prop := (v = .slice none 0 0 ∧ ms = []) ∨ ∃ g cap, v = .slice (some ⟨g, 0, none⟩) ms.length cap

/-- Where a law's walk with one node stands. -/
structure NSt (w0 w : World) (a p S : Nat) (bs : List Nat) (ways : Nat) (n : Nd) (G : List (Nat × List Value)) : Prop where
  node : ∃ bv, NodeAt w w0.heap.size a p S bs ways bv n ∧ ∀ x ∈ G, ¬ Own a p bs bv x.1
  below : Below w0.heap.size w0 w
  rows : ∀ x ∈ G, x.1 < w.heap.size ∧ w.rangeAt x.1 0 x.2

section
variable {w0 w w' : World} {a p S : Nat} {bs : List Nat} {ways : Nat} {n n' : Nd} {G : List (Nat × List Value)}
theorem NSt.size (h : NSt w0 w a p S bs ways n G) : w0.heap.size ≤ w.heap.size := h.below.size
theorem NSt.idle (h : NSt w0 w a p S bs ways n G) (hb : Below w.heap.size w w') : NSt w0 w' a p S bs ways n G := by
  obtain ⟨bv, h1, h2⟩ := h.node
  exact ⟨⟨bv, h1.below hb (Nat.le_refl _), h2⟩, h.below.trans (hb.mono h.size), fun x hx => ⟨Nat.lt_of_lt_of_le (h.rows x hx).1 hb.size, fun i v hi => by
    rw [World.cell?_of_block (a := ⟨x.1, 0 + i, none⟩) (hb.block _ (h.rows x hx).1)]
    exact (h.rows x hx).2 i v hi⟩⟩
theorem NSt.self (h : NSt w0 w a p S bs ways n G) (hT : ∀ bv, NodeAt w w0.heap.size a p S bs ways bv n → NodeAt w' w0.heap.size a p S bs ways bv n' ∧ Tch (Own a p bs bv) w w') : NSt w0 w' a p S bs ways n' G := by
  obtain ⟨bv, h1, h2⟩ := h.node
  obtain ⟨h3, h4⟩ := hT bv h1
  exact ⟨⟨bv, h3, h2⟩, h.below.trans (h1.belowLo h4), fun x hx => ⟨Nat.lt_of_lt_of_le (h.rows x hx).1 h4.size, fun i v hi => by
    rw [World.cell?_of_block (a := ⟨x.1, 0 + i, none⟩) (h4.block _ (h.rows x hx).1 (h2 x hx))]
    exact (h.rows x hx).2 i v hi⟩⟩
theorem NSt.drop (h : NSt w0 w a p S bs ways n G) (G' : List (Nat × List Value)) (hG : ∀ x ∈ G', x ∈ G) : NSt w0 w a p S bs ways n G' := by
  obtain ⟨bv, h1, h2⟩ := h.node
  exact ⟨⟨bv, h1, fun x hx => h2 x (hG x hx)⟩, h.below, fun x hx => h.rows x (hG x hx)⟩
/-- What a call answered is laid aside. -/
theorem NSt.next {bv : Value} (hG : ∀ x ∈ G, ¬ Own a p bs bv x.1) (hb : Below w0.heap.size w0 w) (h1 : NodeAt w w0.heap.size a p S bs ways bv n) (hr : ∀ x ∈ G, x.1 < w.heap.size ∧ w.rangeAt x.1 0 x.2) {ms : List MsgV} {v : Value} (hn : NOut w w0.heap.size a p S bs ways bv n' ms v w') :
    SlM v ms ∧ NSt w0 w' a p S bs ways n' (rowsM v ms ++ G) := by
  obtain ⟨bv', o1, o2, o3, o4⟩ := hn
  have hl := h1.lts
  have hG' : ∀ x ∈ G, ¬ Own a p bs bv' x.1 := fun x hx hk => by
    rcases hk with hk | hk | hk
    · exact hG x hx (.inl hk)
    · exact hG x hx (.inr (.inl hk))
    · rcases o4 _ hk with h | h
      · exact hG x hx (.inr (.inr h))
      · have := (hr x hx).1; omega
  have hr' : ∀ x ∈ G, x.1 < w'.heap.size ∧ w'.rangeAt x.1 0 x.2 := fun x hx => ⟨Nat.lt_of_lt_of_le (hr x hx).1 o3.size, fun i v hi => by
    rw [World.cell?_of_block (a := ⟨x.1, 0 + i, none⟩) (o3.block _ (hr x hx).1 (hG x hx))]
    exact (hr x hx).2 i v hi⟩
  have hb' : Below w0.heap.size w0 w' := hb.trans (h1.belowLo o3)
  rcases owns_form o1.1 with ⟨rfl, h0, -⟩ | ⟨g, cap, rfl, hg⟩
  · obtain rfl := List.eq_nil_of_length_eq_zero h0
    exact ⟨.inl ⟨rfl, rfl⟩, ⟨bv', o2, fun x hx => hG' x hx⟩, hb', fun x hx => hr' x hx⟩
  · have hgl := owns_lt o1.1 hg
    have hno : ¬ Own a p bs bv' g := fun hk => by
      rcases hk with hk | hk | hk
      · omega
      · exact hk.elim (fun e => by omega) (fun hm => by have := hl.2.2.2 g hm; omega)
      · exact o1.2 g hg hk
    refine ⟨.inr ⟨g, cap, rfl⟩, ⟨bv', o2, fun x hx => ?_⟩, hb', fun x hx => ?_⟩
    · rcases List.mem_append.1 hx with hx | hx
      · simp only [rowsM, List.mem_singleton] at hx; subst hx; exact hno
      · exact hG' x hx
    · rcases List.mem_append.1 hx with hx | hx
      · simp only [rowsM, List.mem_singleton] at hx; subst hx
        exact ⟨hgl.2, fun i v hi => by rw [Nat.zero_add]; exact (owns_cell o1.1 hg hi).1⟩
      · exact hr' x hx

theorem load_st (h : NSt w0 w a p S bs ways n G) (k : Int) (hk : k ≤ 9223372036854775807) (h0 : 0 ≤ n.u) (hu : n.u < 4294967295) (hl : n.backs.length < 100000) :
    Calls Try.prog 13 #[.pointer (some ⟨a, 0, none⟩), .int .i64 k] w fun e w' => ∃ v, e = .returned (.tuple #[.int .u64 (n.load k).2.1, .bool (n.load k).2.2.1, v, .int .i64 (n.load k).2.2.2.2]) ∧ SlM v (n.load k).2.2.2.1 ∧ NSt w0 w' a p S bs ways (n.load k).1 (rowsM v (n.load k).2.2.2.1 ++ G) := by
  obtain ⟨bv, h1, h2⟩ := h.node
  refine (load_any h1 k hk (by omega) h0 (by omega)).mono ?_
  rintro e w' ⟨v, rfl, hn⟩
  exact ⟨v, rfl, NSt.next h2 h.below h1 h.rows hn⟩
theorem store_st (h : NSt w0 w a p S bs ways n G) (k x : Int) (hk : k ≤ 9223372036854775807) (h0 : 0 ≤ n.u) (hu : n.u < 4294967295) (hl : n.backs.length < 100000) :
    Calls Try.prog 19 #[.pointer (some ⟨a, 0, none⟩), .int .i64 k, .int .u64 x] w fun e w' => ∃ v, e = .returned (.tuple #[.bool (n.store k x).2.1, v, .int .i64 (n.store k x).2.2.2]) ∧ SlM v (n.store k x).2.2.1 ∧ NSt w0 w' a p S bs ways (n.store k x).1 (rowsM v (n.store k x).2.2.1 ++ G) := by
  obtain ⟨bv, h1, h2⟩ := h.node
  refine (store_any h1 k x hk (by omega) h0 (by omega)).mono ?_
  rintro e w' ⟨v, rfl, hn⟩
  exact ⟨v, rfl, NSt.next h2 h.below h1 h.rows hn⟩
theorem cas_st (h : NSt w0 w a p S bs ways n G) (k old x : Int) (hk : k ≤ 9223372036854775807) (h0 : 0 ≤ n.u) (hu : n.u < 4294967295) (hl : n.backs.length < 100000) :
    Calls Try.prog 21 #[.pointer (some ⟨a, 0, none⟩), .int .i64 k, .int .u64 old, .int .u64 x] w fun e w' => ∃ v, e = .returned (.tuple #[.bool (n.cas k old x).2.1, .bool (n.cas k old x).2.2.1, v, .int .i64 (n.cas k old x).2.2.2.2]) ∧ SlM v (n.cas k old x).2.2.2.1 ∧ NSt w0 w' a p S bs ways (n.cas k old x).1 (rowsM v (n.cas k old x).2.2.2.1 ++ G) := by
  obtain ⟨bv, h1, h2⟩ := h.node
  refine (cas_any h1 k old x hk (by omega) h0 (by omega)).mono ?_
  rintro e w' ⟨v, rfl, hn⟩
  exact ⟨v, rfl, NSt.next h2 h.below h1 h.rows hn⟩
theorem hear_st (h : NSt w0 w a p S bs ways n G) (m : MsgV) (h0 : 0 ≤ n.u) (hu : n.u < 4294967295) (hl : n.backs.length < 100000) :
    Calls Try.prog 14 #[.pointer (some ⟨a, 0, none⟩), .agg m.cells.toArray] w fun e w' => ∃ v, e = .returned (.tuple #[v, .int .i64 (n.hear m).2.2]) ∧ SlM v (n.hear m).2.1 ∧ NSt w0 w' a p S bs ways (n.hear m).1 (rowsM v (n.hear m).2.1 ++ G) := by
  obtain ⟨bv, h1, h2⟩ := h.node
  refine (hear_any h1 m h0 (by omega) hl).mono ?_
  rintro e w' ⟨v, rfl, hn⟩
  exact ⟨v, rfl, NSt.next h2 h.below h1 h.rows hn⟩
theorem drop_st (h : NSt w0 w a p S bs ways n G) (k : Int) (hl : n.backs.length < 100000) :
    Calls Try.prog 20 #[.pointer (some ⟨a, 0, none⟩), .int .i64 k] w fun e w' => ∃ v, e = .returned (.tuple #[v, .int .i64 (n.drop k).2.2]) ∧ SlM v (n.drop k).2.1 ∧ NSt w0 w' a p S bs ways (n.drop k).1 (rowsM v (n.drop k).2.1 ++ G) := by
  obtain ⟨bv, h1, h2⟩ := h.node
  refine (ndrop_any h1 k hl).mono ?_
  rintro e w' ⟨v, rfl, hn⟩
  exact ⟨v, rfl, NSt.next h2 h.below h1 h.rows hn⟩
theorem begin_st (h : NSt w0 w a p S bs ways n G)  : Calls Try.prog 15 #[.pointer (some ⟨a, 0, none⟩)] w fun e w' => e = .returned (.int .i64 n.begin.2) ∧ NSt w0 w' a p S bs ways n.begin.1 G := by
  obtain ⟨bv, h1, h2⟩ := h.node
  refine (begin_any h1).mono ?_
  rintro e w' ⟨rfl, h3, h4⟩
  exact ⟨rfl, ⟨bv, h3, h2⟩, h.below.trans (h1.belowLo h4), fun x hx => ⟨Nat.lt_of_lt_of_le (h.rows x hx).1 h4.size, fun i v hi => by
    rw [World.cell?_of_block (a := ⟨x.1, 0 + i, none⟩) (h4.block _ (h.rows x hx).1 (h2 x hx))]
    exact (h.rows x hx).2 i v hi⟩⟩
theorem ncommit_st (h : NSt w0 w a p S bs ways n G)  : Calls Try.prog 23 #[.pointer (some ⟨a, 0, none⟩)] w fun e w' => e = .returned (.int .i64 n.commit.2) ∧ NSt w0 w' a p S bs ways n.commit.1 G := by
  obtain ⟨bv, h1, h2⟩ := h.node
  refine (commit_ok h1).mono ?_
  rintro e w' ⟨rfl, h3, h4⟩
  exact ⟨rfl, ⟨bv, h3, h2⟩, h.below.trans (h1.belowLo h4), fun x hx => ⟨Nat.lt_of_lt_of_le (h.rows x hx).1 h4.size, fun i v hi => by
    rw [World.cell?_of_block (a := ⟨x.1, 0 + i, none⟩) (h4.block _ (h.rows x hx).1 (h2 x hx))]
    exact (h.rows x hx).2 i v hi⟩⟩
theorem nabort_st (h : NSt w0 w a p S bs ways n G) (k : Int) : Calls Try.prog 22 #[.pointer (some ⟨a, 0, none⟩), .int .i64 k] w fun e w' => e = .returned (.int .i64 (n.abortC k).2) ∧ NSt w0 w' a p S bs ways (n.abortC k).1 G := by
  obtain ⟨bv, h1, h2⟩ := h.node
  refine (abortC_ok h1 k).mono ?_
  rintro e w' ⟨rfl, h3, h4⟩
  exact ⟨rfl, ⟨bv, h3, h2⟩, h.below.trans (h1.belowLo h4), fun x hx => ⟨Nat.lt_of_lt_of_le (h.rows x hx).1 h4.size, fun i v hi => by
    rw [World.cell?_of_block (a := ⟨x.1, 0 + i, none⟩) (h4.block _ (h.rows x hx).1 (h2 x hx))]
    exact (h.rows x hx).2 i v hi⟩⟩
theorem live_st (h : NSt w0 w a p S bs ways n G) : Calls Try.prog 18 #[.pointer (some ⟨a, 0, none⟩)] w fun e w' => e = .returned (.bool n.live) ∧ w = w' := by
  obtain ⟨bv, h1, h2⟩ := h.node
  exact live_any h1
theorem code_st (h : NSt w0 w a p S bs ways n G) : Calls Try.prog 17 #[.pointer (some ⟨a, 0, none⟩)] w fun e w' => e = .returned (.int .i64 n.code) ∧ w = w' := by
  obtain ⟨bv, h1, h2⟩ := h.node
  exact code_any h1
end

/-! ### New -/
set_option maxRecDepth 100000 in
set_option maxHeartbeats 1000000 in
theorem nnew_ok (core lines cores : Int) (sets ways : Nat) (w : World) (h1 : 0 ≤ core) (h2 : core < cores) (h3 : cores ≤ 4) (h4 : 2 ≤ lines) (h5 : lines ≤ 64) (s1 : 1 ≤ sets) (s8 : sets ≤ 8) (w1 : 1 ≤ ways) (w4 : ways ≤ 4) :
    Calls Try.prog 24 #[.int .i64 core, .agg #[.int .i64 lines, .int .i64 cores, .int .i64 sets, .int .i64 ways]] w fun e w' => ∃ a p S bs, e = .returned (.tuple #[.pointer (some ⟨a, 0, none⟩), .int .i64 0]) ∧ bs.length = sets ∧ NSt w w' a p S bs ways (Nd.new core lines (newSets sets ways)) [] := by
  have HN := Lib.hid (fun W => new_ok sets ways W s1 s8 w1 w4)
  clear s1 s8 w1 w4
  go_enter Try.func24, Try.ntmps24
  go_wp2_with fail
  refine (HN.out _).mono ?_
  rintro e W ⟨p, S, bs, rfl, hbl, hc, hb, hp, hS, hbs⟩
  have hb0 : Below w.heap.size w W := ((Below.refl _ w).alloc (Nat.le_refl _) _).trans (hb.mono (by simp))
  have c0 : W.cell? ⟨w.heap.size, 0, none⟩ = some (.int .i64 lines) := by rw [hb.cell (p := ⟨w.heap.size, 0, none⟩) (by simp)]; simp
  have hsz : w.heap.size + 1 ≤ W.heap.size := by have := hb.size; simpa using this
  simp only [World.size_alloc] at hp hS hbs
  have hno : ¬ (W.heap.size = p ∨ W.heap.size = S ∨ W.heap.size ∈ bs) := by
    have hl := hc.lt
    rintro (e | e | e)
    · omega
    · omega
    · have := hl.2.2 _ e; omega
  have HH : Hid (bs.length = sets ∧ NSt w (W.alloc (.cells ((Nd.new core lines (newSets sets ways)).cells p (.slice none 0 0)).toArray 123)) W.heap.size p S bs ways (Nd.new core lines (newSets sets ways)) []) := Lib.hid ⟨hbl, ⟨⟨.slice none 0 0, ⟨hc.alloc _, Holds.new W _ _, ⟨by simp [Nd.new], .inl ⟨rfl, rfl⟩⟩, by simpa using hno, (fun g e => by cases e), fun k hk => by
      simp only [List.mem_cons] at hk
      rcases hk with rfl | rfl | hk
      · omega
      · omega
      · have := hbs k hk; omega⟩, fun x hx => by cases hx⟩, hb0.alloc hb0.size _, fun x hx => by cases hx⟩⟩
  clear hbl hc hb hp hS hbs hb0 hsz hno
  simp only [Nd.new, Nd.cells, MsgV.zero, L8.zero] at HH
  go_wp2
  go_ret2
  exact ⟨_, p, S, bs, rfl, HH.out⟩
set_option maxHeartbeats 1000000 in
theorem nnew_bad (core lines cores sets ways : Int) (w : World) (h : core < 0 ∨ cores ≤ core ∨ 4 < cores ∨ lines < 2 ∨ 64 < lines) :
    Calls Try.prog 24 #[.int .i64 core, .agg #[.int .i64 lines, .int .i64 cores, .int .i64 sets, .int .i64 ways]] w fun e w' => e = .returned (.tuple #[.pointer none, .int .i64 2]) ∧ Below w.heap.size w w' := by
  have hb : Below w.heap.size w (w.alloc (.cells #[.int .i64 lines, .int .i64 cores, .int .i64 sets, .int .i64 ways] 66)) := (Below.refl _ w).alloc (Nat.le_refl _) _
  have Hb := Lib.hid hb; clear hb
  by_cases h1 : core < 0
  · clear h
    go_enter Try.func24, Try.ntmps24
    go_wp2
    go_ret2
    exact ⟨rfl, Hb.out⟩
  by_cases h2 : cores ≤ core
  · clear h
    go_enter Try.func24, Try.ntmps24
    go_wp2
    go_ret2
    exact ⟨rfl, Hb.out⟩
  by_cases h3 : 4 < cores
  · clear h
    go_enter Try.func24, Try.ntmps24
    go_wp2
    go_ret2
    exact ⟨rfl, Hb.out⟩
  by_cases h4 : lines < 2
  · clear h
    go_enter Try.func24, Try.ntmps24
    go_wp2
    go_ret2
    exact ⟨rfl, Hb.out⟩
  · have h5 : 64 < lines := by omega
    clear h
    go_enter Try.func24, Try.ntmps24
    go_wp2
    go_ret2
    exact ⟨rfl, Hb.out⟩

set_option maxHeartbeats 400000 in
theorem nil_lineOf (k : Int) (w : World) : Calls Try.prog 56 #[.pointer none, .int .i64 k] w fun e w' => e = .returned (.tuple #[.int .i64 0, .int .i64 1]) ∧ w = w' := by
  go_enter Try.func56, Try.ntmps56
  go_wp2
  go_ret2
  exact ⟨rfl, rfl⟩
set_option maxHeartbeats 400000 in
theorem nil_Load (w : World) : Calls Try.prog 13 #[.pointer none, .int .i64 0] w fun e w' => e = .returned (.tuple #[.int .u64 0, .bool false, .slice none 0 0, .int .i64 1]) ∧ Below w.heap.size w w' := by
  go_enter Try.func13, Try.ntmps13
  go_wp2_with fail
  refine (nil_lineOf _ _).mono ?_
  rintro e w' ⟨rfl, rfl⟩
  go_wp2
  exact bodyPost_ret (v := .tuple #[.int .u64 0, .bool false, .slice none 0 0, .int .i64 1]) (by simp [results, Try.results13, go_sem]) rfl ⟨rfl, Below.refl _ _⟩
set_option maxHeartbeats 400000 in
theorem nil_Store (w : World) : Calls Try.prog 19 #[.pointer none, .int .i64 0, .int .u64 0] w fun e w' => e = .returned (.tuple #[.bool false, .slice none 0 0, .int .i64 1]) ∧ Below w.heap.size w w' := by
  go_enter Try.func19, Try.ntmps19
  go_wp2_with fail
  refine (nil_lineOf _ _).mono ?_
  rintro e w' ⟨rfl, rfl⟩
  go_wp2
  exact bodyPost_ret (v := .tuple #[.bool false, .slice none 0 0, .int .i64 1]) (by simp [results, Try.results19, go_sem]) rfl ⟨rfl, Below.refl _ _⟩
set_option maxHeartbeats 400000 in
theorem nil_Cas (w : World) : Calls Try.prog 21 #[.pointer none, .int .i64 0, .int .u64 0, .int .u64 0] w fun e w' => e = .returned (.tuple #[.bool false, .bool false, .slice none 0 0, .int .i64 1]) ∧ Below w.heap.size w w' := by
  go_enter Try.func21, Try.ntmps21
  go_wp2_with fail
  refine (nil_lineOf _ _).mono ?_
  rintro e w' ⟨rfl, rfl⟩
  go_wp2
  exact bodyPost_ret (v := .tuple #[.bool false, .bool false, .slice none 0 0, .int .i64 1]) (by simp [results, Try.results21, go_sem]) rfl ⟨rfl, Below.refl _ _⟩
set_option maxHeartbeats 400000 in
theorem nil_Begin (w : World) : Calls Try.prog 15 #[.pointer none] w fun e w' => e = .returned (.int .i64 1) ∧ Below w.heap.size w w' := by
  go_enter Try.func15, Try.ntmps15
  go_wp2
  exact bodyPost_ret (v := .int .i64 1) (by simp [results, Try.results15, go_sem]) rfl ⟨rfl, Below.refl _ _⟩
set_option maxHeartbeats 400000 in
theorem nil_Commit (w : World) : Calls Try.prog 23 #[.pointer none] w fun e w' => e = .returned (.int .i64 1) ∧ Below w.heap.size w w' := by
  go_enter Try.func23, Try.ntmps23
  go_wp2
  exact bodyPost_ret (v := .int .i64 1) (by simp [results, Try.results23, go_sem]) rfl ⟨rfl, Below.refl _ _⟩
set_option maxHeartbeats 400000 in
theorem nil_Abort (w : World) : Calls Try.prog 22 #[.pointer none, .int .i64 1] w fun e w' => e = .returned (.int .i64 1) ∧ Below w.heap.size w w' := by
  go_enter Try.func22, Try.ntmps22
  go_wp2
  exact bodyPost_ret (v := .int .i64 1) (by simp [results, Try.results22, go_sem]) rfl ⟨rfl, Below.refl _ _⟩
set_option maxHeartbeats 400000 in
theorem nil_Hear (w : World) : Calls Try.prog 14 #[.pointer none, .agg #[.int .i64 0, .int .i64 0, .int .i64 0, .int .u64 0, .int .u64 0, .int .u64 0, .int .u64 0, .int .u64 0, .int .u64 0, .int .u64 0, .int .u64 0]] w fun e w' => e = .returned (.tuple #[.slice none 0 0, .int .i64 1]) ∧ Below w.heap.size w w' := by
  have Hb := Lib.hid (show Below w.heap.size w (w.alloc (.cells #[.int .i64 0, .int .i64 0, .int .i64 0, .int .u64 0, .int .u64 0, .int .u64 0, .int .u64 0, .int .u64 0, .int .u64 0, .int .u64 0, .int .u64 0] 52)) from (Below.refl _ w).alloc (Nat.le_refl _) _)
  go_enter Try.func14, Try.ntmps14
  go_wp2
  exact bodyPost_ret (v := .tuple #[.slice none 0 0, .int .i64 1]) (by simp [results, Try.results14, go_sem]) rfl ⟨rfl, Hb.out⟩
set_option maxHeartbeats 400000 in
theorem nil_Drop (w : World) : Calls Try.prog 20 #[.pointer none, .int .i64 0] w fun e w' => e = .returned (.tuple #[.slice none 0 0, .int .i64 1]) ∧ Below w.heap.size w w' := by
  go_enter Try.func20, Try.ntmps20
  go_wp2
  exact bodyPost_ret (v := .tuple #[.slice none 0 0, .int .i64 1]) (by simp [results, Try.results20, go_sem]) rfl ⟨rfl, Below.refl _ _⟩
set_option maxHeartbeats 400000 in
theorem nil_All (w : World) : Calls Try.prog 27 #[.pointer none] w fun e w' => e = .returned (.slice none 0 0) ∧ Below w.heap.size w w' := by
  go_enter Try.func27, Try.ntmps27
  go_wp2
  exact bodyPost_ret (v := .slice none 0 0) (by simp [results, Try.results27, go_sem]) rfl ⟨rfl, Below.refl _ _⟩
set_option maxHeartbeats 400000 in
theorem nil_Backs (w : World) : Calls Try.prog 28 #[.pointer none] w fun e w' => e = .returned (.slice none 0 0) ∧ Below w.heap.size w w' := by
  go_enter Try.func28, Try.ntmps28
  go_wp2
  exact bodyPost_ret (v := .slice none 0 0) (by simp [results, Try.results28, go_sem]) rfl ⟨rfl, Below.refl _ _⟩
set_option maxHeartbeats 400000 in
theorem nil_Live (w : World) : Calls Try.prog 18 #[.pointer none] w fun e w' => e = .returned (.bool false) ∧ Below w.heap.size w w' := by
  go_enter Try.func18, Try.ntmps18
  go_wp2
  exact bodyPost_ret (v := .bool false) (by simp [results, Try.results18, go_sem]) rfl ⟨rfl, Below.refl _ _⟩
set_option maxHeartbeats 400000 in
theorem nil_Code (w : World) : Calls Try.prog 17 #[.pointer none] w fun e w' => e = .returned (.int .i64 0) ∧ Below w.heap.size w w' := by
  go_enter Try.func17, Try.ntmps17
  go_wp2
  exact bodyPost_ret (v := .int .i64 0) (by simp [results, Try.results17, go_sem]) rfl ⟨rfl, Below.refl _ _⟩

end Go.Proofs.Ytddajnpichchfaa
