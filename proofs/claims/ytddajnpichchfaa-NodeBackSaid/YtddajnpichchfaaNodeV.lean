/- A law's steps with a node: All, play, clean. Conditions: those stated in each theorem. -/
import Derived.Test.YtddajnpichchfaaNodeR
import Derived.Test.YtddajnpichchfaaNodeU
namespace Go.Proofs.Ytddajnpichchfaa
open Go.RowKit Go.BigFrame

def StepN.cells (x : StepN) : List Value := [.int .i64 x.kind, .int .i64 x.n, .int .u64 x.v, .int .u64 x.old, .int .i64 x.m.kind, .int .i64 x.m.core, .int .i64 x.m.line, .int .u64 x.m.data.x0, .int .u64 x.m.data.x1, .int .u64 x.m.data.x2, .int .u64 x.m.data.x3, .int .u64 x.m.data.x4, .int .u64 x.m.data.x5, .int .u64 x.m.data.x6, .int .u64 x.m.data.x7]
theorem StepN.len (x : StepN) : x.cells.length = 15 := rfl
theorem Try.size76 : (Try.prog.info? 76).map (·.size) = some 15 := by kernel_rfl
/-- Rows of entries that lie aside. -/
def rowsE (v : Value) (es : List Ent) : List (Nat × List Value) := match v with | .slice (some ad) _ _ => [(ad.block, es.flatMap Ent.cells)] | _ => []
def SlE (v : Value) (es : List Ent) : Prop := (v = .slice none 0 0 ∧ es = []) ∨ ∃ g cap, v = .slice (some ⟨g, 0, none⟩) es.length cap

section
variable {w0 w w' : World} {a p S : Nat} {bs : List Nat} {ways : Nat} {n n' : Nd} {G : List (Nat × List Value)}
theorem alls_st (h : NSt w0 w a p S bs ways n G) (L : Nat) (hL : n.lines = L) (hL64 : L ≤ 64) :
    Calls Try.prog 27 #[.pointer (some ⟨a, 0, none⟩)] w fun e w' => ∃ v, e = .returned v ∧ SlE v n.all ∧ NSt w0 w' a p S bs ways n (rowsE v n.all ++ G) := by
  obtain ⟨bv, h1, h2⟩ := h.node
  refine (callsIn_wide.1 (nall_in w h1 L hL hL64)).mono ?_
  rintro e w' ⟨v, rfl, ho, hb⟩
  have hi := h.idle hb
  rcases owns_form ho with ⟨rfl, h0, -⟩ | ⟨g, cap, rfl, hg⟩
  · exact ⟨_, rfl, .inl ⟨rfl, List.eq_nil_of_length_eq_zero h0⟩, hi⟩
  · have hgl := owns_lt ho hg
    have hl := h1.lts
    have hno : ¬ Own a p bs bv g := fun hk => by
      rcases hk with hk | hk | hk
      · omega
      · exact hk.elim (fun e => by omega) (fun hm => by have := hl.2.2.2 g hm; omega)
      · have := (owns_lt h1.own hk).2; omega
    refine ⟨_, rfl, .inr ⟨g, cap, rfl⟩, ⟨bv, h1.below hb (Nat.le_refl _), fun x hx => ?_⟩, hi.below, fun x hx => ?_⟩
    · rcases List.mem_append.1 hx with hx | hx
      · simp only [rowsE, List.mem_singleton] at hx; subst hx; exact hno
      · exact h2 x hx
    · rcases List.mem_append.1 hx with hx | hx
      · simp only [rowsE, List.mem_singleton] at hx; subst hx
        exact ⟨hgl.2, fun i v hi => by rw [Nat.zero_add]; exact (owns_cell ho hg hi).1⟩
      · exact hi.rows x hx

/-- What a step of play leaves. -/
def PlayN (w0 : World) (a p S : Nat) (bs : List Nat) (ways : Nat) (G : List (Nat × List Value)) (r : Nd × List MsgV) (e : Ending) (w' : World) : Prop := ∃ v, e = .returned v ∧ SlM v r.2 ∧ NSt w0 w' a p S bs ways r.1 (rowsM v r.2 ++ G)
set_option maxRecDepth 100000 in
set_option maxHeartbeats 1000000 in
theorem pl_0 (h : NSt w0 w a p S bs ways n G) (nn vv oo : Int) (m : MsgV) (hk : nn ≤ 9223372036854775807) (h0 : 0 ≤ n.u) (hu : n.u < 4294967295) (hl : n.backs.length < 100000) :
    Calls Try.prog 30 #[.pointer (some ⟨a, 0, none⟩), .agg (StepN.cells ⟨0, nn, vv, oo, m⟩).toArray] w (PlayN w0 a p S bs ways G (n.step ⟨0, nn, vv, oo, m⟩)) := by
  have h1 := h.idle (show Below w.heap.size w (w.alloc (.cells (StepN.cells ⟨0, nn, vv, oo, m⟩).toArray 76)) from (Below.refl _ w).alloc (Nat.le_refl _) _)
  have hr : (w.alloc (.cells (StepN.cells ⟨0, nn, vv, oo, m⟩).toArray 76)).rangeAt w.heap.size 4 m.cells := fun i v hv => by
    have hi : i < 11 := (List.getElem?_eq_some_iff.1 hv).1
    refine (Holds.new w 76 (StepN.cells ⟨0, nn, vv, oo, m⟩)).cell (i := 4 + i) ?_
    rw [← hv]
    match i, hi with
    | 0, _ | 1, _ | 2, _ | 3, _ | 4, _ | 5, _ | 6, _ | 7, _ | 8, _ | 9, _ | 10, _ => rfl
  have HR := Lib.hid hr
  have HC := Lib.hid (load_st h1 nn hk h0 (by omega) hl)
  clear h h1 hr
  simp only [StepN.cells] at HC HR ⊢
  go_enter Try.func30, Try.ntmps30
  go_wp2_with fail
  refine HC.out.mono ?_
  rintro e w1 ⟨v, rfl, hs⟩
  have Hs := Lib.hid hs; clear hs
  go_wp2
  go_ret
  exact ⟨v, rfl, Hs.out⟩
set_option maxRecDepth 100000 in
set_option maxHeartbeats 1000000 in
theorem pl_1 (h : NSt w0 w a p S bs ways n G) (nn vv oo : Int) (m : MsgV) (hk : nn ≤ 9223372036854775807) (h0 : 0 ≤ n.u) (hu : n.u < 4294967295) (hl : n.backs.length < 100000) :
    Calls Try.prog 30 #[.pointer (some ⟨a, 0, none⟩), .agg (StepN.cells ⟨1, nn, vv, oo, m⟩).toArray] w (PlayN w0 a p S bs ways G (n.step ⟨1, nn, vv, oo, m⟩)) := by
  have h1 := h.idle (show Below w.heap.size w (w.alloc (.cells (StepN.cells ⟨1, nn, vv, oo, m⟩).toArray 76)) from (Below.refl _ w).alloc (Nat.le_refl _) _)
  have hr : (w.alloc (.cells (StepN.cells ⟨1, nn, vv, oo, m⟩).toArray 76)).rangeAt w.heap.size 4 m.cells := fun i v hv => by
    have hi : i < 11 := (List.getElem?_eq_some_iff.1 hv).1
    refine (Holds.new w 76 (StepN.cells ⟨1, nn, vv, oo, m⟩)).cell (i := 4 + i) ?_
    rw [← hv]
    match i, hi with
    | 0, _ | 1, _ | 2, _ | 3, _ | 4, _ | 5, _ | 6, _ | 7, _ | 8, _ | 9, _ | 10, _ => rfl
  have HR := Lib.hid hr
  have HC := Lib.hid (store_st h1 nn vv hk h0 (by omega) hl)
  clear h h1 hr
  simp only [StepN.cells] at HC HR ⊢
  go_enter Try.func30, Try.ntmps30
  go_wp2_with fail
  refine HC.out.mono ?_
  rintro e w1 ⟨v, rfl, hs⟩
  have Hs := Lib.hid hs; clear hs
  go_wp2
  go_ret
  exact ⟨v, rfl, Hs.out⟩
set_option maxRecDepth 100000 in
set_option maxHeartbeats 1000000 in
theorem pl_2 (h : NSt w0 w a p S bs ways n G) (nn vv oo : Int) (m : MsgV) (hk : nn ≤ 9223372036854775807) (h0 : 0 ≤ n.u) (hu : n.u < 4294967295) (hl : n.backs.length < 100000) :
    Calls Try.prog 30 #[.pointer (some ⟨a, 0, none⟩), .agg (StepN.cells ⟨2, nn, vv, oo, m⟩).toArray] w (PlayN w0 a p S bs ways G (n.step ⟨2, nn, vv, oo, m⟩)) := by
  have h1 := h.idle (show Below w.heap.size w (w.alloc (.cells (StepN.cells ⟨2, nn, vv, oo, m⟩).toArray 76)) from (Below.refl _ w).alloc (Nat.le_refl _) _)
  have hr : (w.alloc (.cells (StepN.cells ⟨2, nn, vv, oo, m⟩).toArray 76)).rangeAt w.heap.size 4 m.cells := fun i v hv => by
    have hi : i < 11 := (List.getElem?_eq_some_iff.1 hv).1
    refine (Holds.new w 76 (StepN.cells ⟨2, nn, vv, oo, m⟩)).cell (i := 4 + i) ?_
    rw [← hv]
    match i, hi with
    | 0, _ | 1, _ | 2, _ | 3, _ | 4, _ | 5, _ | 6, _ | 7, _ | 8, _ | 9, _ | 10, _ => rfl
  have HR := Lib.hid hr
  have HC := Lib.hid (cas_st h1 nn oo vv hk h0 hu hl)
  clear h h1 hr
  simp only [StepN.cells] at HC HR ⊢
  go_enter Try.func30, Try.ntmps30
  go_wp2_with fail
  refine HC.out.mono ?_
  rintro e w1 ⟨v, rfl, hs⟩
  have Hs := Lib.hid hs; clear hs
  go_wp2
  go_ret
  exact ⟨v, rfl, Hs.out⟩
set_option maxRecDepth 100000 in
set_option maxHeartbeats 1000000 in
theorem pl_3 (h : NSt w0 w a p S bs ways n G) (nn vv oo : Int) (m : MsgV) (_ : nn ≤ 9223372036854775807) (_ : 0 ≤ n.u) (_ : n.u < 4294967295) (_ : n.backs.length < 100000) :
    Calls Try.prog 30 #[.pointer (some ⟨a, 0, none⟩), .agg (StepN.cells ⟨3, nn, vv, oo, m⟩).toArray] w (PlayN w0 a p S bs ways G (n.step ⟨3, nn, vv, oo, m⟩)) := by
  have h1 := h.idle (show Below w.heap.size w (w.alloc (.cells (StepN.cells ⟨3, nn, vv, oo, m⟩).toArray 76)) from (Below.refl _ w).alloc (Nat.le_refl _) _)
  have hr : (w.alloc (.cells (StepN.cells ⟨3, nn, vv, oo, m⟩).toArray 76)).rangeAt w.heap.size 4 m.cells := fun i v hv => by
    have hi : i < 11 := (List.getElem?_eq_some_iff.1 hv).1
    refine (Holds.new w 76 (StepN.cells ⟨3, nn, vv, oo, m⟩)).cell (i := 4 + i) ?_
    rw [← hv]
    match i, hi with
    | 0, _ | 1, _ | 2, _ | 3, _ | 4, _ | 5, _ | 6, _ | 7, _ | 8, _ | 9, _ | 10, _ => rfl
  have HR := Lib.hid hr
  have HC := Lib.hid (begin_st h1)
  clear h h1 hr
  simp only [StepN.cells] at HC HR ⊢
  go_enter Try.func30, Try.ntmps30
  go_wp2_with fail
  refine HC.out.mono ?_
  rintro e w1 ⟨rfl, hs⟩
  have Hs := Lib.hid hs; clear hs
  go_wp2
  go_ret
  exact ⟨_, rfl, .inl ⟨rfl, rfl⟩, Hs.out⟩
set_option maxRecDepth 100000 in
set_option maxHeartbeats 1000000 in
theorem pl_4 (h : NSt w0 w a p S bs ways n G) (nn vv oo : Int) (m : MsgV) (_ : nn ≤ 9223372036854775807) (_ : 0 ≤ n.u) (_ : n.u < 4294967295) (_ : n.backs.length < 100000) :
    Calls Try.prog 30 #[.pointer (some ⟨a, 0, none⟩), .agg (StepN.cells ⟨4, nn, vv, oo, m⟩).toArray] w (PlayN w0 a p S bs ways G (n.step ⟨4, nn, vv, oo, m⟩)) := by
  have h1 := h.idle (show Below w.heap.size w (w.alloc (.cells (StepN.cells ⟨4, nn, vv, oo, m⟩).toArray 76)) from (Below.refl _ w).alloc (Nat.le_refl _) _)
  have hr : (w.alloc (.cells (StepN.cells ⟨4, nn, vv, oo, m⟩).toArray 76)).rangeAt w.heap.size 4 m.cells := fun i v hv => by
    have hi : i < 11 := (List.getElem?_eq_some_iff.1 hv).1
    refine (Holds.new w 76 (StepN.cells ⟨4, nn, vv, oo, m⟩)).cell (i := 4 + i) ?_
    rw [← hv]
    match i, hi with
    | 0, _ | 1, _ | 2, _ | 3, _ | 4, _ | 5, _ | 6, _ | 7, _ | 8, _ | 9, _ | 10, _ => rfl
  have HR := Lib.hid hr
  have HC := Lib.hid (ncommit_st h1)
  clear h h1 hr
  simp only [StepN.cells] at HC HR ⊢
  go_enter Try.func30, Try.ntmps30
  go_wp2_with fail
  refine HC.out.mono ?_
  rintro e w1 ⟨rfl, hs⟩
  have Hs := Lib.hid hs; clear hs
  go_wp2
  go_ret
  exact ⟨_, rfl, .inl ⟨rfl, rfl⟩, Hs.out⟩
set_option maxRecDepth 100000 in
set_option maxHeartbeats 1000000 in
theorem pl_5 (h : NSt w0 w a p S bs ways n G) (nn vv oo : Int) (m : MsgV) (_ : nn ≤ 9223372036854775807) (_ : 0 ≤ n.u) (_ : n.u < 4294967295) (_ : n.backs.length < 100000) :
    Calls Try.prog 30 #[.pointer (some ⟨a, 0, none⟩), .agg (StepN.cells ⟨5, nn, vv, oo, m⟩).toArray] w (PlayN w0 a p S bs ways G (n.step ⟨5, nn, vv, oo, m⟩)) := by
  have h1 := h.idle (show Below w.heap.size w (w.alloc (.cells (StepN.cells ⟨5, nn, vv, oo, m⟩).toArray 76)) from (Below.refl _ w).alloc (Nat.le_refl _) _)
  have hr : (w.alloc (.cells (StepN.cells ⟨5, nn, vv, oo, m⟩).toArray 76)).rangeAt w.heap.size 4 m.cells := fun i v hv => by
    have hi : i < 11 := (List.getElem?_eq_some_iff.1 hv).1
    refine (Holds.new w 76 (StepN.cells ⟨5, nn, vv, oo, m⟩)).cell (i := 4 + i) ?_
    rw [← hv]
    match i, hi with
    | 0, _ | 1, _ | 2, _ | 3, _ | 4, _ | 5, _ | 6, _ | 7, _ | 8, _ | 9, _ | 10, _ => rfl
  have HR := Lib.hid hr
  have HC := Lib.hid (nabort_st h1 nn)
  clear h h1 hr
  simp only [StepN.cells] at HC HR ⊢
  go_enter Try.func30, Try.ntmps30
  go_wp2_with fail
  refine HC.out.mono ?_
  rintro e w1 ⟨rfl, hs⟩
  have Hs := Lib.hid hs; clear hs
  go_wp2
  go_ret
  exact ⟨_, rfl, .inl ⟨rfl, rfl⟩, Hs.out⟩
set_option maxRecDepth 100000 in
set_option maxHeartbeats 1000000 in
theorem pl_6 (h : NSt w0 w a p S bs ways n G) (nn vv oo : Int) (m : MsgV) (_ : nn ≤ 9223372036854775807) (h0 : 0 ≤ n.u) (hu : n.u < 4294967295) (hl : n.backs.length < 100000) :
    Calls Try.prog 30 #[.pointer (some ⟨a, 0, none⟩), .agg (StepN.cells ⟨6, nn, vv, oo, m⟩).toArray] w (PlayN w0 a p S bs ways G (n.step ⟨6, nn, vv, oo, m⟩)) := by
  have h1 := h.idle (show Below w.heap.size w (w.alloc (.cells (StepN.cells ⟨6, nn, vv, oo, m⟩).toArray 76)) from (Below.refl _ w).alloc (Nat.le_refl _) _)
  have hr : (w.alloc (.cells (StepN.cells ⟨6, nn, vv, oo, m⟩).toArray 76)).rangeAt w.heap.size 4 m.cells := fun i v hv => by
    have hi : i < 11 := (List.getElem?_eq_some_iff.1 hv).1
    refine (Holds.new w 76 (StepN.cells ⟨6, nn, vv, oo, m⟩)).cell (i := 4 + i) ?_
    rw [← hv]
    match i, hi with
    | 0, _ | 1, _ | 2, _ | 3, _ | 4, _ | 5, _ | 6, _ | 7, _ | 8, _ | 9, _ | 10, _ => rfl
  have HR := Lib.hid hr
  have HC := Lib.hid (hear_st h1 m h0 (by omega) hl)
  clear h h1 hr
  simp only [StepN.cells] at HC HR ⊢
  go_enter Try.func30, Try.ntmps30
  go_wp2_with (refine wpList_load_mid rfl 52 (.tmp 64) rfl w.heap.size 4 rfl m.cells _ ?_ Try.underlying52 rfl Try.size52 ?_; exact HR.out)
  refine HC.out.mono ?_
  rintro e w1 ⟨v, rfl, hs⟩
  have Hs := Lib.hid hs; clear hs
  go_wp2
  go_ret
  exact ⟨v, rfl, Hs.out⟩
set_option maxRecDepth 100000 in
set_option maxHeartbeats 1000000 in
theorem pl_7 (h : NSt w0 w a p S bs ways n G) (nn vv oo : Int) (m : MsgV) (_ : nn ≤ 9223372036854775807) (_ : 0 ≤ n.u) (_ : n.u < 4294967295) (hl : n.backs.length < 100000) :
    Calls Try.prog 30 #[.pointer (some ⟨a, 0, none⟩), .agg (StepN.cells ⟨7, nn, vv, oo, m⟩).toArray] w (PlayN w0 a p S bs ways G (n.step ⟨7, nn, vv, oo, m⟩)) := by
  have h1 := h.idle (show Below w.heap.size w (w.alloc (.cells (StepN.cells ⟨7, nn, vv, oo, m⟩).toArray 76)) from (Below.refl _ w).alloc (Nat.le_refl _) _)
  have hr : (w.alloc (.cells (StepN.cells ⟨7, nn, vv, oo, m⟩).toArray 76)).rangeAt w.heap.size 4 m.cells := fun i v hv => by
    have hi : i < 11 := (List.getElem?_eq_some_iff.1 hv).1
    refine (Holds.new w 76 (StepN.cells ⟨7, nn, vv, oo, m⟩)).cell (i := 4 + i) ?_
    rw [← hv]
    match i, hi with
    | 0, _ | 1, _ | 2, _ | 3, _ | 4, _ | 5, _ | 6, _ | 7, _ | 8, _ | 9, _ | 10, _ => rfl
  have HR := Lib.hid hr
  have HC := Lib.hid (drop_st h1 nn hl)
  clear h h1 hr
  simp only [StepN.cells] at HC HR ⊢
  go_enter Try.func30, Try.ntmps30
  go_wp2_with fail
  refine HC.out.mono ?_
  rintro e w1 ⟨v, rfl, hs⟩
  have Hs := Lib.hid hs; clear hs
  go_wp2
  go_ret
  exact ⟨v, rfl, Hs.out⟩
set_option maxRecDepth 100000 in
set_option maxHeartbeats 1000000 in
theorem pl_other (h : NSt w0 w a p S bs ways n G) (kd nn vv oo : Int) (m : MsgV) (h0 : (kd == 0) = false) (h1 : (kd == 1) = false) (h2 : (kd == 2) = false) (h3 : (kd == 3) = false) (h4 : (kd == 4) = false) (h5 : (kd == 5) = false) (h6 : (kd == 6) = false) (h7 : (kd == 7) = false) :
    Calls Try.prog 30 #[.pointer (some ⟨a, 0, none⟩), .agg (StepN.cells ⟨kd, nn, vv, oo, m⟩).toArray] w (PlayN w0 a p S bs ways G (n, [])) := by
  have hi := Lib.hid (h.idle (show Below w.heap.size w (w.alloc (.cells (StepN.cells ⟨kd, nn, vv, oo, m⟩).toArray 76)) from (Below.refl _ w).alloc (Nat.le_refl _) _))
  clear h
  simp only [StepN.cells] at hi ⊢
  go_enter Try.func30, Try.ntmps30
  go_wp2
  go_ret
  exact ⟨_, rfl, .inl ⟨rfl, rfl⟩, hi.out⟩
theorem play_st (h : NSt w0 w a p S bs ways n G) (x : StepN) (hk : x.n ≤ 9223372036854775807) (h0 : 0 ≤ n.u) (hu : n.u < 4294967295) (hl : n.backs.length < 100000) :
    Calls Try.prog 30 #[.pointer (some ⟨a, 0, none⟩), .agg x.cells.toArray] w (PlayN w0 a p S bs ways G (n.step x)) := by
  obtain ⟨kd, nn, vv, oo, m⟩ := x
  by_cases k0 : kd = 0
  · subst k0; exact pl_0 h nn vv oo m hk h0 hu hl
  by_cases k1 : kd = 1
  · subst k1; exact pl_1 h nn vv oo m hk h0 hu hl
  by_cases k2 : kd = 2
  · subst k2; exact pl_2 h nn vv oo m hk h0 hu hl
  by_cases k3 : kd = 3
  · subst k3; exact pl_3 h nn vv oo m hk h0 hu hl
  by_cases k4 : kd = 4
  · subst k4; exact pl_4 h nn vv oo m hk h0 hu hl
  by_cases k5 : kd = 5
  · subst k5; exact pl_5 h nn vv oo m hk h0 hu hl
  by_cases k6 : kd = 6
  · subst k6; exact pl_6 h nn vv oo m hk h0 hu hl
  by_cases k7 : kd = 7
  · subst k7; exact pl_7 h nn vv oo m hk h0 hu hl
  · have hq : ∀ c : Int, kd ≠ c → (kd == c) = false := fun c hc => by simpa using hc
    have hs : n.step ⟨kd, nn, vv, oo, m⟩ = (n, []) := by unfold Nd.step; simp [k0, k1, k2, k3, k4, k5, k6, k7]
    rw [hs]
    exact pl_other h kd nn vv oo m (hq 0 k0) (hq 1 k1) (hq 2 k2) (hq 3 k3) (hq 4 k4) (hq 5 k5) (hq 6 k6) (hq 7 k7)
end

/-! ### clean -/
theorem row_ent {W : World} {g : Nat} {es : List Ent} (h : W.rangeAt g 0 (es.flatMap Ent.cells)) {i : Nat} {e : Ent} (he : es[i]? = some e) {k : Nat} {v : Value} (hk : k < 21) (hv : e.cells[k]? = some v) : W.cell? ⟨g, i * 21 + k, none⟩ = some v := by
  have := h (i * 21 + k) v (by rw [rows_get Ent.cells Ent.len es i k e he hk]; exact hv)
  rwa [Nat.zero_add] at this
def cleanL (es : List Ent) : Bool := es.all fun e => !(e.read || e.write)

set_option maxRecDepth 100000 in
set_option maxHeartbeats 1000000 in
theorem clean_row (g cap : Nat) (es : List Ent) (w : World) (h : w.rangeAt g 0 (es.flatMap Ent.cells)) (hl : es.length ≤ 64) :
    Calls Try.prog 31 #[.slice (some ⟨g, 0, none⟩) es.length cap] w fun e w' => e = .returned (.bool (cleanL es)) ∧ w = w' := by
  have H := Lib.hid h; clear h
  go_enter Try.func31, Try.ntmps31
  go_wp2
  go_loop [3] (fun i => ∃ k : Nat, k ≤ es.length ∧ i = .int .i64 k ∧ (es.take k).all (fun e => !(e.read || e.write)) = true) (fun i => es.length - (intOf i).toNat)
  case atStart => exact ⟨0, by omega, rfl, by simp⟩
  case round =>
    obtain ⟨k, hk, rfl, ha⟩ := hrel
    have HA := Lib.hid ha; clear ha
    by_cases hlt : k < es.length
    · obtain ⟨e0, he⟩ : ∃ e0, es[k]? = some e0 := ⟨es[k], List.getElem?_eq_getElem hlt⟩
      have c2 : w.cell? ⟨g, k * 21 + 2, none⟩ = some (.bool e0.read) := row_ent H.out he (by omega) rfl
      have c3 : w.cell? ⟨g, k * 21 + 3, none⟩ = some (.bool e0.write) := row_ent H.out he (by omega) rfl
      have hn : cleanL es = false ∨ (e0.read = false ∧ e0.write = false) := by
        cases hr : e0.read <;> cases hw : e0.write
        · exact .inr ⟨rfl, rfl⟩
        all_goals
          left
          unfold cleanL
          rw [List.all_eq_false]
          exact ⟨e0, List.mem_of_getElem? he, by simp [hr, hw]⟩
      have Hn := Lib.hid hn; clear hn
      have He := Lib.hid he; clear he
      cases hr : e0.read <;> cases hw : e0.write
      · rw [hr] at c2
        rw [hw] at c3
        have HH := Lib.hid (And.intro hr hw); clear hr hw
        go_wp2
        go_round
        case rel => exact ⟨k + 1, by omega, by go_num, by rw [List.take_add_one, He.out, List.all_append, HA.out]; simp [HH.out.1, HH.out.2]⟩
        case measure => simp [intOf]; omega
      all_goals
        rw [hr] at c2
        rw [hw] at c3
        have hf : cleanL es = false := by
          rcases Hn.out with h | h
          · exact h
          · rw [hr, hw] at h; simp at h
        have HFf := Lib.hid hf
        clear hr hw hf
        go_wp2
        go_ret
        exact ⟨congrArg Ending.returned (congrArg Value.bool HFf.out.symm), rfl⟩
    · have hke : k = es.length := by omega
      subst hke
      have hc : cleanL es = true := by have := HA.out; rw [List.take_length] at this; exact this
      have HC := Lib.hid hc; clear hc
      go_wp2
      go_ret
      exact ⟨congrArg Ending.returned (congrArg Value.bool HC.out.symm), rfl⟩
set_option maxHeartbeats 400000 in
theorem clean_none (w : World) : Calls Try.prog 31 #[.slice none 0 0] w fun e w' => e = .returned (.bool true) ∧ w = w' := by
  go_enter Try.func31, Try.ntmps31
  go_wp2
  refine wp_loop_rounds 1 ?_
  rw [rounds_succ]
  go_wp2
  go_ret
  exact ⟨rfl, rfl⟩

end Go.Proofs.Ytddajnpichchfaa
