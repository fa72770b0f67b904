/- The document's own control (shuntref09): its calls. Conditions: those stated in each theorem. -/
import Derived.Test.YtncepiaacadcpaaLanI
import Derived.Maps.AppendAt
import Derived.Deep.RegionHeld3
namespace Go.Proofs.Ytncepiaacadcpaa
open Go.RowKit Go.BigFrame

def lv (n : Int) : Value := .int .i64 n
/-- The lanes of a block's aborts are what the plain control counts. -/
structure RL (c : Ct) (L : List Int) : Prop where
  len : (L.length : Int) = c.try_
  k1 : (L.count 1 : Int) = c.a1
  k2 : (L.count 2 : Int) = c.a2
  k3 : (L.count 3 : Int) = c.a3
  k4 : L.count 4 = 0
def Ct.rcells (c : Ct) (v : Value) : List Value := [.int .i64 c.f, .int .i64 c.s, .int .i64 c.o, .int .i64 (c.ln : Int), v]
structure RfPt (w : World) (S : Nat → Prop) (q : Nat) (c : Ct) (v : Value) (L : List Int) : Prop where
  head : Holds w q 33 (c.rcells v)
  row : w.ownsRow 0 3 1 v L.length (L.map lv)
  own : ∀ g, v.ownBlock = some g → S g
  me : S q
  rl : RL c L
def RfAt (w : World) (S : Nat → Prop) (q : Nat) (c : Ct) : Prop := ∃ v L, RfPt w S q c v L
def RfOut (w : World) (S : Nat → Prop) (q : Nat) (c : Ct) (w' : World) : Prop := RfAt w' (Gr S w w') q c ∧ Tch (· = q) w w'

theorem RL.nil {c : Ct} (h1 : c.a1 = 0) (h2 : c.a2 = 0) (h3 : c.a3 = 0) : RL c [] := ⟨by simp [Ct.try_, h1, h2, h3], by simp [h1], by simp [h2], by simp [h3], rfl⟩
theorem RL.good {c : Ct} {L : List Int} (h : RL c L) (hg : c.Good) : L.length ≤ 48 := by
  have h1 := hg.b1
  have h2 := hg.b2
  have h3 := hg.b3
  have := h.len
  unfold Ct.try_ at this
  omega
theorem RL.snoc {c : Ct} {L : List Int} (h : RL c L) (h1 : 1 ≤ c.ln) (h3 : c.ln ≤ 3) {k : Nat} : RL { c.inc with ln := k } (L ++ [(c.ln : Int)]) := by
  obtain ⟨e0, e1, e2, e3, e4⟩ := h
  have h4 : c.ln = 1 ∨ c.ln = 2 ∨ c.ln = 3 := by omega
  unfold Ct.try_ at e0
  rcases h4 with h | h | h
  · rw [show c.inc = { c with a1 := c.a1 + 1 } from by unfold Ct.inc; rw [h]; rfl, h]
    constructor
    · simp only [List.length_append, List.length_singleton, Ct.try_]; omega
    · simp only [List.count_append]; simp; omega
    · simp only [List.count_append]; simp; omega
    · simp only [List.count_append]; simp; omega
    · simp only [List.count_append]; simp; omega
  · rw [show c.inc = { c with a2 := c.a2 + 1 } from by unfold Ct.inc; rw [h]; rfl, h]
    constructor
    · simp only [List.length_append, List.length_singleton, Ct.try_]; omega
    · simp only [List.count_append]; simp; omega
    · simp only [List.count_append]; simp; omega
    · simp only [List.count_append]; simp; omega
    · simp only [List.count_append]; simp; omega
  · rw [show c.inc = { c with a3 := c.a3 + 1 } from by unfold Ct.inc; rw [h]; rfl, h]
    constructor
    · simp only [List.length_append, List.length_singleton, Ct.try_]; omega
    · simp only [List.count_append]; simp; omega
    · simp only [List.count_append]; simp; omega
    · simp only [List.count_append]; simp; omega
    · simp only [List.count_append]; simp; omega

section
variable {w w' : World} {q : Nat} {c : Ct} {S : Nat → Prop} {v : Value} {L : List Int}
theorem RfPt.cl (h : RfPt w S q c v L) (j : Nat) {u : Value} (hu : (c.rcells v)[j]? = some u) : w.cell? ⟨q, j, none⟩ = some u := h.head.cell hu
theorem RfPt.apart (h : RfPt w S q c v L) {g : Nat} (hg : v.ownBlock = some g) : g ≠ q := by
  rintro rfl
  obtain ⟨x, hx⟩ := owns_kind h.row hg
  have := h.head
  unfold Holds at this
  rw [this] at hx
  have := congrArg Option.some (Option.some.inj hx)
  simp at this
theorem RfPt.frame {C : Nat → Prop} (h : RfPt w S q c v L) (ht : Tch C w w') (hC : ∀ k, S k → ¬ C k) : RfPt w' S q c v L :=
  ⟨ht.holds (hC _ h.me) h.head, owns_same h.row (fun g e => ht.block g (owns_lt h.row e).2 (hC _ (h.own g e))), h.own, h.me, h.rl⟩
theorem RfPt.below (h : RfPt w S q c v L) (hb : Below w.heap.size w w') : RfPt w' S q c v L := h.frame (C := fun _ => False) (Tch.of_idle hb) (fun _ _ e => e)
theorem RfPt.same (h : RfPt w S q c v L) : RfOut w S q c w := ⟨⟨v, L, h.head, h.row, fun g e => .inl (h.own g e), .inl h.me, h.rl⟩, Tch.refl _ _⟩

set_option maxRecDepth 100000 in
set_option maxHeartbeats 1000000 in
theorem count_r (hh : Holds w q 33 (c.rcells v)) (hrow : w.ownsRow 0 3 1 v L.length (L.map lv)) (hl : L.length ≤ 48) (k : Int) : Calls Try.prog 36 #[.pointer (some ⟨q, 0, none⟩), .int .i64 k] w fun e w' => e = .returned (.int .i64 (L.count k : Nat)) ∧ w = w' := by
  have c4 := hh.cell (i := 4) rfl
  have H := Lib.hid hrow; clear hrow hh
  go_enter Try.func36, Try.ntmps36
  go_wp2
  go_loopw [5, 6] (fun i5 i6 wr => ∃ j : Nat, j ≤ L.length ∧ i5 = .int .i64 ((L.take j).count k : Nat) ∧ i6 = .int .i64 j ∧ wr = w) (fun _ i6 _ => L.length - (intOf i6).toNat)
  case atStart => exact ⟨0, by omega, by simp, rfl, rfl⟩
  case round =>
    obtain ⟨j, hj, rfl, rfl, rfl⟩ := hrel
    have hcl : (L.take j).count k ≤ 48 := Nat.le_trans List.count_le_length (by simp; omega)
    by_cases hlt : j < L.length
    · obtain ⟨x, hx⟩ : ∃ x, L[j]? = some x := ⟨_, List.getElem?_eq_getElem hlt⟩
      have hx' : (L.map lv)[j]? = some (.int .i64 x) := by rw [List.getElem?_map, hx]; rfl
      obtain ⟨g, cap, rfl, -, -⟩ := H.out.form (by omega)
      have r0 := (owns_cell H.out (g := g) rfl hx').1
      have hs : (L.take (j + 1)).count k = (L.take j).count k + (if x = k then 1 else 0) := by
        rw [List.take_add_one, hx, Option.toList_some, List.count_append, List.count_singleton]
        simp [beq_iff_eq]
      have Hs := Lib.hid hs; clear hs hx hx'
      generalize hcc : (L.take j).count k = n at *
      clear hcc
      by_cases hxk : x = k
      · subst hxk
        go_wp2
        go_roundw
        case rel => exact ⟨j + 1, by omega, by rw [Hs.out, if_pos rfl]; simp, by simp, by simp⟩
        case measure => simp [intOf]; omega
      · have d : (x == k) = false := by simpa using hxk
        have Hx := Lib.hid hxk; clear hxk
        go_wp2
        go_roundw
        case rel => exact ⟨j + 1, by omega, by rw [Hs.out, if_neg Hx.out]; simp, by simp, by simp⟩
        case measure => simp [intOf]; omega
    · obtain rfl : j = L.length := by omega
      rw [List.take_length] at *
      obtain ⟨ad, cap, rfl⟩ : ∃ ad cap, v = .slice ad L.length cap := by
        rcases owns_form H.out with ⟨rfl, h2, _⟩ | ⟨g, cap, rfl, _⟩
        · exact ⟨none, 0, by rw [h2]⟩
        · exact ⟨_, _, rfl⟩
      go_wp2
      go_ret
      exact ⟨rfl, rfl⟩

theorem count_any (h : RfPt w S q c v L) (hl : L.length ≤ 48) (k : Int) : Calls Try.prog 36 #[.pointer (some ⟨q, 0, none⟩), .int .i64 k] w fun e w' => e = .returned (.int .i64 (L.count k : Nat)) ∧ w = w' := count_r h.head h.row hl k
set_option maxRecDepth 100000 in
set_option maxHeartbeats 1000000 in
theorem rbudget_any (c : Ct) (k : Nat) (hk1 : 1 ≤ k) (hk : k ≤ 3) (w : World) : Calls Try.prog 37 #[bud c.f c.s c.o, .int .i64 k] w fun e w' => e = .returned (.int .i64 (c.lim k)) ∧ Below w.heap.size w w' := by
  have HB := Lib.hid ((Below.refl w.heap.size w).alloc (Nat.le_refl _) (.cells #[.int .i64 c.f, .int .i64 c.s, .int .i64 c.o] 23))
  have h5 : k = 1 ∨ k = 2 ∨ k = 3 := by omega
  clear hk hk1
  unfold bud
  rcases h5 with rfl | rfl | rfl
  all_goals
    go_enter Try.func37, Try.ntmps37
    go_wp2
    go_ret
    exact ⟨rfl, HB.out⟩

set_option maxRecDepth 100000 in
set_option maxHeartbeats 1000000 in
theorem first_any (c : Ct) (k : Nat) (hk1 : 1 ≤ k) (hk : k ≤ 4) (w : World) : Calls Try.prog 35 #[bud c.f c.s c.o, .int .i64 k] w fun e w' => e = .returned (.int .i64 ((c.from k : Nat) : Int)) ∧ Below w.heap.size w w' := by
  have HB := Lib.hid ((Below.refl w.heap.size w).alloc (Nat.le_refl _) (.cells #[.int .i64 c.f, .int .i64 c.s, .int .i64 c.o] 23))
  have HO := Lib.hid (Holds.new w 23 [.int .i64 c.f, .int .i64 c.s, .int .i64 c.o])
  have HR := Lib.hid (fun j (h1 : 1 ≤ j) (h2 : j ≤ 3) V => rbudget_any c j h1 h2 V)
  unfold bud at *
  go_enter Try.func35, Try.ntmps35
  go_wp2
  go_loopw [1] (fun i wr => ∃ j : Nat, k ≤ j ∧ j ≤ 4 ∧ i = .int .i64 j ∧ (∀ i, k ≤ i → i < j → c.lim i = 0) ∧ Below w.heap.size w wr ∧ Holds wr w.heap.size 23 [.int .i64 c.f, .int .i64 c.s, .int .i64 c.o]) (fun i _ => 5 - (intOf i).toNat)
  case atStart => exact ⟨k, by omega, by omega, rfl, fun i h1 h2 => by omega, HB.out, HO.out⟩
  case round =>
    obtain ⟨j, hkj, hj4, rfl, hcl, hb, ho⟩ := hrel
    have Hcl := Lib.hid hcl; clear hcl
    have Hb := Lib.hid hb; clear hb
    have Ho := Lib.hid ho; clear ho
    have b0 := Ho.out.cell (i := 0) rfl
    have b1 := Ho.out.cell (i := 1) rfl
    have b2 := Ho.out.cell (i := 2) rfl
    clear HB HO
    by_cases h4 : j = 4
    · subst h4
      have hf : Hid (c.from k = 4) := Lib.hid (by have := Ct.from_at (c := c) (k := k - 1) (j := 4) (by omega) (by omega) (.inl rfl) (fun i h1 h2 => Hcl.out i (by omega) h2); rwa [show k - 1 + 1 = k from by omega] at this)
      go_wp2
      go_ret
      exact ⟨by rw [hf.out]; rfl, Hb.out⟩
    · by_cases hz : c.lim j = 0
      · have HZ := Lib.hid hz
        go_wp2_with (go_at_call 37; refine (HR.out j (by omega) (by omega) _).mono ?_; rintro e V ⟨rfl, hb2⟩; rw [HZ.out])
        have HV := Lib.hid (And.intro (Hb.out.trans (hb2.mono Hb.out.size)) (Ho.out.below hb2))
        clear hb2 b0 b1 b2 hz
        go_roundw
        case rel => exact ⟨j + 1, by omega, by omega, by simp, fun i h1 h2 => by
          by_cases hi : i < j
          · exact Hcl.out i h1 hi
          · obtain rfl : i = j := by omega
            exact HZ.out, HV.out.1, HV.out.2⟩
        case measure => simp [intOf]; omega
      · have hz' : (c.lim j == 0) = false := by simpa using hz
        have hf : Hid (c.from k = j) := Lib.hid (by have := Ct.from_at (c := c) (k := k - 1) (j := j) (by omega) (by omega) (.inr hz) (fun i h1 h2 => Hcl.out i (by omega) h2); rwa [show k - 1 + 1 = k from by omega] at this)
        clear hz
        go_wp2_with (go_at_call 37; refine (HR.out j (by omega) (by omega) _).mono ?_; rintro e V ⟨rfl, hb2⟩)
        have HV := Lib.hid (Hb.out.trans (hb2.mono Hb.out.size)); clear hb2
        go_ret
        exact ⟨by rw [hf.out]; rfl, HV.out⟩
end

end Go.Proofs.Ytncepiaacadcpaa
