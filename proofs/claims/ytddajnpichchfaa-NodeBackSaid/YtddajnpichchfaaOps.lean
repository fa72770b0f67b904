/- What a cache's calls find. Conditions: those stated in each theorem. -/
import Derived.Test.YtddajnpichchfaaNReg
namespace Go.Proofs.Ytddajnpichchfaa
open Go.RowKit

/-- Where the entry of line k stands. -/
def Finds (ss : List (List Ent)) (k : Int) : Option (Nat × Nat) :=
  if k < 0 then none else ((ss.getD (k.toNat % ss.length) []).findIdx? (Ent.is k)).map fun j => (k.toNat % ss.length, j)

theorem Finds.facts {w : World} {p S : Nat} {bs : List Nat} {ways : Nat} {ss : List (List Ent)} {u : Int} (h : CacheAt w p S bs ways ss u) {k : Int} {i j : Nat} (hf : Finds ss k = some (i, j)) :
    0 ≤ k ∧ i = k.toNat % bs.length ∧ i < bs.length ∧ j < ways ∧ (getE ss i j).state ≠ 0 ∧ (getE ss i j).line = k := by
  unfold Finds at hf
  split at hf
  · cases hf
  · rename_i h0
    rw [Option.map_eq_some_iff] at hf
    obtain ⟨j', hj, he⟩ := hf
    simp only [Prod.mk.injEq] at he
    obtain ⟨rfl, rfl⟩ := he
    have hn := h.n1
    have hil : k.toNat % ss.length < ss.length := Nat.mod_lt _ (by rw [h.many]; exact hn)
    rw [List.findIdx?_eq_some_iff_getElem] at hj
    obtain ⟨hjl, hp, _⟩ := hj
    have hg : getE ss (k.toNat % ss.length) j' = (ss.getD (k.toNat % ss.length) [])[j'] := by rw [getE, List.getD_eq_getElem?_getD, List.getElem?_eq_getElem hjl]; rfl
    rw [hg]
    have hw : (ss.getD (k.toNat % ss.length) []).length = ways := by
      simp only [List.getD_eq_getElem?_getD, List.getElem?_eq_getElem hil, Option.getD_some]; exact h.wide _ (List.getElem_mem hil)
    simp only [Ent.is, decide_eq_true_eq] at hp
    exact ⟨by omega, by rw [h.many], by rw [← h.many]; exact hil, by omega, hp.1, hp.2⟩

theorem held_at {w : World} {p S : Nat} {bs : List Nat} {ways : Nat} {ss : List (List Ent)} {u : Int} (h : CacheAt w p S bs ways ss u) (k : Nat) :
    ∃ b, bs[k % bs.length]? = some b ∧ Calls Try.prog 69 #[.pointer (some ⟨p, 0, none⟩), .int .i64 k] w (HeldAns k b (ss.getD (k % ss.length) []) w) := by
  have hn := h.n1
  have hi : k % bs.length < bs.length := Nat.mod_lt _ hn
  obtain ⟨s, hs, hl, hr⟩ := h.at (List.getElem?_eq_getElem hi)
  refine ⟨bs[k % bs.length], List.getElem?_eq_getElem hi, ?_⟩
  have e1 : ss.getD (k % ss.length) [] = s := by rw [h.many]; simp [List.getD_eq_getElem?_getD, hs]
  rw [e1]
  exact held_row p S k bs.length _ ways _ _ s w h.head h.sets (by rw [List.getElem?_map, List.getElem?_eq_getElem hi]; rfl) hn h.n8 hr hl h.w4

theorem held_some {w : World} {p S : Nat} {bs : List Nat} {ways : Nat} {ss : List (List Ent)} {u : Int} (h : CacheAt w p S bs ways ss u) {k : Int} {i j b : Nat} (hf : Finds ss k = some (i, j)) (hb : bs[i]? = some b) :
    Calls Try.prog 69 #[.pointer (some ⟨p, 0, none⟩), .int .i64 k] w fun e w' => e = .returned (.tuple #[.pointer (some ⟨b, j * 21, none⟩), .int .i64 0]) ∧ Below w.heap.size w w' := by
  obtain ⟨h0, hi, _⟩ := Finds.facts h hf
  obtain ⟨m, rfl⟩ := Int.eq_ofNat_of_zero_le h0
  obtain ⟨b', hb', hc⟩ := held_at h m
  rw [Int.toNat_natCast] at hi
  subst hi
  rw [hb'] at hb; cases hb
  refine hc.mono ?_
  rintro e w' ⟨hbel, hm⟩
  unfold Finds at hf
  rw [if_neg (by omega), Int.toNat_natCast, Option.map_eq_some_iff] at hf
  obtain ⟨j', hj, he⟩ := hf
  simp only [Prod.mk.injEq] at he
  obtain ⟨_, rfl⟩ := he
  rw [hj] at hm
  exact ⟨hm, hbel⟩

theorem held_none {w : World} {p S : Nat} {bs : List Nat} {ways : Nat} {ss : List (List Ent)} {u : Int} (h : CacheAt w p S bs ways ss u) {k : Int} (hf : Finds ss k = none) :
    Calls Try.prog 69 #[.pointer (some ⟨p, 0, none⟩), .int .i64 k] w fun e w' => e = .returned (.tuple #[.pointer none, .int .i64 20]) ∧ Below w.heap.size w w' := by
  by_cases h0 : k < 0
  · exact held_neg k p w h0
  · obtain ⟨m, rfl⟩ := Int.eq_ofNat_of_zero_le (show 0 ≤ k by omega)
    obtain ⟨b', hb', hc⟩ := held_at h m
    refine hc.mono ?_
    rintro e w' ⟨hbel, hm⟩
    unfold Finds at hf
    rw [if_neg h0, Int.toNat_natCast, Option.map_eq_none_iff] at hf
    rw [hf] at hm
    exact ⟨hm, hbel⟩

/-- A cache lies on where nothing of what lay has turned. -/
theorem CacheAt.below {w w' : World} {p S : Nat} {bs : List Nat} {ways : Nat} {ss : List (List Ent)} {u : Int} (h : CacheAt w p S bs ways ss u) {B : Nat} (hb : Below B w w') (hB : w.heap.size ≤ B) : CacheAt w' p S bs ways ss u := by
  have hl := h.lt
  exact h.frame (C := (B ≤ ·)) (Tch.of_below hb) (by omega) (by omega) (fun b hbm => by have := hl.2.2 b hbm; omega)

set_option maxHeartbeats 400000 in
theorem use_any (p : Nat) (v : Value) (u : Int) (w : World) (h : Holds w p 87 [v, .int .i64 u]) (h0 : 0 ≤ u) (hu : u < 4294967296) :
    Calls Try.prog 71 #[.pointer (some ⟨p, 0, none⟩)] w fun e w' => e = .returned (.int .i64 (u + 1)) ∧ w.setCell ⟨p, 1, none⟩ (.int .i64 (u + 1)) = w' := by
  have hc : w.cell? ⟨p, 1, none⟩ = some (.int .i64 u) := h.cell (i := 1) rfl
  have hf := h.free 1
  clear h
  go_enter Try.func71, Try.ntmps71
  go_wp2
  go_ret
  exact ⟨rfl, rfl⟩

set_option maxHeartbeats 400000 in
theorem heldAs_nil (k t : Int) (w : World) : Calls Try.prog 77 #[.pointer none, .int .i64 k, .int .i64 t] w fun e w' => e = .returned (.tuple #[.pointer none, .int .i64 1]) ∧ Below w.heap.size w w' := by
  go_enter Try.func77, Try.ntmps77
  go_wp2_with fail
  refine (held_nil _ _).mono ?_
  rintro e w1 ⟨rfl, hb⟩
  have Hb := Lib.hid hb; clear hb
  go_wp2
  go_ret2
  exact ⟨rfl, Hb.out⟩

set_option maxHeartbeats 400000 in
theorem heldAs_none {w : World} {p S : Nat} {bs : List Nat} {ways : Nat} {ss : List (List Ent)} {u : Int} (h : CacheAt w p S bs ways ss u) {k : Int} (t : Int) (hf : Finds ss k = none) :
    Calls Try.prog 77 #[.pointer (some ⟨p, 0, none⟩), .int .i64 k, .int .i64 t] w fun e w' => e = .returned (.tuple #[.pointer none, .int .i64 20]) ∧ Below w.heap.size w w' := by
  have H := Lib.hid (held_none h hf); clear h hf
  go_enter Try.func77, Try.ntmps77
  go_wp2_with fail
  refine H.out.mono ?_
  rintro e w1 ⟨rfl, hb⟩
  have Hb := Lib.hid hb; clear hb
  go_wp2
  go_ret2
  exact ⟨rfl, Hb.out⟩

theorem CacheAt.state {w : World} {p S : Nat} {bs : List Nat} {ways : Nat} {ss : List (List Ent)} {u : Int} (h : CacheAt w p S bs ways ss u) {i j b : Nat} (hb : bs[i]? = some b) (hj : j < ways) : w.cell? ⟨b, j * 21 + 1, none⟩ = some (.int .i64 (getE ss i j).state) := h.head2 i b j hb hj

set_option maxHeartbeats 400000 in
theorem heldAs_other {w : World} {p S : Nat} {bs : List Nat} {ways : Nat} {ss : List (List Ent)} {u : Int} (h : CacheAt w p S bs ways ss u) {k : Int} (t : Int) {i j : Nat} (hf : Finds ss k = some (i, j)) (ht : (getE ss i j).state ≠ t) :
    Calls Try.prog 77 #[.pointer (some ⟨p, 0, none⟩), .int .i64 k, .int .i64 t] w fun e w' => e = .returned (.tuple #[.pointer none, .int .i64 20]) ∧ Below w.heap.size w w' := by
  obtain ⟨-, -, hil, hjl, -, -⟩ := Finds.facts h hf
  obtain ⟨b, hbx⟩ : ∃ b, bs[i]? = some b := ⟨bs[i], List.getElem?_eq_getElem hil⟩
  have H := Lib.hid (held_some h hf hbx)
  have HC := Lib.hid h; clear h hf
  have Hbx := Lib.hid hbx; clear hbx
  go_enter Try.func77, Try.ntmps77
  go_wp2_with fail
  refine H.out.mono ?_
  rintro e w1 ⟨rfl, hb⟩
  have hc := (HC.out.below hb (Nat.le_refl _)).state Hbx.out hjl
  have Hb := Lib.hid hb; clear hb
  generalize (getE ss i j).state = st at *
  have hg : (st != t) = true := by simpa using ht
  have hg2 : (st == t) = false := by simpa using ht
  clear ht
  go_wp2
  go_ret2
  exact ⟨rfl, Hb.out⟩

set_option maxHeartbeats 400000 in
theorem heldAs_ok {w : World} {p S : Nat} {bs : List Nat} {ways : Nat} {ss : List (List Ent)} {u : Int} (h : CacheAt w p S bs ways ss u) {k : Int} (t : Int) {i j b : Nat} (hf : Finds ss k = some (i, j)) (hbx : bs[i]? = some b) (ht : (getE ss i j).state = t) :
    Calls Try.prog 77 #[.pointer (some ⟨p, 0, none⟩), .int .i64 k, .int .i64 t] w fun e w' => e = .returned (.tuple #[.pointer (some ⟨b, j * 21, none⟩), .int .i64 0]) ∧ Below w.heap.size w w' := by
  obtain ⟨-, -, hil, hjl, -, -⟩ := Finds.facts h hf
  have H := Lib.hid (held_some h hf hbx)
  have HC := Lib.hid h; clear h hf
  have Hbx := Lib.hid hbx; clear hbx
  go_enter Try.func77, Try.ntmps77
  go_wp2_with fail
  refine H.out.mono ?_
  rintro e w1 ⟨rfl, hb⟩
  have hc := (HC.out.below hb (Nat.le_refl _)).state Hbx.out hjl
  have Hb := Lib.hid hb; clear hb
  rw [ht] at hc
  clear ht
  go_wp2
  go_ret2
  exact ⟨rfl, Hb.out⟩

set_option maxHeartbeats 400000 in
theorem heldAt_nil (a : Int) (w : World) : Calls Try.prog 75 #[.pointer none, .int .i64 a] w fun e w' => e = .returned (.tuple #[.pointer none, .int .i64 1]) ∧ Below w.heap.size w w' := by
  go_enter Try.func75, Try.ntmps75
  go_wp2
  go_ret2
  exact ⟨rfl, Below.refl _ _⟩

set_option maxHeartbeats 400000 in
theorem heldAt_neg (a : Int) (p : Nat) (w : World) (ha : a < 0) : Calls Try.prog 75 #[.pointer (some ⟨p, 0, none⟩), .int .i64 a] w fun e w' => e = .returned (.tuple #[.pointer none, .int .i64 2]) ∧ Below w.heap.size w w' := by
  go_enter Try.func75, Try.ntmps75
  go_wp2
  go_ret2
  exact ⟨rfl, Below.refl _ _⟩

set_option maxHeartbeats 400000 in
theorem heldAt_pos {p : Nat} {w : World} (a : Nat) (ha : a ≤ 9223372036854775807) (q v : Value) (B : Nat) (h : Calls Try.prog 69 #[.pointer (some ⟨p, 0, none⟩), .int .i64 ((a / 8 : Nat) : Int)] w fun e w' => e = .returned (.tuple #[q, v]) ∧ Below B w w') :
    Calls Try.prog 75 #[.pointer (some ⟨p, 0, none⟩), .int .i64 a] w fun e w' => e = .returned (.tuple #[q, v]) ∧ Below B w w' := by
  have H := Lib.hid h; clear h
  go_enter Try.func75, Try.ntmps75
  go_wp2_with fail
  refine H.out.mono ?_
  rintro e w1 ⟨rfl, hb⟩
  have Hb := Lib.hid hb; clear hb
  go_wp2
  go_ret2
  exact ⟨rfl, Hb.out⟩

end Go.Proofs.Ytddajnpichchfaa
