/- Word, Put and Mark. Conditions: those stated in each theorem. -/
import Derived.Test.YtddajnpichchfaaOps
namespace Go.Proofs.Ytddajnpichchfaa
open Go.RowKit

theorem Ent.word (e : Ent) (m : Nat) (hm : m < 8) : e.cells[4 + m]? = some (.int .u64 (e.data.get m)) := by
  match m, hm with
  | 0, _ | 1, _ | 2, _ | 3, _ | 4, _ | 5, _ | 6, _ | 7, _ => rfl
theorem Ent.setWord (e : Ent) (m : Nat) (hm : m < 8) (v u : Int) : splices e.cells [(20, [.int .i64 u]), (4 + m, [.int .u64 v])] = ({ e with used := u, data := e.data.set m v } : Ent).cells := by
  match m, hm with
  | 0, _ | 1, _ | 2, _ | 3, _ | 4, _ | 5, _ | 6, _ | 7, _ => rfl

theorem use_at {w : World} {p S : Nat} {bs : List Nat} {ways : Nat} {ss : List (List Ent)} {u : Int} (h : CacheAt w p S bs ways ss u) (h0 : 0 ≤ u) (hu : u < 4294967296) :
    Calls Try.prog 71 #[.pointer (some ⟨p, 0, none⟩)] w fun e w' => e = .returned (.int .i64 (u + 1)) ∧ CacheAt w' p S bs ways ss (u + 1) ∧ Tch (· = p) w w' := by
  refine (use_any p _ u w h.head h0 hu).mono ?_
  rintro e w' ⟨rfl, rfl⟩
  exact ⟨rfl, h.use _, Tch.setCell (C := (· = p)) (Tch.refl _ w) (.inl rfl) _⟩

theorem turns_of_below {p : Nat} {bs : List Nat} {w w' : World} (h : Below w.heap.size w w') : Tch (Turns p bs) w w' :=
  ⟨h.os, h.tape, h.output, h.size, fun k hk _ => h.block k hk⟩
theorem Tch.via {p : Nat} {bs : List Nat} {C : Nat → Prop} {a b c : World} (h : Tch (Turns p bs) a b) (k : Tch C b c) (hC : ∀ i, C i → Turns p bs i) : Tch (Turns p bs) a c := h.trans (k.mono fun i _ hi => hC i hi)

theorem Finds.bk {w : World} {p S : Nat} {bs : List Nat} {ways : Nat} {ss : List (List Ent)} {u : Int} (h : CacheAt w p S bs ways ss u) {k : Int} {i j : Nat} (hf : Finds ss k = some (i, j)) : ∃ b, bs[i]? = some b ∧ j < ways := by
  obtain ⟨_, _, hil, hjl, _⟩ := Finds.facts h hf
  exact ⟨bs[i], List.getElem?_eq_getElem hil, hjl⟩

set_option maxHeartbeats 400000 in
theorem word_nil (a : Int) (w : World) : Calls Try.prog 34 #[.pointer none, .int .i64 a] w fun e w' => e = .returned (.tuple #[.int .u64 0, .int .i64 1]) ∧ Below w.heap.size w w' := by
  go_enter Try.func34, Try.ntmps34
  go_wp2_with fail
  refine (heldAt_nil _ _).mono ?_
  rintro e w1 ⟨rfl, hb⟩
  have Hb := Lib.hid hb; clear hb
  go_wp2
  go_ret2
  exact ⟨rfl, Hb.out⟩
set_option maxHeartbeats 400000 in
theorem word_neg (a : Int) (p : Nat) (w : World) (ha : a < 0) : Calls Try.prog 34 #[.pointer (some ⟨p, 0, none⟩), .int .i64 a] w fun e w' => e = .returned (.tuple #[.int .u64 0, .int .i64 2]) ∧ Below w.heap.size w w' := by
  go_enter Try.func34, Try.ntmps34
  go_wp2_with fail
  refine (heldAt_neg _ _ _ ha).mono ?_
  rintro e w1 ⟨rfl, hb⟩
  have Hb := Lib.hid hb; clear hb
  go_wp2
  go_ret2
  exact ⟨rfl, Hb.out⟩
set_option maxHeartbeats 400000 in
theorem word_none {w : World} {p S : Nat} {bs : List Nat} {ways : Nat} {ss : List (List Ent)} {u : Int} (h : CacheAt w p S bs ways ss u) (a : Nat) (ha : a ≤ 9223372036854775807) (hf : Finds ss ((a / 8 : Nat) : Int) = none) :
    Calls Try.prog 34 #[.pointer (some ⟨p, 0, none⟩), .int .i64 a] w fun e w' => e = .returned (.tuple #[.int .u64 0, .int .i64 20]) ∧ Below w.heap.size w w' := by
  have H := Lib.hid (heldAt_pos a ha _ _ _ (held_none h hf)); clear h hf
  go_enter Try.func34, Try.ntmps34
  go_wp2_with fail
  refine H.out.mono ?_
  rintro e w1 ⟨rfl, hb⟩
  have Hb := Lib.hid hb; clear hb
  go_wp2
  go_ret2
  exact ⟨rfl, Hb.out⟩

set_option maxHeartbeats 1000000 in
theorem word_ok {w : World} {p S : Nat} {bs : List Nat} {ways : Nat} {ss : List (List Ent)} {u : Int} (h : CacheAt w p S bs ways ss u) (a : Nat) (ha : a ≤ 9223372036854775807) {i j : Nat} (hf : Finds ss ((a / 8 : Nat) : Int) = some (i, j)) (h0 : 0 ≤ u) (hu : u < 4294967296) :
    Calls Try.prog 34 #[.pointer (some ⟨p, 0, none⟩), .int .i64 a] w fun e w' => e = .returned (.tuple #[.int .u64 ((getE ss i j).data.get (a % 8)), .int .i64 0]) ∧
      CacheAt w' p S bs ways (upd ss i j { getE ss i j with used := u + 1 }) (u + 1) ∧ Tch (Turns p bs) w w' := by
  obtain ⟨b, hbx, hjl⟩ := Finds.bk h hf
  have H := Lib.hid (heldAt_pos a ha _ _ _ (held_some h hf hbx))
  have HC := Lib.hid h; clear h hf
  have Hbx := Lib.hid hbx; clear hbx
  have hm : a % 8 < 8 := Nat.mod_lt _ (by omega)
  go_enter Try.func34, Try.ntmps34
  go_wp2_with fail
  refine H.out.mono ?_
  rintro e w1 ⟨rfl, hb⟩
  have H1 := Lib.hid (HC.out.below hb (Nat.le_refl _))
  have HT1 := Lib.hid (turns_of_below (p := p) (bs := bs) hb); clear hb
  go_wp2_with fail
  refine (use_at H1.out h0 hu).mono ?_
  rintro e w2 ⟨rfl, h2, hT2⟩
  obtain ⟨s, hs, he, hr⟩ := h2.ent Hbx.out hjl
  have c20 := hr.ent he (k := 20) (by omega) rfl
  have f20 := hr.free (j * 21 + 20)
  have cw : w2.cell? ⟨b, j * 21 + 4 + a % 8, none⟩ = some (.int .u64 ((getE ss i j).data.get (a % 8))) := by
    have := hr.ent he (k := 4 + a % 8) (by omega) (Ent.word _ _ hm)
    rwa [← Nat.add_assoc] at this
  have cw2 : (w2.setCell ⟨b, j * 21 + 20, none⟩ (.int .i64 (u + 1))).cell? ⟨b, j * 21 + 4 + a % 8, none⟩ = some (.int .u64 ((getE ss i j).data.get (a % 8))) := by
    rw [World.cell?_setCell_other _ _ _ _ (fun e => by simp at e; try omega)]; exact cw
  have h3 := h2.puts Hbx.out hs he (e' := { getE ss i j with used := u + 1 }) [(20, [.int .i64 (u + 1)])] (by simp) rfl
  have hT3 : Tch (Turns p bs) w (wr w2 b (j * 21) [(20, [.int .i64 (u + 1)])]) := Tch.wrs (.inl (.inr (List.mem_of_getElem? Hbx.out))) _ (HT1.out.via hT2 (fun _ h => .inl h))
  have H3 := Lib.hid h3
  have HT3 := Lib.hid hT3
  clear h3 hT3 h2 hT2 hs he hr cw
  go_wp2
  go_ret2
  exact ⟨rfl, H3.out, HT3.out⟩

set_option maxHeartbeats 400000 in
theorem put_nil (a v : Int) (w : World) : Calls Try.prog 36 #[.pointer none, .int .i64 a, .int .u64 v] w fun e w' => e = .returned (.int .i64 1) ∧ Below w.heap.size w w' := by
  go_enter Try.func36, Try.ntmps36
  go_wp2_with fail
  refine (heldAt_nil _ _).mono ?_
  rintro e w1 ⟨rfl, hb⟩
  have Hb := Lib.hid hb; clear hb
  go_wp2
  go_ret
  exact ⟨rfl, Hb.out⟩
set_option maxHeartbeats 400000 in
theorem put_neg (a v : Int) (p : Nat) (w : World) (ha : a < 0) : Calls Try.prog 36 #[.pointer (some ⟨p, 0, none⟩), .int .i64 a, .int .u64 v] w fun e w' => e = .returned (.int .i64 2) ∧ Below w.heap.size w w' := by
  go_enter Try.func36, Try.ntmps36
  go_wp2_with fail
  refine (heldAt_neg _ _ _ ha).mono ?_
  rintro e w1 ⟨rfl, hb⟩
  have Hb := Lib.hid hb; clear hb
  go_wp2
  go_ret
  exact ⟨rfl, Hb.out⟩
set_option maxHeartbeats 400000 in
theorem put_none {w : World} {p S : Nat} {bs : List Nat} {ways : Nat} {ss : List (List Ent)} {u : Int} (h : CacheAt w p S bs ways ss u) (a : Nat) (v : Int) (ha : a ≤ 9223372036854775807) (hf : Finds ss ((a / 8 : Nat) : Int) = none) :
    Calls Try.prog 36 #[.pointer (some ⟨p, 0, none⟩), .int .i64 a, .int .u64 v] w fun e w' => e = .returned (.int .i64 20) ∧ Below w.heap.size w w' := by
  have H := Lib.hid (heldAt_pos a ha _ _ _ (held_none h hf)); clear h hf
  go_enter Try.func36, Try.ntmps36
  go_wp2_with fail
  refine H.out.mono ?_
  rintro e w1 ⟨rfl, hb⟩
  have Hb := Lib.hid hb; clear hb
  go_wp2
  go_ret
  exact ⟨rfl, Hb.out⟩
set_option maxHeartbeats 400000 in
theorem put_shared {w : World} {p S : Nat} {bs : List Nat} {ways : Nat} {ss : List (List Ent)} {u : Int} (h : CacheAt w p S bs ways ss u) (a : Nat) (v : Int) (ha : a ≤ 9223372036854775807) {i j : Nat} (hf : Finds ss ((a / 8 : Nat) : Int) = some (i, j)) (ht : (getE ss i j).state ≠ 2) :
    Calls Try.prog 36 #[.pointer (some ⟨p, 0, none⟩), .int .i64 a, .int .u64 v] w fun e w' => e = .returned (.int .i64 20) ∧ Below w.heap.size w w' := by
  obtain ⟨b, hbx, hjl⟩ := Finds.bk h hf
  have H := Lib.hid (heldAt_pos a ha _ _ _ (held_some h hf hbx))
  have HC := Lib.hid h; clear h hf
  have Hbx := Lib.hid hbx; clear hbx
  go_enter Try.func36, Try.ntmps36
  go_wp2_with fail
  refine H.out.mono ?_
  rintro e w1 ⟨rfl, hb⟩
  have hc := (HC.out.below hb (Nat.le_refl _)).state Hbx.out hjl
  have Hb := Lib.hid hb; clear hb
  generalize (getE ss i j).state = st at *
  have hg : (st != 2) = true := by simpa using ht
  have hg2 : (st == 2) = false := by simpa using ht
  clear ht
  go_wp2
  go_ret
  exact ⟨rfl, Hb.out⟩

set_option maxHeartbeats 1000000 in
theorem put_ok {w : World} {p S : Nat} {bs : List Nat} {ways : Nat} {ss : List (List Ent)} {u : Int} (h : CacheAt w p S bs ways ss u) (a : Nat) (v : Int) (ha : a ≤ 9223372036854775807) {i j : Nat} (hf : Finds ss ((a / 8 : Nat) : Int) = some (i, j)) (ht : (getE ss i j).state = 2) (h0 : 0 ≤ u) (hu : u < 4294967296) :
    Calls Try.prog 36 #[.pointer (some ⟨p, 0, none⟩), .int .i64 a, .int .u64 v] w fun e w' => e = .returned (.int .i64 0) ∧
      CacheAt w' p S bs ways (upd ss i j { getE ss i j with used := u + 1, data := (getE ss i j).data.set (a % 8) v }) (u + 1) ∧ Tch (Turns p bs) w w' := by
  obtain ⟨b, hbx, hjl⟩ := Finds.bk h hf
  have H := Lib.hid (heldAt_pos a ha _ _ _ (held_some h hf hbx))
  have HC := Lib.hid h; clear h hf
  have Hbx := Lib.hid hbx; clear hbx
  have hm : a % 8 < 8 := Nat.mod_lt _ (by omega)
  go_enter Try.func36, Try.ntmps36
  go_wp2_with fail
  refine H.out.mono ?_
  rintro e w1 ⟨rfl, hb⟩
  have H1 := Lib.hid (HC.out.below hb (Nat.le_refl _))
  have hc := H1.out.state Hbx.out hjl
  rw [ht] at hc
  have HT1 := Lib.hid (turns_of_below (p := p) (bs := bs) hb); clear hb
  go_wp2_with fail
  refine (use_at H1.out h0 hu).mono ?_
  rintro e w2 ⟨rfl, h2, hT2⟩
  obtain ⟨s, hs, he, hr⟩ := h2.ent Hbx.out hjl
  have c20 := hr.ent he (k := 20) (by omega) rfl
  have f20 := hr.free (j * 21 + 20)
  have cw2 : (w2.setCell ⟨b, j * 21 + 20, none⟩ (.int .i64 (u + 1))).cell? ⟨b, j * 21 + 4 + a % 8, none⟩ = some (.int .u64 ((getE ss i j).data.get (a % 8))) := by
    rw [World.cell?_setCell_other _ _ _ _ (fun e => by simp at e; try omega)]
    have := hr.ent he (k := 4 + a % 8) (by omega) (Ent.word _ _ hm)
    rwa [← Nat.add_assoc] at this
  have fw := hr.free (j * 21 + 4 + a % 8)
  have h3 := h2.puts Hbx.out hs he (e' := { getE ss i j with used := u + 1, data := (getE ss i j).data.set (a % 8) v }) [(20, [.int .i64 (u + 1)]), (4 + a % 8, [.int .u64 v])] (by simp; omega) (Ent.setWord _ _ hm v (u + 1))
  have hT3 : Tch (Turns p bs) w (wr w2 b (j * 21) [(20, [.int .i64 (u + 1)]), (4 + a % 8, [.int .u64 v])]) := Tch.wrs (.inl (.inr (List.mem_of_getElem? Hbx.out))) _ (HT1.out.via hT2 (fun _ h => .inl h))
  have hww : wr w2 b (j * 21) [(20, [.int .i64 (u + 1)]), (4 + a % 8, [.int .u64 v])] = (w2.setCell ⟨b, j * 21 + 20, none⟩ (.int .i64 (u + 1))).setCell ⟨b, j * 21 + 4 + a % 8, none⟩ (.int .u64 v) := by
    rw [Nat.add_assoc]; rfl
  rw [hww] at h3 hT3
  have H3 := Lib.hid h3
  have HT3 := Lib.hid hT3
  clear h3 hT3 h2 hT2 hs he hr hww ht
  generalize (getE ss i j).data.get (a % 8) = x at *
  go_wp2
  go_ret
  exact ⟨rfl, H3.out, HT3.out⟩

end Go.Proofs.Ytddajnpichchfaa
