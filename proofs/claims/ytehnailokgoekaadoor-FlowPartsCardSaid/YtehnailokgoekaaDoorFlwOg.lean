/- The document's Goes. Conditions: those stated in each theorem. -/
import Derived.Test.YtehnailokgoekaaDoorFlwO
import Derived.Test.YtehnailokgoekaaDoorIsaS0
namespace Go.Proofs.YtehnailokgoekaaDoor
open Go.RowKit Go.BigFrame Go.Shelf
attribute [local go_sem ↓ high] appN_eq

theorem owns_lower {w : World} {lo lo' n size : Nat} {e : TypeId} {v : Value} {xs : List Value} (h : w.ownsRow lo e size v n xs) (hl : lo' ≤ lo) : w.ownsRow lo' e size v n xs := by
  refine ⟨h.1, ?_⟩
  rcases h.2 with h | ⟨g, cap, cur, h1, h2, h3⟩
  · exact .inl h
  · exact .inr ⟨g, cap, cur, h1, Nat.le_trans hl h2, h3⟩
/-- One number appended to none, or to one that is owned. -/
theorem app_first (W : World) (z : Int) : ∃ g cap w', (appN #[.slice none 0 0, .slice (some ⟨W.heap.size, 0, none⟩) 1 1]).run Tryd.prog (W.alloc (.cells #[.int .i64 z] 3)) = .ok (.slice (some ⟨g, 0, none⟩) 1 cap) w' ∧ w'.ownsRow W.heap.size 3 1 (.slice (some ⟨g, 0, none⟩) 1 cap) 1 [.int .i64 z] ∧ Below W.heap.size W w' := by
  obtain ⟨g, cap, w', h1, h2, h3⟩ := appN_own W.heap.size (.slice none 0 0) 0 [] z W (World.ownsRow_nil _ _ _ _) (by decide) (Nat.le_refl _)
  exact ⟨g, cap, w', h1, h2, ((Below.refl _ W).alloc (Nat.le_refl _) _).grown h3 (by simp) (fun r e => by cases e)⟩
theorem app_next {W0 W : World} {g cap : Nat} {y : Int} (h : W.ownsRow W0.heap.size 3 1 (.slice (some ⟨g, 0, none⟩) 1 cap) 1 [.int .i64 y]) (hb : Below W0.heap.size W0 W) (z : Int) : ∃ g' cap' w', (appN #[.slice (some ⟨g, 0, none⟩) 1 cap, .slice (some ⟨W.heap.size, 0, none⟩) 1 1]).run Tryd.prog (W.alloc (.cells #[.int .i64 z] 3)) = .ok (.slice (some ⟨g', 0, none⟩) 2 cap') w' ∧ w'.ownsRow W0.heap.size 3 1 (.slice (some ⟨g', 0, none⟩) 2 cap') 2 [.int .i64 y, .int .i64 z] ∧ Below W0.heap.size W0 w' := by
  obtain ⟨g', cap', w', h1, h2, h3⟩ := appN_own W0.heap.size (.slice (some ⟨g, 0, none⟩) 1 cap) 1 _ z W h (by decide) hb.size
  exact ⟨g', cap', w', h1, h2, (hb.alloc hb.size _).grown h3 (by have := hb.size; simp at this ⊢; omega) (fun r e => by cases e; exact (owns_lt h (g := g) rfl).1)⟩

set_option maxRecDepth 100000 in
set_option maxHeartbeats 4000000 in
theorem rgoes_flow (a : Option Addr) (cap : Nat) (c : List In) (hn : c.length ≤ 1024) (w : World) (hr : RowsIn w a 5 In.cells c) (k : Nat) (i : In) (hk : c[k]? = some i) (hi : I64 i.imm) :
    Calls Tryd.prog 16 #[.slice a c.length cap, .int .i64 k] w fun e w' => ∃ v, e = .returned (.tuple #[v, .bool (endsP i)]) ∧ w'.ownsRow w.heap.size 3 1 v (gosP c k).length (cellsN (gosP c k)) ∧ Below w.heap.size w w' := by
  have hkl : k < c.length := (List.getElem?_eq_some_iff.1 hk).1
  obtain ⟨q, o, rfl, hq, hri⟩ := hr.row hk
  rw [gosP_some hk]
  have hl := rlegal_any i
  obtain ⟨op, a1, b1, c1, imm⟩ := i
  have r0 : w.cell? ⟨q, o + k * 5, none⟩ = some (.int .i64 op) := hri 0 _ rfl
  have r1 : w.cell? ⟨q, o + k * 5 + 1, none⟩ = some (.int .i64 a1) := hri 1 _ rfl
  have r2 : w.cell? ⟨q, o + k * 5 + 2, none⟩ = some (.int .i64 b1) := hri 2 _ rfl
  have r3 : w.cell? ⟨q, o + k * 5 + 3, none⟩ = some (.int .i64 c1) := hri 3 _ rfl
  have r4 : w.cell? ⟨q, o + k * 5 + 4, none⟩ = some (.int .i64 imm) := hri 4 _ rfl
  have hki : (0 : Int) ≤ (k : Int) ∧ (k : Int) < c.length := by omega
  have Hk := Lib.hid (And.intro hk (And.intro hkl (And.intro hi hn))); clear hk hkl hri hr hi hn
  simp only [In.val] at hl
  have hway : wayP ⟨op, a1, b1, c1, imm⟩ = (if legalP ⟨op, a1, b1, c1, imm⟩ = false then (false, false) else if op = 1 then (false, false) else if op = 13 then (true, false) else if op = 14 ∨ op = 15 ∨ op = 16 then (true, true) else (false, true)) := rfl
  have hends : endsP ⟨op, a1, b1, c1, imm⟩ = ((wayP ⟨op, a1, b1, c1, imm⟩).1 || !(wayP ⟨op, a1, b1, c1, imm⟩).2) := rfl
  have hgos : gosI c k ⟨op, a1, b1, c1, imm⟩ = (if (wayP ⟨op, a1, b1, c1, imm⟩).1 && (decide (0 ≤ imm) && decide (imm < c.length)) then [imm.toNat] else []) ++ (if (wayP ⟨op, a1, b1, c1, imm⟩).2 && decide (k + 1 < c.length) then [k + 1] else []) := rfl
  generalize wayP ⟨op, a1, b1, c1, imm⟩ = wy at *
  generalize endsP ⟨op, a1, b1, c1, imm⟩ = en at *
  generalize gosI c k ⟨op, a1, b1, c1, imm⟩ = gs at *
  generalize legalP ⟨op, a1, b1, c1, imm⟩ = lg at *
  have HW := Lib.hid (And.intro hends hgos); clear hends hgos
  have Hl := Lib.hid hl; clear hl
  go_enter Tryd.func16, Tryd.ntmps16
  go_wp2_with fail
  refine (Hl.out _).mono ?_
  rintro e w2 ⟨rfl, hb⟩
  have hx : Holds w2 w.heap.size 53 [.int .i64 op, .int .i64 a1, .int .i64 b1, .int .i64 c1, .int .i64 imm] := (Holds.new w 53 [.int .i64 op, .int .i64 a1, .int .i64 b1, .int .i64 c1, .int .i64 imm]).below hb
  have hbw : Below w.heap.size w w2 := by
    have h1 : Below w.heap.size w (w.alloc (.cells #[.int .i64 op, .int .i64 a1, .int .i64 b1, .int .i64 c1, .int .i64 imm] 53)) := (Below.refl _ w).alloc (Nat.le_refl _) _
    exact h1.trans (hb.mono h1.size)
  have x0 := hx.cell (i := 0) rfl
  have x4 := hx.cell (i := 4) rfl
  have Hw2 := Lib.hid (And.intro hx hbw); clear hb hx hbw r0 r1 r2 r3 r4 hq Hl
  have hkk : IntKind.i64.wrap ((k : Int) + 1) = (k : Int) + 1 := by rw [IntKind.wrap_i64]; have := Hk.out; omega
  have Hkk := Lib.hid hkk; clear hkk
  by_cases hbad : lg = false ∨ op = 1
  · have hwy : wy = (false, false) := by rw [hway]; rcases hbad with h | h <;> simp [h]
    have hf : en = true ∧ gs = [] := by rw [HW.out.1, HW.out.2, hwy]; simp
    obtain ⟨rfl, rfl⟩ := hf
    clear hway HW
    cases lg with
    | false =>
      clear hbad hwy
      by_cases h2 : 13 ≤ op
      · have e2 : decide (13 ≤ op) = true := decide_eq_true h2
        clear h2
        by_cases h3 : op ≤ 16
        · have e3 : decide (op ≤ 16) = true := decide_eq_true h3
          clear h3
          go_wp2_with fail
          go_ret2
          exact ⟨_, rfl, World.ownsRow_nil _ _ _ _, Hw2.out.2⟩
        · have e3 : decide (op ≤ 16) = false := decide_eq_false h3
          clear h3
          go_wp2_with fail
          go_ret2
          exact ⟨_, rfl, World.ownsRow_nil _ _ _ _, Hw2.out.2⟩
      · have e2 : decide (13 ≤ op) = false := decide_eq_false h2
        clear h2
        go_wp2_with fail
        go_ret2
        exact ⟨_, rfl, World.ownsRow_nil _ _ _ _, Hw2.out.2⟩
    | true =>
      obtain rfl : op = 1 := by simpa using hbad
      clear hbad hwy
      go_wp2_with fail
      go_ret2
      exact ⟨_, rfl, World.ownsRow_nil _ _ _ _, Hw2.out.2⟩
  · obtain rfl : lg = true := by cases lg <;> simp_all
    have hop1 : ¬ op = 1 := fun h => hbad (.inr h)
    have e1 : (op == 1) = false := by simpa using hop1
    simp only [Bool.true_eq_false, if_false, if_neg hop1] at hway
    clear hbad
    rcases (show op = 13 ∨ (14 ≤ op ∧ op ≤ 16) ∨ op < 13 ∨ 16 < op by omega) with hc | hc | hc | hc
    · subst hc
      obtain rfl : wy = (true, false) := hway
      clear hop1 e1
      by_cases Z0 : 0 ≤ imm
      · have z0 : decide (0 ≤ imm) = true := decide_eq_true Z0
        by_cases Z1 : imm < c.length
        · have z1 : decide (imm < (c.length : Int)) = true := decide_eq_true Z1
          clear Z1
          have hf : en = true ∧ gs = [imm.toNat] := by rw [HW.out.1, HW.out.2]; simp [z0, z1]
          have Hf := Lib.hid hf; clear hf
          have hf := Hf.out
          obtain ⟨rfl, rfl⟩ := hf
          clear Hf HW
          obtain ⟨g, cp, w3, hap, how, hb3⟩ := app_first w2 imm
          have y0 := (Hw2.out.1.below hb3).cell (i := 0) rfl
          have HO := Lib.hid (And.intro how hb3); clear how hb3
          have H0 := Lib.hid (Z0); clear Z0
          go_wp2_with fail
          go_ret2
          exact ⟨_, rfl, by simpa [cellsN, Int.toNat_of_nonneg H0.out] using owns_lower HO.out.1 Hw2.out.2.size, Hw2.out.2.trans (HO.out.2.mono Hw2.out.2.size)⟩
        · have z1 : decide (imm < (c.length : Int)) = false := decide_eq_false Z1
          clear Z0 Z1
          have hf : en = true ∧ gs = [] := by rw [HW.out.1, HW.out.2]; simp [z0, z1]
          have Hf := Lib.hid hf; clear hf
          have hf := Hf.out
          obtain ⟨rfl, rfl⟩ := hf
          clear Hf HW
          go_wp2_with fail
          go_ret2
          exact ⟨_, rfl, World.ownsRow_nil _ _ _ _, Hw2.out.2⟩
      · have z0 : decide (0 ≤ imm) = false := decide_eq_false Z0
        clear Z0
        have hf : en = true ∧ gs = [] := by rw [HW.out.1, HW.out.2]; simp [z0]
        have Hf := Lib.hid hf; clear hf
        have hf := Hf.out
        obtain ⟨rfl, rfl⟩ := hf
        clear Hf HW
        go_wp2_with fail
        go_ret2
        exact ⟨_, rfl, World.ownsRow_nil _ _ _ _, Hw2.out.2⟩
    · have e2 : decide (13 ≤ op) = true := decide_eq_true (by omega)
      have e3 : decide (op ≤ 16) = true := decide_eq_true (by omega)
      have e4 : (op != 13) = true := by simp; omega
      obtain rfl : wy = (true, true) := by rw [hway, if_neg (by omega), if_pos (by omega)]
      clear hway hop1 hc
      by_cases Z0 : 0 ≤ imm
      · have z0 : decide (0 ≤ imm) = true := decide_eq_true Z0
        by_cases Z1 : imm < c.length
        · have z1 : decide (imm < (c.length : Int)) = true := decide_eq_true Z1
          clear Z1
          by_cases hq : k + 1 < c.length
          · have y1 : decide (k + 1 < c.length) = true := decide_eq_true hq
            have y2 : decide ((k : Int) + 1 < (c.length : Int)) = true := decide_eq_true (by omega)
            clear hq
            have hf : en = true ∧ gs = [imm.toNat, k + 1] := by rw [HW.out.1, HW.out.2]; simp [z0, z1, y1]
            have Hf := Lib.hid hf; clear hf
            have hf := Hf.out
            obtain ⟨rfl, rfl⟩ := hf
            clear Hf HW
            have hkk := Hkk.out
            obtain ⟨g, cp, w3, hap, how, hb3⟩ := app_first w2 imm
            have y0 := (Hw2.out.1.below hb3).cell (i := 0) rfl
            obtain ⟨g2, cp2, w4, hap2, how2, hb4⟩ := app_next how hb3 ((k : Int) + 1)
            have HO := Lib.hid (And.intro how2 hb4); clear how how2 hb3 hb4
            have H0 := Lib.hid (Z0); clear Z0
            go_wp2_with fail
            go_ret2
            exact ⟨_, rfl, by simpa [cellsN, Int.toNat_of_nonneg H0.out] using owns_lower HO.out.1 Hw2.out.2.size, Hw2.out.2.trans (HO.out.2.mono Hw2.out.2.size)⟩
          · have y1 : decide (k + 1 < c.length) = false := decide_eq_false hq
            have y2 : decide ((k : Int) + 1 < (c.length : Int)) = false := decide_eq_false (by omega)
            clear hq
            have hf : en = true ∧ gs = [imm.toNat] := by rw [HW.out.1, HW.out.2]; simp [z0, z1, y1]
            have Hf := Lib.hid hf; clear hf
            have hf := Hf.out
            obtain ⟨rfl, rfl⟩ := hf
            clear Hf HW
            have hkk := Hkk.out
            obtain ⟨g, cp, w3, hap, how, hb3⟩ := app_first w2 imm
            have y0 := (Hw2.out.1.below hb3).cell (i := 0) rfl
            have HO := Lib.hid (And.intro how hb3); clear how hb3
            have H0 := Lib.hid (Z0); clear Z0
            go_wp2_with fail
            go_ret2
            exact ⟨_, rfl, by simpa [cellsN, Int.toNat_of_nonneg H0.out] using owns_lower HO.out.1 Hw2.out.2.size, Hw2.out.2.trans (HO.out.2.mono Hw2.out.2.size)⟩
        · have z1 : decide (imm < (c.length : Int)) = false := decide_eq_false Z1
          clear Z0 Z1
          by_cases hq : k + 1 < c.length
          · have y1 : decide (k + 1 < c.length) = true := decide_eq_true hq
            have y2 : decide ((k : Int) + 1 < (c.length : Int)) = true := decide_eq_true (by omega)
            clear hq
            have hf : en = true ∧ gs = [k + 1] := by rw [HW.out.1, HW.out.2]; simp [z0, z1, y1]
            have Hf := Lib.hid hf; clear hf
            have hf := Hf.out
            obtain ⟨rfl, rfl⟩ := hf
            clear Hf HW
            have hkk := Hkk.out
            obtain ⟨g, cp, w3, hap, how, hb3⟩ := app_first w2 ((k : Int) + 1)
            have HO := Lib.hid (And.intro how hb3); clear how hb3
            go_wp2_with fail
            go_ret2
            exact ⟨_, rfl, by simpa [cellsN] using owns_lower HO.out.1 Hw2.out.2.size, Hw2.out.2.trans (HO.out.2.mono Hw2.out.2.size)⟩
          · have y1 : decide (k + 1 < c.length) = false := decide_eq_false hq
            have y2 : decide ((k : Int) + 1 < (c.length : Int)) = false := decide_eq_false (by omega)
            clear hq
            have hf : en = true ∧ gs = [] := by rw [HW.out.1, HW.out.2]; simp [z0, z1, y1]
            have Hf := Lib.hid hf; clear hf
            have hf := Hf.out
            obtain ⟨rfl, rfl⟩ := hf
            clear Hf HW
            have hkk := Hkk.out
            go_wp2_with fail
            go_ret2
            exact ⟨_, rfl, World.ownsRow_nil _ _ _ _, Hw2.out.2⟩
      · have z0 : decide (0 ≤ imm) = false := decide_eq_false Z0
        clear Z0
        by_cases hq : k + 1 < c.length
        · have y1 : decide (k + 1 < c.length) = true := decide_eq_true hq
          have y2 : decide ((k : Int) + 1 < (c.length : Int)) = true := decide_eq_true (by omega)
          clear hq
          have hf : en = true ∧ gs = [k + 1] := by rw [HW.out.1, HW.out.2]; simp [z0, y1]
          have Hf := Lib.hid hf; clear hf
          have hf := Hf.out
          obtain ⟨rfl, rfl⟩ := hf
          clear Hf HW
          have hkk := Hkk.out
          obtain ⟨g, cp, w3, hap, how, hb3⟩ := app_first w2 ((k : Int) + 1)
          have HO := Lib.hid (And.intro how hb3); clear how hb3
          go_wp2_with fail
          go_ret2
          exact ⟨_, rfl, by simpa [cellsN] using owns_lower HO.out.1 Hw2.out.2.size, Hw2.out.2.trans (HO.out.2.mono Hw2.out.2.size)⟩
        · have y1 : decide (k + 1 < c.length) = false := decide_eq_false hq
          have y2 : decide ((k : Int) + 1 < (c.length : Int)) = false := decide_eq_false (by omega)
          clear hq
          have hf : en = true ∧ gs = [] := by rw [HW.out.1, HW.out.2]; simp [z0, y1]
          have Hf := Lib.hid hf; clear hf
          have hf := Hf.out
          obtain ⟨rfl, rfl⟩ := hf
          clear Hf HW
          have hkk := Hkk.out
          go_wp2_with fail
          go_ret2
          exact ⟨_, rfl, World.ownsRow_nil _ _ _ _, Hw2.out.2⟩
    · have e2 : decide (13 ≤ op) = false := decide_eq_false (by omega)
      have e4 : (op != 13) = true := by simp; omega
      obtain rfl : wy = (false, true) := by rw [hway, if_neg (by omega), if_neg (by omega)]
      clear hway hop1 hc
      by_cases hq : k + 1 < c.length
      · have y1 : decide (k + 1 < c.length) = true := decide_eq_true hq
        have y2 : decide ((k : Int) + 1 < (c.length : Int)) = true := decide_eq_true (by omega)
        clear hq
        have hf : en = false ∧ gs = [k + 1] := by rw [HW.out.1, HW.out.2]; simp [y1]
        have Hf := Lib.hid hf; clear hf
        have hf := Hf.out
        obtain ⟨rfl, rfl⟩ := hf
        clear Hf HW
        have hkk := Hkk.out
        obtain ⟨g, cp, w3, hap, how, hb3⟩ := app_first w2 ((k : Int) + 1)
        have HO := Lib.hid (And.intro how hb3); clear how hb3
        go_wp2_with fail
        go_ret2
        exact ⟨_, rfl, by simpa [cellsN] using owns_lower HO.out.1 Hw2.out.2.size, Hw2.out.2.trans (HO.out.2.mono Hw2.out.2.size)⟩
      · have y1 : decide (k + 1 < c.length) = false := decide_eq_false hq
        have y2 : decide ((k : Int) + 1 < (c.length : Int)) = false := decide_eq_false (by omega)
        clear hq
        have hf : en = false ∧ gs = [] := by rw [HW.out.1, HW.out.2]; simp [y1]
        have Hf := Lib.hid hf; clear hf
        have hf := Hf.out
        obtain ⟨rfl, rfl⟩ := hf
        clear Hf HW
        have hkk := Hkk.out
        go_wp2_with fail
        go_ret2
        exact ⟨_, rfl, World.ownsRow_nil _ _ _ _, Hw2.out.2⟩
    · have e2 : decide (13 ≤ op) = true := decide_eq_true (by omega)
      have e3 : decide (op ≤ 16) = false := decide_eq_false (by omega)
      have e4 : (op != 13) = true := by simp; omega
      obtain rfl : wy = (false, true) := by rw [hway, if_neg (by omega), if_neg (by omega)]
      clear hway hop1 hc
      by_cases hq : k + 1 < c.length
      · have y1 : decide (k + 1 < c.length) = true := decide_eq_true hq
        have y2 : decide ((k : Int) + 1 < (c.length : Int)) = true := decide_eq_true (by omega)
        clear hq
        have hf : en = false ∧ gs = [k + 1] := by rw [HW.out.1, HW.out.2]; simp [y1]
        have Hf := Lib.hid hf; clear hf
        have hf := Hf.out
        obtain ⟨rfl, rfl⟩ := hf
        clear Hf HW
        have hkk := Hkk.out
        obtain ⟨g, cp, w3, hap, how, hb3⟩ := app_first w2 ((k : Int) + 1)
        have HO := Lib.hid (And.intro how hb3); clear how hb3
        go_wp2_with fail
        go_ret2
        exact ⟨_, rfl, by simpa [cellsN] using owns_lower HO.out.1 Hw2.out.2.size, Hw2.out.2.trans (HO.out.2.mono Hw2.out.2.size)⟩
      · have y1 : decide (k + 1 < c.length) = false := decide_eq_false hq
        have y2 : decide ((k : Int) + 1 < (c.length : Int)) = false := decide_eq_false (by omega)
        clear hq
        have hf : en = false ∧ gs = [] := by rw [HW.out.1, HW.out.2]; simp [y1]
        have Hf := Lib.hid hf; clear hf
        have hf := Hf.out
        obtain ⟨rfl, rfl⟩ := hf
        clear Hf HW
        have hkk := Hkk.out
        go_wp2_with fail
        go_ret2
        exact ⟨_, rfl, World.ownsRow_nil _ _ _ _, Hw2.out.2⟩

end Go.Proofs.YtehnailokgoekaaDoor
