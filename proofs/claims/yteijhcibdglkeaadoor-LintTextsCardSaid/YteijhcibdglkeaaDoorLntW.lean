/- LintTexts: the walk. Conditions: those stated in each theorem. -/
import Derived.Test.YteijhcibdglkeaaDoorLntJ
namespace Go.Proofs.YteijhcibdglkeaaDoor
open Go.RowKit Go.BigFrame

theorem any_take (L : List (Int × Int)) (k : Nat) (x : Int × Int) (h : L[k]? = some x) : (L.take (k + 1)).any badF = ((L.take k).any badF || badF x) := by
  rw [List.take_add_one, h, List.any_append]; simp
set_option maxRecDepth 100000 in
set_option maxHeartbeats 2000000 in
theorem texts_any (a : Option Addr) (cap : Nat) (L : List (Int × Int)) (hL : ∀ x ∈ L, I64 x.1 ∧ I64 x.2) (w : World) (h : StdL w) (hr : RowsIn w a 2 fdC L) : Calls Tryd.prog 4 #[.slice a L.length cap] w fun e w' => e = .returned (.bool true) ∧ Below w.heap.size w w' := by
  by_cases hbig : 200 < L.length
  · have d1 : decide (200 < (L.length : Int)) = true := decide_eq_true (by omega)
    clear hbig
    go_enter Tryd.func4, Tryd.ntmps4
    go_wp2_with fail
    go_ret
    exact ⟨rfl, Below.refl _ _⟩
  have d1 : decide (200 < (L.length : Int)) = false := decide_eq_false (by omega)
  have H := Lib.hid (And.intro h (And.intro hr (And.intro hL (Nat.le_of_not_lt hbig)))); clear h hr hL hbig
  go_enter Tryd.func4, Tryd.ntmps4
  go_wp2_with fail
  go_loopg [3, 12] (L.length + 1) (fun gg s3 s12 wr => ∃ k : Nat, k ≤ L.length ∧ L.length + 1 - k ≤ gg ∧ s12 = .int .i64 k ∧ s3 = .bool (!(L.take k).any badF) ∧ Below w.heap.size w wr)
  case atStart => exact ⟨0, by omega, by omega, rfl, rfl, Below.refl _ _⟩
  case round =>
    obtain ⟨k, hk, hgg, rfl, rfl, hb⟩ := hrel
    by_cases hkn : k < L.length
    · obtain ⟨x, hx⟩ : ∃ x, L[k]? = some x := ⟨_, List.getElem?_eq_getElem hkn⟩
      obtain ⟨q, o, rfl, hq, hrow⟩ := (H.out.2.1.below hb).row hx
      have hxi := H.out.2.2.1 x (List.mem_of_getElem? hx)
      have hat := any_take L k x hx
      obtain ⟨cd, pl⟩ := x
      have hki : (0 : Int) ≤ k ∧ (k : Int) < L.length := by omega
      have hkk : IntKind.i64.wrap ((k : Int) + 1) = (k : Int) + 1 := by have := H.out.2.2.2; rw [IntKind.wrap_i64]; omega
      have r0 : wr.cell? ⟨q, o + k * 2, none⟩ = some (.int .i64 cd) := hrow 0 _ rfl
      have r1 : wr.cell? ⟨q, o + k * 2 + 1, none⟩ = some (.int .i64 pl) := hrow 1 _ rfl
      have HT := Lib.hid (text_lint cd pl hxi.2 (by have := itoa_len pl hxi.2; omega) wr (H.out.1.below hb))
      have HR := Lib.hid (fun V : World => rtext_any cd pl hxi.2 V)
      have HX := Lib.hid (And.intro hb (And.intro hkn (And.intro hgg (And.intro hx hat)))); clear hb hkn hgg hx hk hrow hxi hq hat
      generalize textF cd pl = tt at *
      go_wp2_with fail
      refine HT.out.mono ?_
      rintro e w2 ⟨rfl, hb2⟩
      have hb2' := HX.out.1.trans (hb2.mono HX.out.1.size)
      obtain ⟨q2, o2, e2, hq2, hrow⟩ := (H.out.2.1.below hb2').row HX.out.2.2.2.1
      cases e2
      have r0 : w2.cell? ⟨q, o + k * 2, none⟩ = some (.int .i64 cd) := hrow 0 _ rfl
      have r1 : w2.cell? ⟨q, o + k * 2 + 1, none⟩ = some (.int .i64 pl) := hrow 1 _ rfl
      have HB2 := Lib.hid hb2'; clear hb2 hb2' hrow HT hq2
      go_wp2_with fail
      refine (HR.out _).mono ?_
      rintro e w3 ⟨rfl, hb3⟩
      have hb3' := HB2.out.trans (hb3.mono HB2.out.size)
      obtain ⟨q2, o2, e2, hq2, hrow⟩ := (H.out.2.1.below hb3').row HX.out.2.2.2.1
      cases e2
      have r0 : w3.cell? ⟨q, o + k * 2, none⟩ = some (.int .i64 cd) := hrow 0 _ rfl
      have HB3 := Lib.hid hb3'; clear hb3 hb3' hrow HR hq2 HB2
      cases hcl : (L.take k).any badF with
      | true =>
        have HS : Hid ((L.take (k + 1)).any badF = true) := Lib.hid (by rw [HX.out.2.2.2.2, hcl]; rfl)
        clear hcl
        go_wp2_with fail
        go_roundg (L.length - k)
        case rel => exact ⟨k + 1, by have := HX.out.2.1; omega, by have := HX.out.2.1; omega, by simp, by rw [HS.out]; rfl, HB3.out⟩
        case measure => have := HX.out.2; omega
      | false =>
        have hcs : cd < 1 ∨ (1 ≤ cd ∧ 6 < cd) ∨ (1 ≤ cd ∧ cd ≤ 6) := by omega
        rcases hcs with hc | hc | hc
        · have d2 : decide (cd < 1) = true := decide_eq_true (by omega)
          have HS : Hid ((L.take (k + 1)).any badF = false) := Lib.hid (by rw [HX.out.2.2.2.2, hcl]; simp [badF]; omega)
          clear hcl hc
          go_wp2_with fail
          go_roundg (L.length - k)
          case rel => exact ⟨k + 1, by have := HX.out.2.1; omega, by have := HX.out.2.1; omega, by simp, by rw [HS.out]; rfl, HB3.out⟩
          case measure => have := HX.out.2; omega
        · have d2 : decide (cd < 1) = false := decide_eq_false (by omega)
          have d3 : decide (6 < cd) = true := decide_eq_true (by omega)
          have HS : Hid ((L.take (k + 1)).any badF = false) := Lib.hid (by rw [HX.out.2.2.2.2, hcl]; simp [badF]; omega)
          clear hcl hc
          go_wp2_with fail
          go_roundg (L.length - k)
          case rel => exact ⟨k + 1, by have := HX.out.2.1; omega, by have := HX.out.2.1; omega, by simp, by rw [HS.out]; rfl, HB3.out⟩
          case measure => have := HX.out.2; omega
        · have d2 : decide (cd < 1) = false := decide_eq_false (by omega)
          have d3 : decide (6 < cd) = false := decide_eq_false (by omega)
          have HS : Hid ((L.take (k + 1)).any badF = true) := Lib.hid (by rw [HX.out.2.2.2.2, hcl]; simp [badF]; omega)
          clear hcl hc
          go_wp2_with fail
          go_roundg (L.length - k)
          case rel => exact ⟨k + 1, by have := HX.out.2.1; omega, by have := HX.out.2.1; omega, by simp, by rw [HS.out]; rfl, HB3.out⟩
          case measure => have := HX.out.2; omega
    · obtain rfl : k = L.length := by omega
      have HC := Lib.hid (clean_any a cap L wr (H.out.2.1.below hb) (by have := H.out.2.2.2; omega))
      have HB := Lib.hid hb; clear hb hkn hk hgg
      rw [List.take_length]
      generalize (!L.any badF) = cl at *
      go_wp2_with fail
      refine HC.out.mono ?_
      rintro e w2 ⟨rfl, hb2⟩
      have HB2 := Lib.hid (HB.out.trans (hb2.mono HB.out.size)); clear hb2 HC
      go_wp2_with fail
      go_ret
      exact ⟨rfl, HB2.out⟩
end Go.Proofs.YteijhcibdglkeaaDoor
