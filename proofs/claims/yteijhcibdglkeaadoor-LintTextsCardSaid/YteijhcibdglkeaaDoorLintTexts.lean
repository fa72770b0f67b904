/- LintTexts: for every input that can be read the law answers true, and each argument reads behind the call as it read before; the listed variables lie as the program lays them (the card ties that). No other condition. -/
import Derived.Test.YteijhcibdglkeaaDoorLntW
import Derived.Test.YteijhcibdglkeaaDoorLntO
import Derived.Test.YteijhcibdglkeaaDoorDat
import Derived.Test.YteijhcibdglkeaaDoorCards
import Derived.Test.YteijhcibdglkeaaDoorTie
import Derived.ProofKit
import Derived.OpenShut
import Derived.ShutString
import Derived.ChangeOld
import Derived.Below
import Derived.LaidMore
import Derived.Lay
import Derived.SevenTiedAt
import Derived.Stop.Joined
namespace Go.Proofs.YteijhcibdglkeaaDoor
open Go.ChangeShapes Go.WideShapes Go.ChangeAt Go.RowKit
open Go.ChangeMaps (open_string shut_string)

theorem ownLintTexts : ownKnob Tryd.prog.godebug = none := by kernel_rfl
theorem laidOutLintTexts : laidOutB Tryd.prog = true := by kernel_rfl

set_option maxRecDepth 100000 in
theorem liftedLintTexts (os : Os) (started : os.Started) (H : Type) (enc : TypeId × Value → H) :
    ReturnsInHanded {} Tryd.checked os 4 .any (fun w args => (Rows.lintTextsSpec.pre enc Tryd.prog Tryd.f4 Rows.lintTextsRow.domain false w args ∧ laidMetH Tryd.prog laidFour w) ∧ sizedMet enc Tryd.prog Tryd.f4 (OpenSpec.ofChange Rows.lintTextsSpec) false w args)
      (Rows.lintTextsSpec.post enc Tryd.prog Tryd.f4 false true false false) := by
  refine returnsInHanded_of_change_and (C := Tryd.checked) (X := fun w _ => laidMetH Tryd.prog laidFour w) (fun _ _ _ hh h => h.of_heap hh) ownLintTexts started (by kernel_rfl) Tryd.func4
    (ChangeSpec.witness_shaped (enc := enc) (C := Tryd.checked) (os := os) (X := fun w _ => laidMetH Tryd.prog laidFour w) false (World.laidAll Tryd.prog os laidFour) #[.slice none 0 0] 8 (World.laidAll_os _ _ _)
      (World.shaped_of_ZipB (by kernel_rfl) (by kernel_rfl)) (by kernel_rfl) (by kernel_rfl) (by kernel_rfl)
      (by rw [MakeChecks.laidMetH_plain _ _ _ (by kernel_rfl)]; exact laidMet_laidAll _ (by kernel_rfl) (by kernel_rfl))) ?_
  intro W base args ds gs before hval0 hW hc _ hL0 _
  have hval : ∀ (j : Nat) t v, Tryd.f4.params[j]? = some t → args[j]? = some v → Value.okWide Tryd.prog W .any base t v := hval0
  have hW' := hW
  obtain ⟨p, q, hA0, hV, rfl, hfz, hnd⟩ := hW
  have hA : DataW.TrodAll enc Tryd.prog W 0 (fun _ => true) true Tryd.f4.params.toList args.toList ds p := hA0
  rw [Tryd.params4] at hA hval
  obtain ⟨v0, vs0, d0, ds0, p0, q0, hargs, rfl, rfl, h0, r0⟩ := trodAll_cons hA
  obtain ⟨rfl, rfl, rfl⟩ := trodAll_nil r0
  obtain rfl : args = #[v0] := by cases args; simp_all
  obtain ⟨rfl, rfl⟩ := trodVars_none hV
  have k0 := h0
  have lt0 : ∀ x ∈ p0, x.block < W.heap.size := by obtain ⟨m, hm⟩ := k0; exact DataW.trod_lt m _ _ _ hm
  have hL : laidMet Tryd.prog laidFour W := by rw [MakeChecks.laidMetH_plain _ _ _ (by kernel_rfl)] at hL0; exact hL0
  obtain ⟨a0, len0, cap0, rfl⟩ := okWide_slice Tryd.underlying25 (hval 0 25 v0 rfl rfl)
  obtain ⟨_, hp0⟩ : len0 ≤ maxLen ∧ Came W a0 len0 foundKinds := by
    obtain ⟨fuel, hf⟩ := h0
    exact open_plain (ks := foundKinds) (d := 6) Tryd.underlying25 (by kernel_rfl) (by kernel_rfl) hf
  obtain ⟨l0, rfl, hr0, hok0⟩ := rows_in (Pr := fun x : Int × Int => I64 x.1 ∧ I64 x.2) hp0 (by simp [foundKinds]) found_mk
  clear hA0 hval0
  refine (texts_any a0 cap0 l0 hok0 W (stdl_laid hL) hr0).mono fun e W' ⟨he, bel⟩ => ?_
  subst he
  exact ⟨_, rfl, _, _, _, [], _, [], hW', trodAll_mk1 (shut_bool Tryd.underlying4 _), (trodAll_cons_mk (Below.trod laidOutLintTexts (by kernel_rfl) (of_decide_eq_true (by kernel_rfl)) k0 bel lt0) trodAll_mk0), rfl, bel.frame _, fun h => by cases h⟩

theorem lintTexts_row : Rows.LintTextsSaid :=
  OpenClaim.holds_of_wide 4 Tryd.f4 rfl rfl rfl rfl rfl rfl rfl ⟨rfl, rfl, rfl, rfl, rfl⟩ rfl rfl rfl rfl rfl (by kernel_rfl) Tryd.func4 (by kernel_rfl)
    (of_decide_eq_true (by kernel_rfl)) (by unfold Func.isWrapper; first | (rw [if_pos (by decide +kernel)]; kernel_rfl) | (rw [if_neg (by decide +kernel)]; exact ⟨rfl, rfl⟩))
    (fun os started H enc _ => liftedLintTexts os started H enc)

theorem lintTexts_holds : Rows.LintTextsCardSaid :=
  Claim7.holds_tied_plain_at .later [] [.data, .data, .data, .data] true (true, "ba9743bbb6532b6fa7c4a4a845a1ee8dc89f2f66db047eed418d2c41a23427ba") false lintTexts_row (fun _ h => by cases h) (by kernel_rfl) (fun _ h => by cases h) lintTexts_row_tie rfl ⟨rfl, rfl⟩ (by kernel_rfl) rfl
    (fun f fn hf hfn => by
      obtain rfl : f = 4 := Option.some.inj ((show Tryd.prog.funcNamed "shunt/shuntlaw17.LintTexts" = some 4 by kernel_rfl).symm.trans hf) |>.symm
      obtain rfl : fn = Tryd.f4 := (Option.some.inj (Tryd.func4.symm.trans hfn)).symm
      exact ⟨by kernel_rfl, fun j t ht => by
        rw [Tryd.params4] at ht
        match j with
        | 0 => simp at ht; subst ht; exact (show Tryd.prog.wantsStandIn 25 = false by kernel_rfl)
        | j + 1 => simp at ht⟩)
    (by kernel_rfl)

end Go.Proofs.YteijhcibdglkeaaDoor
