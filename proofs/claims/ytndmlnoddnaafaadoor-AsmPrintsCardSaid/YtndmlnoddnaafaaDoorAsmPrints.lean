/- AsmPrints: for every input that can be read the law answers true, and each argument reads behind the call as it read before; the listed variables lie as the program lays them (the card ties that). No other condition. -/
import Derived.Test.YtndmlnoddnaafaaDoorAsmZC
import Derived.Test.YtndmlnoddnaafaaDoorAsmN
import Derived.Test.YtndmlnoddnaafaaDoorDat
import Derived.Test.YtndmlnoddnaafaaDoorCards
import Derived.Test.YtndmlnoddnaafaaDoorTie
import Derived.ProofKit
import Derived.OpenShut
import Derived.ShutString
import Derived.ChangeOld
import Derived.Below
import Derived.LaidMore
import Derived.Lay
import Derived.SevenTiedAt
import Derived.Stop.Joined
namespace Go.Proofs.YtndmlnoddnaafaaDoor
open Go.ChangeShapes Go.WideShapes Go.ChangeAt Go.RowKit
open Go.ChangeMaps (open_string shut_string)

theorem ownAsmPrints : ownKnob Tryd.prog.godebug = none := by kernel_rfl
theorem laidOutAsmPrints : laidOutB Tryd.prog = true := by kernel_rfl

abbrev laidFour : List (String × DataW Unit) := [("math/bits.deBruijn32tab", Rows.laid_math_bits_deBruijn32tab), ("math/bits.deBruijn64tab", Rows.laid_math_bits_deBruijn64tab), ("internal/strconv.uint64pow10", Rows.laid_internal_strconv_uint64pow10), ("shunt/isa.forms", Rows.laid_shunt_isa_forms)]
theorem stdp_laid {W : World} (h : laidMet Tryd.prog laidFour W) : StdP W := by
  have h3 : laidMet Tryd.prog (("internal/strconv.uint64pow10", Lib.tabData .u64 Lib.pow10Tab) :: [("shunt/isa.forms", Rows.laid_shunt_isa_forms)]) W := by
    have := laid_tail (laid_tail h)
    rw [pow_data] at this
    exact this
  have ht := Lib.tabIs_of_head (show Tryd.prog.globalNamed "internal/strconv.uint64pow10" = some 2 by kernel_rfl) (show (Tryd.prog.globals[(2 : Nat)]?).map (·.type) = some 132 by kernel_rfl) Tryd.underlying132 Tryd.underlying103 (by kernel_rfl) (by kernel_rfl) h3
  exact ⟨forms_laid (laid_tail h3), Lib.tabBelow_of_tabIs ht⟩

set_option maxRecDepth 100000 in
theorem liftedAsmPrints (os : Os) (started : os.Started) (H : Type) (enc : TypeId × Value → H) :
    ReturnsInHanded {} Tryd.checked os 3 .any (fun w args => (Rows.asmPrintsSpec.pre enc Tryd.prog Tryd.f3 Rows.asmPrintsRow.domain false w args ∧ laidMetH Tryd.prog laidFour w) ∧ sizedMet enc Tryd.prog Tryd.f3 (OpenSpec.ofChange Rows.asmPrintsSpec) false w args)
      (Rows.asmPrintsSpec.post enc Tryd.prog Tryd.f3 false true false false) := by
  refine returnsInHanded_of_change_and (C := Tryd.checked) (X := fun w _ => laidMetH Tryd.prog laidFour w) (fun _ _ _ hh h => h.of_heap hh) ownAsmPrints started (by kernel_rfl) Tryd.func3
    (ChangeSpec.witness_shaped (enc := enc) (C := Tryd.checked) (os := os) (X := fun w _ => laidMetH Tryd.prog laidFour w) false (World.laidAll Tryd.prog os laidFour) #[.slice none 0 0] 8 (World.laidAll_os _ _ _)
      (World.shaped_of_ZipB (by kernel_rfl) (by kernel_rfl)) (by kernel_rfl) (by kernel_rfl) (by kernel_rfl)
      (by rw [MakeChecks.laidMetH_plain _ _ _ (by kernel_rfl)]; exact laidMet_laidAll _ (by kernel_rfl) (by kernel_rfl))) ?_
  intro W base args ds gs before hval0 hW hc hwt hL0 _
  have hval : ∀ (j : Nat) t v, Tryd.f3.params[j]? = some t → args[j]? = some v → Value.okWide Tryd.prog W .any base t v := hval0
  have hW' := hW
  obtain ⟨p, q, hA0, hV, rfl, hfz, hnd⟩ := hW
  have hA : DataW.TrodAll enc Tryd.prog W 0 (fun _ => true) true Tryd.f3.params.toList args.toList ds p := hA0
  rw [Tryd.params3] at hA hval
  obtain ⟨v0, vs0, d0, ds0, p0, q0, hargs, rfl, rfl, h0, r0⟩ := trodAll_cons hA
  obtain ⟨rfl, rfl, rfl⟩ := trodAll_nil r0
  obtain rfl : args = #[v0] := by cases args; simp_all
  obtain ⟨rfl, rfl⟩ := trodVars_none hV
  have k0 := h0
  have lt0 : ∀ x ∈ p0, x.block < W.heap.size := by obtain ⟨m, hm⟩ := k0; exact DataW.trod_lt m _ _ _ hm
  have hL : laidMet Tryd.prog laidFour W := by rw [MakeChecks.laidMetH_plain _ _ _ (by kernel_rfl)] at hL0; exact hL0
  obtain ⟨a0, len0, cap0, rfl⟩ := okWide_slice Tryd.underlying22 (hval 0 22 v0 rfl rfl)
  obtain ⟨_, hp0⟩ : len0 ≤ maxLen ∧ Came W a0 len0 instrKinds5 := by
    obtain ⟨fuel, hf⟩ := h0
    exact open_plain (ks := instrKinds5) (d := 6) Tryd.underlying22 (by kernel_rfl) (by kernel_rfl) hf
  have hn0 : len0 * 40 ≤ 140737488355328 ∧ (a0 = none → len0 = 0 ∧ cap0 = 0) := by
    obtain ⟨fuel, hf⟩ := h0
    have := slice_weight Tryd.underlying22 hf (fun z hz => by
      have := List.all_eq_true.1 hwt z (by rw [show Tryd.f3.params.toList = [22] from by rw [Tryd.params3]]; exact List.mem_append_left _ hz)
      simpa using this)
    rw [show Tryd.prog.bytesOf 44 = 40 from by kernel_rfl] at this
    unfold reachBytes at this
    exact ⟨by omega, this.2⟩
  clear hA0 hval0
  refine (aprints_in a0 len0 cap0 W hp0 hn0.1 hn0.2 (stdp_laid hL)).mono fun e W' ⟨he, bel⟩ => ?_
  subst he
  exact ⟨_, rfl, _, _, _, [], _, [], hW', trodAll_mk1 (shut_bool Tryd.underlying4 _), (trodAll_cons_mk (Below.trod laidOutAsmPrints (by kernel_rfl) (of_decide_eq_true (by kernel_rfl)) k0 bel lt0) trodAll_mk0), rfl, bel.frame _, fun h => by cases h⟩

theorem asmPrints_row : Rows.AsmPrintsSaid :=
  OpenClaim.holds_of_wide 3 Tryd.f3 rfl rfl rfl rfl rfl rfl rfl ⟨rfl, rfl, rfl, rfl, rfl⟩ rfl rfl rfl rfl rfl (by kernel_rfl) Tryd.func3 (by kernel_rfl)
    (of_decide_eq_true (by kernel_rfl)) (by unfold Func.isWrapper; first | (rw [if_pos (by decide +kernel)]; kernel_rfl) | (rw [if_neg (by decide +kernel)]; exact ⟨rfl, rfl⟩))
    (fun os started H enc _ => liftedAsmPrints os started H enc)

theorem asmPrints_holds : Rows.AsmPrintsCardSaid :=
  Claim7.holds_tied_plain_at .later [] [.data, .data, .data, .data] true (true, "f812b018a7fc8db300404e901cf37ce6931302c3c8e4ab2e45bc84f8256f7c5b") true asmPrints_row (fun _ h => by cases h) (by kernel_rfl) (fun _ h => by cases h) asmPrints_row_tie rfl ⟨rfl, rfl⟩ (by kernel_rfl) rfl
    (fun f fn hf hfn => by
      obtain rfl : f = 3 := Option.some.inj ((show Tryd.prog.funcNamed "shunt/shuntlaw15.AsmPrints" = some 3 by kernel_rfl).symm.trans hf) |>.symm
      obtain rfl : fn = Tryd.f3 := (Option.some.inj (Tryd.func3.symm.trans hfn)).symm
      exact ⟨by kernel_rfl, fun j t ht => by
        rw [Tryd.params3] at ht
        match j with
        | 0 => simp at ht; subst ht; exact (show Tryd.prog.wantsStandIn 22 = false by kernel_rfl)
        | j + 1 => simp at ht⟩)
    (by kernel_rfl)

end Go.Proofs.YtndmlnoddnaafaaDoor
