/- HistParts: for every input that can be read the law answers true, and each argument reads behind the call as it read before. No condition. -/
import Derived.Test.YtgjbhcnadenojaaParD
import Derived.Test.YtgjbhcnadenojaaHisIn
import Derived.Test.YtgjbhcnadenojaaDat
import Derived.ProofKit
import Derived.OpenShut
import Derived.ShutString
import Derived.ChangeOld
import Derived.Below
namespace Go.Proofs.Ytgjbhcnadenojaa
open Go.ChangeShapes Go.WideShapes Go.ChangeAt Go.RowKit
open Go.ChangeMaps (open_string shut_string)

theorem ownHistParts : ownKnob Try.prog.godebug = none := by kernel_rfl
theorem laidOutHistParts : laidOutB Try.prog = true := by kernel_rfl

set_option maxRecDepth 100000 in
theorem liftedHistParts (os : Os) (started : os.Started) (H : Type) (enc : TypeId × Value → H) :
    ReturnsInHanded {} Try.checked os 7 .any (Rows.histPartsSpec.pre6 enc Try.prog Try.f7 Rows.histPartsRow.domain false) (Rows.histPartsSpec.post enc Try.prog Try.f7 false true false false) := by
  refine returnsInHanded_of_change (C := Try.checked) ownHistParts started (by kernel_rfl) Try.func7
    (ChangeSpec.witness6 (enc := enc) (C := Try.checked) false ⟨#[], #[.slice none 0 0, .slice none 0 0, .slice none 0 0], []⟩ 8 (by kernel_rfl) (by kernel_rfl) (by kernel_rfl) (by kernel_rfl)) ?_
  intro W base args ds gs before hval0 hW hcnd _
  have hval : ∀ (j : Nat) t v, Try.f7.params[j]? = some t → args[j]? = some v → Value.okWide Try.prog W .any base t v := hval0
  have hW' := hW
  obtain ⟨p, q, hA0, hV, rfl, hfz, hnd⟩ := hW
  have hA : DataW.TrodAll enc Try.prog W 0 (fun _ => true) true Try.f7.params.toList args.toList ds p := hA0
  rw [Try.params7] at hA hval
  obtain ⟨v0, vs0, d0, ds0, p0, q0, hargs, rfl, rfl, h0, r0⟩ := trodAll_cons hA
  obtain ⟨v1, vs1, d1, ds1, p1, q1, rfl, rfl, rfl, h1, r1⟩ := trodAll_cons r0
  obtain ⟨v2, vs2, d2, ds2, p2, q2, rfl, rfl, rfl, h2, r2⟩ := trodAll_cons r1
  obtain ⟨rfl, rfl, rfl⟩ := trodAll_nil r2
  obtain rfl : args = #[v0, v1, v2] := by cases args; simp_all
  obtain ⟨rfl, rfl⟩ := trodVars_none hV
  have k0 := h0
  have lt0 : ∀ x ∈ p0, x.block < W.heap.size := by obtain ⟨m, hm⟩ := k0; exact DataW.trod_lt m _ _ _ hm
  have k1 := h1
  have lt1 : ∀ x ∈ p1, x.block < W.heap.size := by obtain ⟨m, hm⟩ := k1; exact DataW.trod_lt m _ _ _ hm
  have k2 := h2
  have lt2 : ∀ x ∈ p2, x.block < W.heap.size := by obtain ⟨m, hm⟩ := k2; exact DataW.trod_lt m _ _ _ hm
  obtain ⟨a0, len0, cap0, rfl⟩ := okWide_slice Try.underlying22 (hval 0 22 v0 rfl rfl)
  obtain ⟨_, hp0⟩ : len0 ≤ maxLen ∧ Came W a0 len0 evKinds := by
    obtain ⟨fuel, hf⟩ := h0
    exact open_plain (ks := evKinds) (d := 6) Try.underlying22 (by kernel_rfl) (by kernel_rfl) hf
  have hn0 : a0 = none → cap0 = 0 := by
    obtain ⟨fuel, hf⟩ := h0
    exact nil_or Try.underlying22 hf
  obtain ⟨A, hl0, hr0, hf0⟩ := evs_in hp0
  obtain ⟨a1, len1, cap1, rfl⟩ := okWide_slice Try.underlying22 (hval 1 22 v1 rfl rfl)
  obtain ⟨_, hp1⟩ : len1 ≤ maxLen ∧ Came W a1 len1 evKinds := by
    obtain ⟨fuel, hf⟩ := h1
    exact open_plain (ks := evKinds) (d := 6) Try.underlying22 (by kernel_rfl) (by kernel_rfl) hf
  have hn1 : a1 = none → cap1 = 0 := by
    obtain ⟨fuel, hf⟩ := h1
    exact nil_or Try.underlying22 hf
  obtain ⟨B, hl1, hr1, hf1⟩ := evs_in hp1
  obtain ⟨a2, len2, cap2, rfl⟩ := okWide_slice Try.underlying51 (hval 2 51 v2 rfl rfl)
  obtain ⟨_, hp2⟩ : len2 ≤ maxLen ∧ Came W a2 len2 uKinds := by
    obtain ⟨fuel, hf⟩ := h2
    exact open_plain (ks := uKinds) (d := 6) Try.underlying51 (by kernel_rfl) (by kernel_rfl) hf
  have hn2 : a2 = none → cap2 = 0 := by
    obtain ⟨fuel, hf⟩ := h2
    exact nil_or Try.underlying51 hf
  obtain ⟨F, hl2, hr2, hf2⟩ := us_in hp2
  subst hl0 hl1 hl2
  clear hA0 hval0
  refine (parts_any W ⟨hr0, hr1, hr2⟩ hn0 hn1 hf0 hf1 hf2).mono fun e W' ⟨he, bel⟩ => ?_
  subst he
  exact ⟨_, rfl, _, _, _, [], _, [], hW', trodAll_mk1 (shut_bool Try.underlying4 _), (trodAll_cons_mk (Below.trod laidOutHistParts (by kernel_rfl) (of_decide_eq_true (by kernel_rfl)) k0 bel lt0) (trodAll_cons_mk (Below.trod laidOutHistParts (by kernel_rfl) (of_decide_eq_true (by kernel_rfl)) k1 bel lt1) (trodAll_cons_mk (Below.trod laidOutHistParts (by kernel_rfl) (of_decide_eq_true (by kernel_rfl)) k2 bel lt2) trodAll_mk0))), rfl, bel.frame _, fun h => by cases h⟩

theorem histParts_holds : Rows.HistPartsSaid :=
  OpenClaim.holds_of_wide 7 Try.f7 rfl rfl rfl rfl rfl rfl rfl ⟨rfl, rfl, rfl, rfl, rfl⟩ rfl rfl rfl rfl rfl (by kernel_rfl) Try.func7 (by kernel_rfl)
    (of_decide_eq_true (by kernel_rfl)) (by unfold Func.isWrapper; first | (rw [if_pos (by decide +kernel)]; kernel_rfl) | (rw [if_neg (by decide +kernel)]; exact ⟨rfl, rfl⟩))
    (fun os started H enc _ => liftedHistParts os started H enc)

end Go.Proofs.Ytgjbhcnadenojaa
