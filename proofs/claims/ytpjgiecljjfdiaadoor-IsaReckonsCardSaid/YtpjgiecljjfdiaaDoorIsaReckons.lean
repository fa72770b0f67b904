/- IsaReckons: for every input that can be read the law answers true, and each argument reads behind the call as it read before; the listed variables lie as the program lays them (the card ties that). No other condition. -/
import Derived.Test.YtpjgiecljjfdiaaDoorRecW
import Derived.Test.YtpjgiecljjfdiaaDoorIsaL
import Derived.Test.YtpjgiecljjfdiaaDoorDat
import Derived.Test.YtpjgiecljjfdiaaDoorCards
import Derived.Test.YtpjgiecljjfdiaaDoorTie
import Derived.ProofKit
import Derived.OpenShut
import Derived.ShutString
import Derived.ChangeOld
import Derived.Below
import Derived.LaidMore
import Derived.Lay
import Derived.SevenTiedAt
import Derived.Stop.Joined
namespace Go.Proofs.YtpjgiecljjfdiaaDoor
open Go.ChangeShapes Go.WideShapes Go.ChangeAt Go.RowKit
open Go.ChangeMaps (open_string shut_string)

theorem ownIsaReckons : ownKnob Tryd.prog.godebug = none := by kernel_rfl
theorem laidOutIsaReckons : laidOutB Tryd.prog = true := by kernel_rfl
theorem u64_in {v : Value} (h : Fit [(⟨0, .u64⟩ : CK)] [v]) : ∃ n : Int, v = .int .u64 n ∧ U64 n := by
  obtain ⟨x0, rfl, w0⟩ := h.2 0 _ _ rfl rfl
  exact ⟨x0, rfl, by simp [Lit.wf, IntKind.min, IntKind.max, IntKind.signed, IntKind.bits] at w0; unfold U64; omega⟩

set_option maxRecDepth 100000 in
theorem liftedIsaReckons (os : Os) (started : os.Started) (H : Type) (enc : TypeId × Value → H) :
    ReturnsInHanded {} Tryd.checked os 9 .any (fun w args => (Rows.isaReckonsSpec.pre enc Tryd.prog Tryd.f9 Rows.isaReckonsRow.domain false w args ∧ laidMetH Tryd.prog laidSix w) ∧ sizedMet enc Tryd.prog Tryd.f9 (OpenSpec.ofChange Rows.isaReckonsSpec) false w args)
      (Rows.isaReckonsSpec.post enc Tryd.prog Tryd.f9 false true false false) := by
  refine returnsInHanded_of_change_and (C := Tryd.checked) (X := fun w _ => laidMetH Tryd.prog laidSix w) (fun _ _ _ hh h => h.of_heap hh) ownIsaReckons started (by kernel_rfl) Tryd.func9
    (ChangeSpec.witness_shaped (enc := enc) (C := Tryd.checked) (os := os) (X := fun w _ => laidMetH Tryd.prog laidSix w) false (World.laidAll Tryd.prog os laidSix) #[.int .u64 0, .int .u64 0, .int .u64 0] 8 (World.laidAll_os _ _ _)
      (World.shaped_of_ZipB (by kernel_rfl) (by kernel_rfl)) (by kernel_rfl) (by kernel_rfl) (by kernel_rfl)
      (by rw [MakeChecks.laidMetH_plain _ _ _ (by kernel_rfl)]; exact laidMet_laidAll _ (by kernel_rfl) (by kernel_rfl))) ?_
  intro W base args ds gs before hval0 hW hc _ hL0 _
  have hval : ∀ (j : Nat) t v, Tryd.f9.params[j]? = some t → args[j]? = some v → Value.okWide Tryd.prog W .any base t v := hval0
  have hW' := hW
  obtain ⟨p, q, hA0, hV, rfl, hfz, hnd⟩ := hW
  have hA : DataW.TrodAll enc Tryd.prog W 0 (fun _ => true) true Tryd.f9.params.toList args.toList ds p := hA0
  rw [Tryd.params9] at hA hval
  obtain ⟨v0, vs0, d0, ds0, p0, q0, hargs, rfl, rfl, h0, r0⟩ := trodAll_cons hA
  obtain ⟨v1, vs1, d1, ds1, p1, q1, rfl, rfl, rfl, h1, r1⟩ := trodAll_cons r0
  obtain ⟨v2, vs2, d2, ds2, p2, q2, rfl, rfl, rfl, h2, r2⟩ := trodAll_cons r1
  obtain ⟨rfl, rfl, rfl⟩ := trodAll_nil r2
  obtain rfl : args = #[v0, v1, v2] := by cases args; simp_all
  obtain ⟨rfl, rfl⟩ := trodVars_none hV
  have k0 := h0
  have lt0 : ∀ x ∈ p0, x.block < W.heap.size := by obtain ⟨m, hm⟩ := k0; exact DataW.trod_lt m _ _ _ hm
  have k1 := h1
  have lt1 : ∀ x ∈ p1, x.block < W.heap.size := by obtain ⟨m, hm⟩ := k1; exact DataW.trod_lt m _ _ _ hm
  have k2 := h2
  have lt2 : ∀ x ∈ p2, x.block < W.heap.size := by obtain ⟨m, hm⟩ := k2; exact DataW.trod_lt m _ _ _ hm
  have hL : laidMet Tryd.prog laidSix W := by rw [MakeChecks.laidMetH_plain _ _ _ (by kernel_rfl)] at hL0; exact hL0
  obtain ⟨m0, rfl⟩ := okWide_int Tryd.underlying24 (hval 0 24 v0 rfl rfl)
  have ok0 : U64 m0 := by
    obtain ⟨fuel, hf⟩ := h0
    obtain ⟨n, e, hn⟩ := u64_in (v := .int .u64 m0) (fit_of_trod 6 _ _ _ _ _ (by kernel_rfl) (by simpa [Value.cells] using hf))
    cases e
    exact hn
  obtain ⟨m1, rfl⟩ := okWide_int Tryd.underlying24 (hval 1 24 v1 rfl rfl)
  have ok1 : U64 m1 := by
    obtain ⟨fuel, hf⟩ := h1
    obtain ⟨n, e, hn⟩ := u64_in (v := .int .u64 m1) (fit_of_trod 6 _ _ _ _ _ (by kernel_rfl) (by simpa [Value.cells] using hf))
    cases e
    exact hn
  obtain ⟨m2, rfl⟩ := okWide_int Tryd.underlying24 (hval 2 24 v2 rfl rfl)
  have ok2 : U64 m2 := by
    obtain ⟨fuel, hf⟩ := h2
    obtain ⟨n, e, hn⟩ := u64_in (v := .int .u64 m2) (fit_of_trod 6 _ _ _ _ _ (by kernel_rfl) (by simpa [Value.cells] using hf))
    cases e
    exact hn
  clear hA0 hval0
  refine (reckons_any m0 m1 m2 ok0 ok1 ok2 W (std_laid hL)).mono fun e W' ⟨he, bel⟩ => ?_
  subst he
  exact ⟨_, rfl, _, _, _, [], _, [], hW', trodAll_mk1 (shut_bool Tryd.underlying4 _), (trodAll_cons_mk (Below.trod laidOutIsaReckons (by kernel_rfl) (of_decide_eq_true (by kernel_rfl)) k0 bel lt0) (trodAll_cons_mk (Below.trod laidOutIsaReckons (by kernel_rfl) (of_decide_eq_true (by kernel_rfl)) k1 bel lt1) (trodAll_cons_mk (Below.trod laidOutIsaReckons (by kernel_rfl) (of_decide_eq_true (by kernel_rfl)) k2 bel lt2) trodAll_mk0))), rfl, bel.frame _, fun h => by cases h⟩

theorem isaReckons_row : Rows.IsaReckonsSaid :=
  OpenClaim.holds_of_wide 9 Tryd.f9 rfl rfl rfl rfl rfl rfl rfl ⟨rfl, rfl, rfl, rfl, rfl⟩ rfl rfl rfl rfl rfl (by kernel_rfl) Tryd.func9 (by kernel_rfl)
    (of_decide_eq_true (by kernel_rfl)) (by unfold Func.isWrapper; first | (rw [if_pos (by decide +kernel)]; kernel_rfl) | (rw [if_neg (by decide +kernel)]; exact ⟨rfl, rfl⟩))
    (fun os started H enc _ => liftedIsaReckons os started H enc)

theorem isaReckons_holds : Rows.IsaReckonsCardSaid :=
  Claim7.holds_tied_plain_at .later [] [.data, .data, .data, .sentinel, .sentinel, .data] true (true, "44a917710c274f4bde8449195728084a98efcaf63dd335f741fb69feb78c2535") true isaReckons_row (fun _ h => by cases h) (by kernel_rfl) (fun _ h => by cases h) isaReckons_row_tie rfl ⟨rfl, rfl⟩ (by kernel_rfl) rfl
    (fun f fn hf hfn => by
      obtain rfl : f = 9 := Option.some.inj ((show Tryd.prog.funcNamed "shunt/shuntlaw10.IsaReckons" = some 9 by kernel_rfl).symm.trans hf) |>.symm
      obtain rfl : fn = Tryd.f9 := (Option.some.inj (Tryd.func9.symm.trans hfn)).symm
      exact ⟨by kernel_rfl, fun j t ht => by
        rw [Tryd.params9] at ht
        match j with
        | 0 => simp at ht; subst ht; exact (show Tryd.prog.wantsStandIn 24 = false by kernel_rfl)
        | 1 => simp at ht; subst ht; exact (show Tryd.prog.wantsStandIn 24 = false by kernel_rfl)
        | 2 => simp at ht; subst ht; exact (show Tryd.prog.wantsStandIn 24 = false by kernel_rfl)
        | j + 3 => simp at ht⟩)
    (by kernel_rfl)

end Go.Proofs.YtpjgiecljjfdiaaDoor
