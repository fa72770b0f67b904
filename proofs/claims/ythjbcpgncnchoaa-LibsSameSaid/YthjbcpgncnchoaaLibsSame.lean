/- LibsSame: for every input that can be read the law answers true, and each argument reads behind the call as it read before. No condition. -/
import Derived.Test.YthjbcpgncnchoaaLbX
import Derived.Test.YthjbcpgncnchoaaDat
import Derived.ProofKit
import Derived.OpenShut
import Derived.ShutString
import Derived.ChangeOld
import Derived.Below
namespace Go.Proofs.Ythjbcpgncnchoaa
open Go.ChangeShapes Go.WideShapes Go.ChangeAt Go.RowKit
open Go.ChangeMaps (open_string shut_string)

theorem place_in {cs : Array Value} (h : Fit [(⟨0, .i64⟩ : CK), ⟨0, .i64⟩, ⟨0, .i64⟩, ⟨0, .i64⟩] cs.toList) : ∃ x : Pc, cs = x.cells.toArray ∧ x.Ok ∧ I64 x.kind := by
  obtain ⟨l⟩ := cs
  have h1 := h.1
  have h2 := h.2
  match l, h1 with
  | [c0, c1, c2, c3], _ =>
    obtain ⟨x0, rfl, w0⟩ := h2 0 _ _ rfl rfl
    obtain ⟨x1, rfl, w1⟩ := h2 1 _ _ rfl rfl
    obtain ⟨x2, rfl, w2⟩ := h2 2 _ _ rfl rfl
    obtain ⟨x3, rfl, w3⟩ := h2 3 _ _ rfl rfl
    have g : ∀ z, (Lit.int .i64 z).wf = true → I64 z := fun z h => by simp [Lit.wf, IntKind.min, IntKind.max, IntKind.signed, IntKind.bits] at h; unfold I64; omega
    exact ⟨⟨x0, x1, x2, x3⟩, rfl, ⟨g _ w1, g _ w3⟩, g _ w0⟩
theorem call_in {cs : Array Value} (h : Fit [(⟨0, .i64⟩ : CK), ⟨0, .u64⟩, ⟨0, .u64⟩] cs.toList) : ∃ x : Cc, cs = x.cells.toArray ∧ x.Ok := by
  obtain ⟨l⟩ := cs
  have h1 := h.1
  have h2 := h.2
  match l, h1 with
  | [c0, c1, c2], _ =>
    obtain ⟨x0, rfl, w0⟩ := h2 0 _ _ rfl rfl
    obtain ⟨x1, rfl, w1⟩ := h2 1 _ _ rfl rfl
    obtain ⟨x2, rfl, w2⟩ := h2 2 _ _ rfl rfl
    have g : ∀ z, (Lit.int .u64 z).wf = true → 0 ≤ z ∧ z < 18446744073709551616 := fun z h => by simp [Lit.wf, IntKind.min, IntKind.max, IntKind.signed, IntKind.bits] at h; omega
    exact ⟨⟨x0, x1, x2⟩, rfl, g _ w1, g _ w2⟩

theorem ownLibsSame : ownKnob Try.prog.godebug = none := by kernel_rfl
theorem laidOutLibsSame : laidOutB Try.prog = true := by kernel_rfl

set_option maxRecDepth 100000 in
theorem liftedLibsSame (os : Os) (started : os.Started) (H : Type) (enc : TypeId × Value → H) :
    ReturnsInHanded {} Try.checked os 8 .any (Rows.libsSameSpec.pre6 enc Try.prog Try.f8 Rows.libsSameRow.domain false) (Rows.libsSameSpec.post enc Try.prog Try.f8 false true false false) := by
  refine returnsInHanded_of_change (C := Try.checked) ownLibsSame started (by kernel_rfl) Try.func8
    (ChangeSpec.witness6 (enc := enc) (C := Try.checked) false ⟨#[], #[.agg #[.int .i64 0, .int .i64 0, .int .i64 0, .int .i64 0], .agg #[.int .i64 0, .int .u64 0, .int .u64 0]], []⟩ 8 (by kernel_rfl) (by kernel_rfl) (by kernel_rfl) (by kernel_rfl)) ?_
  intro W base args ds gs before hval0 hW hcnd _
  have hval : ∀ (j : Nat) t v, Try.f8.params[j]? = some t → args[j]? = some v → Value.okWide Try.prog W .any base t v := hval0
  have hW' := hW
  obtain ⟨p, q, hA0, hV, rfl, hfz, hnd⟩ := hW
  have hA : DataW.TrodAll enc Try.prog W 0 (fun _ => true) true Try.f8.params.toList args.toList ds p := hA0
  rw [Try.params8] at hA hval
  obtain ⟨v0, vs0, d0, ds0, p0, q0, hargs, rfl, rfl, h0, r0⟩ := trodAll_cons hA
  obtain ⟨v1, vs1, d1, ds1, p1, q1, rfl, rfl, rfl, h1, r1⟩ := trodAll_cons r0
  obtain ⟨rfl, rfl, rfl⟩ := trodAll_nil r1
  obtain rfl : args = #[v0, v1] := by cases args; simp_all
  obtain ⟨rfl, rfl⟩ := trodVars_none hV
  have k0 := h0
  have lt0 : ∀ x ∈ p0, x.block < W.heap.size := by obtain ⟨m, hm⟩ := k0; exact DataW.trod_lt m _ _ _ hm
  have k1 := h1
  have lt1 : ∀ x ∈ p1, x.block < W.heap.size := by obtain ⟨m, hm⟩ := k1; exact DataW.trod_lt m _ _ _ hm
  obtain ⟨cs0, rfl, hz0⟩ := okWide_struct Try.underlying23 (hval 0 23 v0 rfl rfl)
  obtain ⟨x0, rfl, ok0, kk0⟩ := place_in (cs := cs0) (by
    obtain ⟨fuel, hf⟩ := h0
    exact fit_of_trod 6 _ _ _ _ _ (by kernel_rfl) (by simpa [Value.cells] using hf))
  obtain ⟨cs1, rfl, hz1⟩ := okWide_struct Try.underlying26 (hval 1 26 v1 rfl rfl)
  obtain ⟨c1, rfl, ok1⟩ := call_in (cs := cs1) (by
    obtain ⟨fuel, hf⟩ := h1
    exact fit_of_trod 6 _ _ _ _ _ (by kernel_rfl) (by simpa [Value.cells] using hf))
  clear hA0 hval0
  refine (lsame_any x0 c1 ok0 kk0 ok1 W).mono fun e W' ⟨he, bel⟩ => ?_
  subst he
  exact ⟨_, rfl, _, _, _, [], _, [], hW', trodAll_mk1 (shut_bool Try.underlying4 _), (trodAll_cons_mk (Below.trod laidOutLibsSame (by kernel_rfl) (of_decide_eq_true (by kernel_rfl)) k0 bel lt0) (trodAll_cons_mk (Below.trod laidOutLibsSame (by kernel_rfl) (of_decide_eq_true (by kernel_rfl)) k1 bel lt1) trodAll_mk0)), rfl, bel.frame _, fun h => by cases h⟩

theorem libsSame_holds : Rows.LibsSameSaid :=
  OpenClaim.holds_of_wide 8 Try.f8 rfl rfl rfl rfl rfl rfl rfl ⟨rfl, rfl, rfl, rfl, rfl⟩ rfl rfl rfl rfl rfl (by kernel_rfl) Try.func8 (by kernel_rfl)
    (of_decide_eq_true (by kernel_rfl)) (by unfold Func.isWrapper; first | (rw [if_pos (by decide +kernel)]; kernel_rfl) | (rw [if_neg (by decide +kernel)]; exact ⟨rfl, rfl⟩))
    (fun os started H enc _ => liftedLibsSame os started H enc)

end Go.Proofs.Ythjbcpgncnchoaa
