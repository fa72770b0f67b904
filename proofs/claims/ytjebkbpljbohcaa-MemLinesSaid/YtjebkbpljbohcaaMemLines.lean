/- MemLines: for every input that can be read the law answers true, and each argument reads behind the call as it read before. No condition. -/
import Derived.Test.YtjebkbpljbohcaaWk
import Derived.Test.YtjebkbpljbohcaaDat
import Derived.ProofKit
import Derived.OpenShut
import Derived.ShutString
import Derived.ChangeOld
import Derived.Below
namespace Go.Proofs.Ytjebkbpljbohcaa
open Go.ChangeShapes Go.WideShapes Go.ChangeAt Go.RowKit
open Go.ChangeMaps (open_string shut_string)

theorem lines_all (cs : Array Value) (N : Int) (w : World) (hf : Fit (List.replicate 8 (⟨0, .u64⟩ : CK)) cs.toList) :
    Calls Try.prog 6 #[.agg cs, .int .i64 N] w (Agrees w (.bool true)) := by
  obtain ⟨x0, x1, x2, x3, x4, x5, x6, x7, rfl⟩ : ∃ x0 x1 x2 x3 x4 x5 x6 x7 : Int, cs = #[.int .u64 x0, .int .u64 x1, .int .u64 x2, .int .u64 x3, .int .u64 x4, .int .u64 x5, .int .u64 x6, .int .u64 x7] := by
    obtain ⟨l⟩ := cs
    have h1 := hf.1
    have h2 := hf.2
    simp only [List.length_replicate] at h1
    match l, h1 with
    | [c0, c1, c2, c3, c4, c5, c6, c7], _ =>
      obtain ⟨x0, rfl, _⟩ := h2 0 _ _ rfl rfl
      obtain ⟨x1, rfl, _⟩ := h2 1 _ _ rfl rfl
      obtain ⟨x2, rfl, _⟩ := h2 2 _ _ rfl rfl
      obtain ⟨x3, rfl, _⟩ := h2 3 _ _ rfl rfl
      obtain ⟨x4, rfl, _⟩ := h2 4 _ _ rfl rfl
      obtain ⟨x5, rfl, _⟩ := h2 5 _ _ rfl rfl
      obtain ⟨x6, rfl, _⟩ := h2 6 _ _ rfl rfl
      obtain ⟨x7, rfl, _⟩ := h2 7 _ _ rfl rfl
      exact ⟨x0, x1, x2, x3, x4, x5, x6, x7, rfl⟩
  by_cases hN : 0 ≤ N ∧ N < 64
  · obtain ⟨k, rfl⟩ := Int.eq_ofNat_of_zero_le hN.1
    exact lines_yes x0 x1 x2 x3 x4 x5 x6 x7 k w (by omega)
  · exact lines_no x0 x1 x2 x3 x4 x5 x6 x7 N w hN

theorem ownMemLines : ownKnob Try.prog.godebug = none := by kernel_rfl
theorem laidOutMemLines : laidOutB Try.prog = true := by kernel_rfl

set_option maxRecDepth 100000 in
theorem liftedMemLines (os : Os) (started : os.Started) (H : Type) (enc : TypeId × Value → H) :
    ReturnsInHanded {} Try.checked os 6 .any (Rows.memLinesSpec.pre6 enc Try.prog Try.f6 Rows.memLinesRow.domain false) (Rows.memLinesSpec.post enc Try.prog Try.f6 false true false false) := by
  refine returnsInHanded_of_change (C := Try.checked) ownMemLines started (by kernel_rfl) Try.func6
    (ChangeSpec.witness6 (enc := enc) (C := Try.checked) false ⟨#[], #[.agg #[.int .u64 0, .int .u64 0, .int .u64 0, .int .u64 0, .int .u64 0, .int .u64 0, .int .u64 0, .int .u64 0], .int .i64 0], []⟩ 8 (by kernel_rfl) (by kernel_rfl) (by kernel_rfl) (by kernel_rfl)) ?_
  intro W base args ds gs before hval0 hW hcnd _
  have hval : ∀ (j : Nat) t v, Try.f6.params[j]? = some t → args[j]? = some v → Value.okWide Try.prog W .any base t v := hval0
  have hW' := hW
  obtain ⟨p, q, hA0, hV, rfl, hfz, hnd⟩ := hW
  have hA : DataW.TrodAll enc Try.prog W 0 (fun _ => true) true Try.f6.params.toList args.toList ds p := hA0
  rw [Try.params6] at hA hval
  obtain ⟨v0, vs0, d0, ds0, p0, q0, hargs, rfl, rfl, h0, r0⟩ := trodAll_cons hA
  obtain ⟨v1, vs1, d1, ds1, p1, q1, rfl, rfl, rfl, h1, r1⟩ := trodAll_cons r0
  obtain ⟨rfl, rfl, rfl⟩ := trodAll_nil r1
  obtain rfl : args = #[v0, v1] := by cases args; simp_all
  obtain ⟨rfl, rfl⟩ := trodVars_none hV
  have k0 := h0
  have lt0 : ∀ x ∈ p0, x.block < W.heap.size := by obtain ⟨m, hm⟩ := k0; exact DataW.trod_lt m _ _ _ hm
  have k1 := h1
  have lt1 : ∀ x ∈ p1, x.block < W.heap.size := by obtain ⟨m, hm⟩ := k1; exact DataW.trod_lt m _ _ _ hm
  obtain ⟨cs0, rfl, hz0⟩ := okWide_arr Try.underlying34 (hval 0 34 v0 rfl rfl)
  have hf0 : Fit (List.replicate 8 (⟨0, .u64⟩ : CK)) cs0.toList := by
    obtain ⟨fuel, hf⟩ := h0
    exact fit_of_trod 6 _ _ _ _ _ (by kernel_rfl) (by simpa [Value.cells] using hf)
  obtain ⟨a1, rfl, rfl, rfl, w1⟩ := open_int Try.underlying3 (hval 1 3 v1 rfl rfl) h1
  clear hA0 hval0
  refine (lines_all cs0 a1 W hf0).mono fun e W' ⟨he, bel⟩ => ?_
  subst he
  exact ⟨_, rfl, _, _, _, [], _, [], hW', trodAll_mk1 (shut_bool Try.underlying4 _), (trodAll_cons_mk (Below.trod laidOutMemLines (by kernel_rfl) (of_decide_eq_true (by kernel_rfl)) k0 bel lt0) (trodAll_cons_mk (Below.trod laidOutMemLines (by kernel_rfl) (of_decide_eq_true (by kernel_rfl)) k1 bel lt1) trodAll_mk0)), rfl, bel.frame _, fun h => by cases h⟩

theorem memLines_holds : Rows.MemLinesSaid :=
  OpenClaim.holds_of_wide 6 Try.f6 rfl rfl rfl rfl rfl rfl rfl ⟨rfl, rfl, rfl, rfl, rfl⟩ rfl rfl rfl rfl rfl (by kernel_rfl) Try.func6 (by kernel_rfl)
    (of_decide_eq_true (by kernel_rfl)) (by unfold Func.isWrapper; first | (rw [if_pos (by decide +kernel)]; kernel_rfl) | (rw [if_neg (by decide +kernel)]; exact ⟨rfl, rfl⟩))
    (fun os started H enc _ => liftedMemLines os started H enc)

end Go.Proofs.Ytjebkbpljbohcaa
