/- CoreMade: for every input that can be read the law answers true, and each argument reads behind the call as it read before. No condition. -/
import Derived.Test.YtpgfcjfmhgifiaaMdG
import Derived.Test.YtpgfcjfmhgifiaaDat
import Derived.ProofKit
import Derived.SizedLaws
import Derived.Deep.Slices
import Derived.OpenShut
import Derived.ShutString
import Derived.ChangeOld
import Derived.Below
namespace Go.Proofs.Ytpgfcjfmhgifiaa
open Go.ChangeShapes Go.WideShapes Go.ChangeAt Go.RowKit Go.Deep
open Go.ChangeMaps (open_string shut_string)

/-- A slice that came in takes no more than what any argument takes. -/
theorem slice_weight {H : Type} {enc : TypeId × Value → H} {P : Program} {w : World} {base : Nat} {spare held : _} {t e : TypeId} {fuel : Nat} {a : Option Addr} {len cap : Nat} {x : DataW H × List MemPlace} (ht : P.underlying t = some (.slice e))
    (h : DataW.trod enc P w base spare held fuel t [.slice a len cap] = some x) (hw : ∀ z ∈ x.1.weights P t, z ≤ reachBytes) : len * P.bytesOf e ≤ reachBytes ∧ (a = none → len = 0 ∧ cap = 0) := by
  rcases open_slice ht h with ⟨h0, _⟩ | ⟨b, l, c, m, n, D, Pl, hcs, _, hl, _, hm, hx, _⟩
  · simp only [List.cons.injEq, Value.slice.injEq, and_true] at h0
    obtain ⟨rfl, rfl, rfl⟩ := h0
    exact ⟨by omega, fun _ => ⟨rfl, rfl⟩⟩
  · simp only [List.cons.injEq, Value.slice.injEq, and_true] at hcs
    obtain ⟨rfl, rfl, rfl⟩ := hcs
    subst hx
    have := hw ((len + (m - len)) * P.bytesOf e) (by simp [DataW.weights, ht])
    have hle : len * P.bytesOf e ≤ (len + (m - len)) * P.bytesOf e := Nat.mul_le_mul_right _ (by omega)
    exact ⟨by omega, fun e => by cases e⟩
theorem made_in {cs : Array Value} (h : Fit [(⟨0, .i64⟩ : CK), ⟨0, .i64⟩, ⟨0, .i64⟩, ⟨0, .i64⟩] cs.toList) : ∃ x0 x1 x2 x3 : Int, cs = #[.int .i64 x0, .int .i64 x1, .int .i64 x2, .int .i64 x3] := by
  obtain ⟨l⟩ := cs
  have h1 := h.1
  have h2 := h.2
  match l, h1 with
  | [c0, c1, c2, c3], _ =>
    obtain ⟨x0, rfl, w0⟩ := h2 0 _ _ rfl rfl
    obtain ⟨x1, rfl, w1⟩ := h2 1 _ _ rfl rfl
    obtain ⟨x2, rfl, w2⟩ := h2 2 _ _ rfl rfl
    obtain ⟨x3, rfl, w3⟩ := h2 3 _ _ rfl rfl
    exact ⟨x0, x1, x2, x3, rfl⟩
theorem ownCoreMade : ownKnob Try.prog.godebug = none := by kernel_rfl
theorem laidOutCoreMade : laidOutB Try.prog = true := by kernel_rfl

set_option maxRecDepth 100000 in
theorem liftedCoreMade (os : Os) (started : os.Started) (H : Type) (enc : TypeId × Value → H) :
    ReturnsInHanded {} Try.checked os 3 .any (Rows.coreMadeSpec.pre6 enc Try.prog Try.f3 Rows.coreMadeRow.domain false) (Rows.coreMadeSpec.post enc Try.prog Try.f3 false true false false) := by
  refine returnsInHanded_of_change_sized (C := Try.checked) ownCoreMade started (by kernel_rfl) Try.func3
    (ChangeSpec.witness6 (enc := enc) (C := Try.checked) false ⟨#[], #[.int .i64 0, .slice none 0 0, .agg #[.int .i64 0, .int .i64 0, .int .i64 0, .int .i64 0]], []⟩ 8 (by kernel_rfl) (by kernel_rfl) (by kernel_rfl) (by kernel_rfl)) ?_
  intro W base args ds gs before hval0 hW hcnd hwt _
  have hval : ∀ (j : Nat) t v, Try.f3.params[j]? = some t → args[j]? = some v → Value.okWide Try.prog W .any base t v := hval0
  have hW' := hW
  obtain ⟨p, q, hA0, hV, rfl, hfz, hnd⟩ := hW
  have hA : DataW.TrodAll enc Try.prog W 0 (fun _ => true) true Try.f3.params.toList args.toList ds p := hA0
  rw [Try.params3] at hA hval
  obtain ⟨v0, vs0, d0, ds0, p0, q0, hargs, rfl, rfl, h0, r0⟩ := trodAll_cons hA
  obtain ⟨v1, vs1, d1, ds1, p1, q1, rfl, rfl, rfl, h1, r1⟩ := trodAll_cons r0
  obtain ⟨v2, vs2, d2, ds2, p2, q2, rfl, rfl, rfl, h2, r2⟩ := trodAll_cons r1
  obtain ⟨rfl, rfl, rfl⟩ := trodAll_nil r2
  obtain rfl : args = #[v0, v1, v2] := by cases args; simp_all
  obtain ⟨rfl, rfl⟩ := trodVars_none hV
  have k0 := h0
  have lt0 : ∀ x ∈ p0, x.block < W.heap.size := by obtain ⟨m, hm⟩ := k0; exact DataW.trod_lt m _ _ _ hm
  have k1 := h1
  have lt1 : ∀ x ∈ p1, x.block < W.heap.size := by obtain ⟨m, hm⟩ := k1; exact DataW.trod_lt m _ _ _ hm
  have k2 := h2
  have lt2 : ∀ x ∈ p2, x.block < W.heap.size := by obtain ⟨m, hm⟩ := k2; exact DataW.trod_lt m _ _ _ hm
  obtain ⟨i0, rfl, rfl, rfl, w0⟩ := open_int Try.underlying3 (hval 0 3 v0 rfl rfl) h0
  obtain ⟨a1, len1, cap1, rfl⟩ := okWide_slice Try.underlying22 (hval 1 22 v1 rfl rfl)
  obtain ⟨_, hp1⟩ : len1 ≤ maxLen ∧ Came W a1 len1 inKinds := by
    obtain ⟨fuel, hf⟩ := h1
    exact open_plain (ks := inKinds) (d := 6) Try.underlying22 (by kernel_rfl) (by kernel_rfl) hf
  have hn1 : len1 * 40 ≤ 140737488355328 ∧ (a1 = none → len1 = 0 ∧ cap1 = 0) := by
    obtain ⟨fuel, hf⟩ := h1
    have := slice_weight Try.underlying22 hf (fun z hz => by
      have := List.all_eq_true.1 hwt z (by rw [show Try.f3.params.toList = [3, 22, 26] from by rw [Try.params3]]; exact List.mem_append_right _ (List.mem_append_left _ hz))
      simpa using this)
    rw [show Try.prog.bytesOf 51 = 40 from by kernel_rfl] at this
    unfold reachBytes at this
    exact ⟨by omega, this.2⟩
  obtain ⟨cs2, rfl, hz2⟩ := okWide_struct Try.underlying26 (hval 2 26 v2 rfl rfl)
  obtain ⟨x0, x1, x2, x3, rfl⟩ := made_in (cs := cs2) (by
    obtain ⟨fuel, hf⟩ := h2
    exact fit_of_trod 6 _ _ _ _ _ (by kernel_rfl) (by simpa [Value.cells] using hf))
  clear hA0 hval0
  refine (made_any a1 len1 cap1 W hp1 hn1.1 hn1.2).mono fun e W' ⟨he, bel⟩ => ?_
  subst he
  exact ⟨_, rfl, _, _, _, [], _, [], hW', trodAll_mk1 (shut_bool Try.underlying4 _), (trodAll_cons_mk (Below.trod laidOutCoreMade (by kernel_rfl) (of_decide_eq_true (by kernel_rfl)) k0 bel lt0) (trodAll_cons_mk (Below.trod laidOutCoreMade (by kernel_rfl) (of_decide_eq_true (by kernel_rfl)) k1 bel lt1) (trodAll_cons_mk (Below.trod laidOutCoreMade (by kernel_rfl) (of_decide_eq_true (by kernel_rfl)) k2 bel lt2) trodAll_mk0))), rfl, bel.frame _, fun h => by cases h⟩

theorem coreMade_holds : Rows.CoreMadeSaid :=
  OpenClaim.holds_of_wide 3 Try.f3 rfl rfl rfl rfl rfl rfl rfl ⟨rfl, rfl, rfl, rfl, rfl⟩ rfl rfl rfl rfl rfl (by kernel_rfl) Try.func3 (by kernel_rfl)
    (of_decide_eq_true (by kernel_rfl)) (by unfold Func.isWrapper; first | (rw [if_pos (by decide +kernel)]; kernel_rfl) | (rw [if_neg (by decide +kernel)]; exact ⟨rfl, rfl⟩))
    (fun os started H enc _ => liftedCoreMade os started H enc)

end Go.Proofs.Ytpgfcjfmhgifiaa
