/- MemStays: for every input that can be read the law answers true, and each argument reads behind the call as it read before. No condition. -/
import Derived.Test.YtjebkbpljbohcaaWf
import Derived.Test.YtjebkbpljbohcaaDat
import Derived.ProofKit
import Derived.OpenShut
import Derived.ShutString
import Derived.ChangeOld
import Derived.Below
namespace Go.Proofs.Ytjebkbpljbohcaa
open Go.ChangeShapes Go.WideShapes Go.ChangeAt Go.RowKit
open Go.ChangeMaps (open_string shut_string)

theorem stays_all (a : Option Addr) (len cap : Nat) (A B : Int) (w : World) (wA : (Lit.int .i64 A).wf = true) (wB : (Lit.int .i64 B).wf = true)
    (hp : ∀ i, i < len → ∀ j c, [(⟨0, .i64⟩ : CK), ⟨0, .u64⟩][j]? = some c → ∃ b, a = some b ∧ ∃ v, w.cell? (b.add (i * 2 + j)) = some v ∧ c.fits v) :
    Calls Try.prog 5 #[.slice a len cap, .int .i64 A, .int .i64 B] w (Agrees w (.bool true)) := by
  by_cases hl : 500 < len
  · exact stays_long a len cap A B w hl
  · by_cases h0 : len = 0
    · exact stays_short a 0 0 len cap [] A B w hl (i64_le wA).2 (i64_le wB).2 (fun h => by omega) (fun i hi => by omega)
    · obtain ⟨⟨bx, off, s⟩, rfl, v, hv, _⟩ := hp 0 (by omega) 0 ⟨0, .i64⟩ rfl
      have hs : s = none := spot_of_cell (a := ⟨bx, off, s⟩) (by simpa [Addr.add] using hv)
      subst hs
      have g : ∀ i, ∃ z : Int × Int, i < len → w.cell? ⟨bx, off + i * 2, none⟩ = some (.int .i64 z.1) ∧ w.cell? ⟨bx, off + i * 2 + 1, none⟩ = some (.int .u64 z.2) ∧ z.1 ≤ 9223372036854775807 := fun i => by
        by_cases hi : i < len
        · obtain ⟨b1, e1, v1, c1, n1, rfl, f1⟩ := hp i hi 0 ⟨0, .i64⟩ rfl
          obtain ⟨b2, e2, v2, c2, n2, rfl, _⟩ := hp i hi 1 ⟨0, .u64⟩ rfl
          cases e1; cases e2
          exact ⟨(n1, n2), fun _ => ⟨by simpa using spot_of_add c1, by simpa [Nat.add_assoc] using spot_of_add c2, (i64_le f1).2⟩⟩
        · exact ⟨(0, 0), fun h => absurd h hi⟩
      refine stays_short _ bx off len cap ((List.range len).map fun i => (g i).choose) A B w hl (i64_le wA).2 (i64_le wB).2 (fun _ => rfl) (fun i hi => ?_)
      have := (g i).choose_spec hi
      simpa [List.getD_eq_getElem?_getD, List.getElem?_map, List.getElem?_range hi] using this

theorem ownMemStays : ownKnob Try.prog.godebug = none := by kernel_rfl
theorem laidOutMemStays : laidOutB Try.prog = true := by kernel_rfl

set_option maxRecDepth 100000 in
theorem liftedMemStays (os : Os) (started : os.Started) (H : Type) (enc : TypeId × Value → H) :
    ReturnsInHanded {} Try.checked os 5 .any (Rows.memStaysSpec.pre6 enc Try.prog Try.f5 Rows.memStaysRow.domain false) (Rows.memStaysSpec.post enc Try.prog Try.f5 false true false false) := by
  refine returnsInHanded_of_change (C := Try.checked) ownMemStays started (by kernel_rfl) Try.func5
    (ChangeSpec.witness6 (enc := enc) (C := Try.checked) false ⟨#[], #[.slice none 0 0, .int .i64 0, .int .i64 0], []⟩ 8 (by kernel_rfl) (by kernel_rfl) (by kernel_rfl) (by kernel_rfl)) ?_
  intro W base args ds gs before hval0 hW hcnd _
  have hval : ∀ (j : Nat) t v, Try.f5.params[j]? = some t → args[j]? = some v → Value.okWide Try.prog W .any base t v := hval0
  have hW' := hW
  obtain ⟨p, q, hA0, hV, rfl, hfz, hnd⟩ := hW
  have hA : DataW.TrodAll enc Try.prog W 0 (fun _ => true) true Try.f5.params.toList args.toList ds p := hA0
  rw [Try.params5] at hA hval
  obtain ⟨v0, vs0, d0, ds0, p0, q0, hargs, rfl, rfl, h0, r0⟩ := trodAll_cons hA
  obtain ⟨v1, vs1, d1, ds1, p1, q1, rfl, rfl, rfl, h1, r1⟩ := trodAll_cons r0
  obtain ⟨v2, vs2, d2, ds2, p2, q2, rfl, rfl, rfl, h2, r2⟩ := trodAll_cons r1
  obtain ⟨rfl, rfl, rfl⟩ := trodAll_nil r2
  obtain rfl : args = #[v0, v1, v2] := by cases args; simp_all
  obtain ⟨rfl, rfl⟩ := trodVars_none hV
  have k0 := h0
  have lt0 : ∀ x ∈ p0, x.block < W.heap.size := by obtain ⟨m, hm⟩ := k0; exact DataW.trod_lt m _ _ _ hm
  have k1 := h1
  have lt1 : ∀ x ∈ p1, x.block < W.heap.size := by obtain ⟨m, hm⟩ := k1; exact DataW.trod_lt m _ _ _ hm
  have k2 := h2
  have lt2 : ∀ x ∈ p2, x.block < W.heap.size := by obtain ⟨m, hm⟩ := k2; exact DataW.trod_lt m _ _ _ hm
  obtain ⟨a0, len0, cap0, rfl⟩ := okWide_slice Try.underlying56 (hval 0 56 v0 rfl rfl)
  obtain ⟨_, hp⟩ : len0 ≤ maxLen ∧ ∀ i, i < len0 → ∀ j c, [(⟨0, .i64⟩ : CK), ⟨0, .u64⟩][j]? = some c → ∃ b, a0 = some b ∧ ∃ v, W.cell? (b.add (i * 2 + j)) = some v ∧ c.fits v := by
    obtain ⟨fuel, hf⟩ := h0
    exact open_plain (ks := [⟨0, .i64⟩, ⟨0, .u64⟩]) (d := 6) Try.underlying56 (by kernel_rfl) (by kernel_rfl) hf
  obtain ⟨a1, rfl, rfl, rfl, w1⟩ := open_int Try.underlying3 (hval 1 3 v1 rfl rfl) h1
  obtain ⟨a2, rfl, rfl, rfl, w2⟩ := open_int Try.underlying3 (hval 2 3 v2 rfl rfl) h2
  clear hA0 hval0
  refine (stays_all a0 len0 cap0 a1 a2 W w1 w2 hp).mono fun e W' ⟨he, bel⟩ => ?_
  subst he
  exact ⟨_, rfl, _, _, _, [], _, [], hW', trodAll_mk1 (shut_bool Try.underlying4 _), (trodAll_cons_mk (Below.trod laidOutMemStays (by kernel_rfl) (of_decide_eq_true (by kernel_rfl)) k0 bel lt0) (trodAll_cons_mk (Below.trod laidOutMemStays (by kernel_rfl) (of_decide_eq_true (by kernel_rfl)) k1 bel lt1) (trodAll_cons_mk (Below.trod laidOutMemStays (by kernel_rfl) (of_decide_eq_true (by kernel_rfl)) k2 bel lt2) trodAll_mk0))), rfl, bel.frame _, fun h => by cases h⟩

theorem memStays_holds : Rows.MemStaysSaid :=
  OpenClaim.holds_of_wide 5 Try.f5 rfl rfl rfl rfl rfl rfl rfl ⟨rfl, rfl, rfl, rfl, rfl⟩ rfl rfl rfl rfl rfl (by kernel_rfl) Try.func5 (by kernel_rfl)
    (of_decide_eq_true (by kernel_rfl)) (by unfold Func.isWrapper; first | (rw [if_pos (by decide +kernel)]; kernel_rfl) | (rw [if_neg (by decide +kernel)]; exact ⟨rfl, rfl⟩))
    (fun os started H enc _ => liftedMemStays os started H enc)

end Go.Proofs.Ytjebkbpljbohcaa
