/- MemPlays: for every input that can be read the law answers true, and each argument reads behind the call as it read before. No condition. -/
import Derived.Test.YtjebkbpljbohcaaWq
import Derived.Test.YtjebkbpljbohcaaDat
import Derived.ProofKit
import Derived.OpenShut
import Derived.ShutString
import Derived.ChangeOld
import Derived.Below
namespace Go.Proofs.Ytjebkbpljbohcaa
open Go.ChangeShapes Go.WideShapes Go.ChangeAt Go.RowKit
open Go.ChangeMaps (open_string shut_string)

def stepKinds : List CK := [(⟨0, .i64⟩ : CK), ⟨0, .i64⟩, ⟨0, .u64⟩, ⟨0, .u64⟩, ⟨0, .u64⟩, ⟨0, .u64⟩, ⟨0, .u64⟩, ⟨0, .u64⟩, ⟨0, .u64⟩, ⟨0, .u64⟩, ⟨0, .u64⟩]

theorem plays_all (N : Int) (a : Option Addr) (len cap : Nat) (w : World)
    (hp : ∀ i, i < len → ∀ j c, stepKinds[j]? = some c → ∃ b, a = some b ∧ ∃ v, w.cell? (b.add (i * 11 + j)) = some v ∧ c.fits v) :
    Calls Try.prog 3 #[.int .i64 N, .slice a len cap] w (Agrees w (.bool true)) := by
  by_cases hl : 1000 < len
  · exact plays_long N a len cap w hl
  by_cases hN : N < 2 ∨ 64 < N
  · exact plays_bad N a len cap w hl hN
  obtain ⟨n, rfl⟩ := Int.eq_ofNat_of_zero_le (show 0 ≤ N by omega)
  by_cases h0 : len = 0
  · exact plays_ok n a 0 0 len cap (fun _ _ => 0) w (by omega) (by omega) hl (fun h => by omega) (fun i hi => by omega)
  · obtain ⟨⟨bx, off, s⟩, rfl, v, hv, _⟩ := hp 0 (by omega) 0 _ rfl
    have hs : s = none := spot_of_cell (a := ⟨bx, off, s⟩) (by simpa [Addr.add] using hv)
    subst hs
    have g : ∀ i j, ∃ z : Int, i < len → ∀ c, stepKinds[j]? = some c → c.tag = 0 → w.cell? ⟨bx, off + (i * 11 + j), none⟩ = some (.int c.k z) ∧ (Lit.int c.k z).wf = true := fun i j => by
      by_cases hi : i < len
      · cases hj : stepKinds[j]? with
        | none => exact ⟨0, fun _ c hc => by cases hc⟩
        | some c =>
          obtain ⟨b1, e1, v1, c1, f1⟩ := hp i hi j c hj
          cases e1
          by_cases ht : c.tag = 0
          · obtain ⟨t, k⟩ := c
            simp only at ht
            subst ht
            obtain ⟨n1, rfl, g1⟩ := f1
            exact ⟨n1, fun _ c' hc' _ => by cases hc'; exact ⟨spot_of_add c1, g1⟩⟩
          · exact ⟨0, fun _ c' hc' h' => by cases hc'; exact absurd h' ht⟩
      · exact ⟨0, fun h => absurd h hi⟩
    refine plays_ok n _ bx off len cap (fun i j => (g i j).choose) w (by omega) (by omega) hl (fun _ => rfl) (fun i hi => ⟨⟨?_, ?_, ?_, ?_, ?_, ?_, ?_, ?_, ?_, ?_, ?_⟩, ?_⟩)
    · have := ((g i 0).choose_spec hi _ rfl rfl).1
      simpa using this
    · have := ((g i 1).choose_spec hi _ rfl rfl).1
      simpa [Nat.add_assoc] using this
    · have := ((g i 2).choose_spec hi _ rfl rfl).1
      simpa [Nat.add_assoc] using this
    · have := ((g i 3).choose_spec hi _ rfl rfl).1
      simpa [Nat.add_assoc] using this
    · have := ((g i 4).choose_spec hi _ rfl rfl).1
      simpa [Nat.add_assoc] using this
    · have := ((g i 5).choose_spec hi _ rfl rfl).1
      simpa [Nat.add_assoc] using this
    · have := ((g i 6).choose_spec hi _ rfl rfl).1
      simpa [Nat.add_assoc] using this
    · have := ((g i 7).choose_spec hi _ rfl rfl).1
      simpa [Nat.add_assoc] using this
    · have := ((g i 8).choose_spec hi _ rfl rfl).1
      simpa [Nat.add_assoc] using this
    · have := ((g i 9).choose_spec hi _ rfl rfl).1
      simpa [Nat.add_assoc] using this
    · have := ((g i 10).choose_spec hi _ rfl rfl).1
      simpa [Nat.add_assoc] using this
    · exact (i64_le ((g i 1).choose_spec hi _ rfl rfl).2).2

theorem ownMemPlays : ownKnob Try.prog.godebug = none := by kernel_rfl
theorem laidOutMemPlays : laidOutB Try.prog = true := by kernel_rfl

set_option maxRecDepth 100000 in
theorem liftedMemPlays (os : Os) (started : os.Started) (H : Type) (enc : TypeId × Value → H) :
    ReturnsInHanded {} Try.checked os 3 .any (Rows.memPlaysSpec.pre6 enc Try.prog Try.f3 Rows.memPlaysRow.domain false) (Rows.memPlaysSpec.post enc Try.prog Try.f3 false true false false) := by
  refine returnsInHanded_of_change (C := Try.checked) ownMemPlays started (by kernel_rfl) Try.func3
    (ChangeSpec.witness6 (enc := enc) (C := Try.checked) false ⟨#[], #[.int .i64 0, .slice none 0 0], []⟩ 8 (by kernel_rfl) (by kernel_rfl) (by kernel_rfl) (by kernel_rfl)) ?_
  intro W base args ds gs before hval0 hW hcnd _
  have hval : ∀ (j : Nat) t v, Try.f3.params[j]? = some t → args[j]? = some v → Value.okWide Try.prog W .any base t v := hval0
  have hW' := hW
  obtain ⟨p, q, hA0, hV, rfl, hfz, hnd⟩ := hW
  have hA : DataW.TrodAll enc Try.prog W 0 (fun _ => true) true Try.f3.params.toList args.toList ds p := hA0
  rw [Try.params3] at hA hval
  obtain ⟨v0, vs0, d0, ds0, p0, q0, hargs, rfl, rfl, h0, r0⟩ := trodAll_cons hA
  obtain ⟨v1, vs1, d1, ds1, p1, q1, rfl, rfl, rfl, h1, r1⟩ := trodAll_cons r0
  obtain ⟨rfl, rfl, rfl⟩ := trodAll_nil r1
  obtain rfl : args = #[v0, v1] := by cases args; simp_all
  obtain ⟨rfl, rfl⟩ := trodVars_none hV
  have k0 := h0
  have lt0 : ∀ x ∈ p0, x.block < W.heap.size := by obtain ⟨m, hm⟩ := k0; exact DataW.trod_lt m _ _ _ hm
  have k1 := h1
  have lt1 : ∀ x ∈ p1, x.block < W.heap.size := by obtain ⟨m, hm⟩ := k1; exact DataW.trod_lt m _ _ _ hm
  obtain ⟨a0, rfl, rfl, rfl, w0⟩ := open_int Try.underlying3 (hval 0 3 v0 rfl rfl) h0
  obtain ⟨a1, len1, cap1, rfl⟩ := okWide_slice Try.underlying22 (hval 1 22 v1 rfl rfl)
  obtain ⟨_, hp⟩ : len1 ≤ maxLen ∧ ∀ i, i < len1 → ∀ j c, stepKinds[j]? = some c → ∃ b, a1 = some b ∧ ∃ v, W.cell? (b.add (i * 11 + j)) = some v ∧ c.fits v := by
    obtain ⟨fuel, hf⟩ := h1
    exact open_plain (ks := stepKinds) (d := 6) Try.underlying22 (by kernel_rfl) (by kernel_rfl) hf
  clear hA0 hval0
  refine (plays_all a0 a1 len1 cap1 W hp).mono fun e W' ⟨he, bel⟩ => ?_
  subst he
  exact ⟨_, rfl, _, _, _, [], _, [], hW', trodAll_mk1 (shut_bool Try.underlying4 _), (trodAll_cons_mk (Below.trod laidOutMemPlays (by kernel_rfl) (of_decide_eq_true (by kernel_rfl)) k0 bel lt0) (trodAll_cons_mk (Below.trod laidOutMemPlays (by kernel_rfl) (of_decide_eq_true (by kernel_rfl)) k1 bel lt1) trodAll_mk0)), rfl, bel.frame _, fun h => by cases h⟩

theorem memPlays_holds : Rows.MemPlaysSaid :=
  OpenClaim.holds_of_wide 3 Try.f3 rfl rfl rfl rfl rfl rfl rfl ⟨rfl, rfl, rfl, rfl, rfl⟩ rfl rfl rfl rfl rfl (by kernel_rfl) Try.func3 (by kernel_rfl)
    (of_decide_eq_true (by kernel_rfl)) (by unfold Func.isWrapper; first | (rw [if_pos (by decide +kernel)]; kernel_rfl) | (rw [if_neg (by decide +kernel)]; exact ⟨rfl, rfl⟩))
    (fun os started H enc _ => liftedMemPlays os started H enc)

end Go.Proofs.Ytjebkbpljbohcaa
