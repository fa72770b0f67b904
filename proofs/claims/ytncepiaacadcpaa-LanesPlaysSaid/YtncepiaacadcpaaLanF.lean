/- The laws' own functions: small, code, budget. Conditions: those stated in each theorem. -/
import Derived.Test.YtncepiaacadcpaaLanE
import Derived.Laws.BitsLemmas
namespace Go.Proofs.Ytncepiaacadcpaa
open Go.RowKit Go.BigFrame

theorem and_small (x : Int) (m : Nat) (hm : m < 1000) : 0 ≤ bits .and .i64 x (m : Int) ∧ bits .and .i64 x (m : Int) ≤ m := by
  have h : (BitVec.ofInt IntKind.i64.bits x &&& BitVec.ofInt IntKind.i64.bits (m : Int)).toNat ≤ m := by
    rw [BitVec.toNat_and]
    refine Nat.le_trans Nat.and_le_right ?_
    rw [BitVec.toNat_ofInt]
    simp only [IntKind.bits]
    omega
  unfold bits
  simp only
  generalize (BitVec.ofInt IntKind.i64.bits x &&& BitVec.ofInt IntKind.i64.bits (m : Int)).toNat = k at *
  rw [show IntKind.i64.wrap (k : Int) = (k : Int) from IntWalk.i64_in _ (by omega)]
  omega

theorem Try.sizeBud : (Try.prog.info? 23).map (·.size) = some 3 := by kernel_rfl
set_option maxRecDepth 100000 in
set_option maxHeartbeats 1000000 in
theorem small_any (f s o : Int) (w : World) : Calls Try.prog 22 #[bud f s o] w fun e w' => ∃ f' s' o', e = .returned (bud f' s' o') ∧ MayB f' s' o' ∧ Below w.heap.size w w' := by
  obtain ⟨f1, f2⟩ : 0 ≤ bits .and .i64 f 15 ∧ bits .and .i64 f 15 ≤ 15 := and_small f 15 (by omega)
  obtain ⟨s1, s2⟩ : 0 ≤ bits .and .i64 s 15 ∧ bits .and .i64 s 15 ≤ 15 := and_small s 15 (by omega)
  obtain ⟨o1, o2⟩ : 0 ≤ bits .and .i64 o 15 ∧ bits .and .i64 o 15 ≤ 15 := and_small o 15 (by omega)
  have HM := Lib.hid (show MayB (bits .and .i64 f 15) (bits .and .i64 s 15) (bits .and .i64 o 15) from ⟨⟨f1, by omega⟩, ⟨s1, by omega⟩, o1, by omega⟩)
  clear f1 f2 s1 s2 o1 o2
  unfold bud
  go_enter Try.func22, Try.ntmps22
  go_wp2
  have hl : ((w.alloc (.cells #[.int .i64 f, .int .i64 s, .int .i64 o] 23)).alloc (.cells #[.int .i64 (bits .and .i64 f 15), .int .i64 (bits .and .i64 s 15), .int .i64 (bits .and .i64 o 15)] 23)).rangeAt (w.heap.size + 1) 0 [.int .i64 (bits .and .i64 f 15), .int .i64 (bits .and .i64 s 15), .int .i64 (bits .and .i64 o 15)] := by
    have := Holds.new (w.alloc (.cells #[.int .i64 f, .int .i64 s, .int .i64 o] 23)) 23 [.int .i64 (bits .and .i64 f 15), .int .i64 (bits .and .i64 s 15), .int .i64 (bits .and .i64 o 15)]
    rw [World.size_alloc] at this
    exact this.range (fun i v hi => by rw [Nat.zero_add]; exact hi)
  exact bodyPost_ret (results_c rfl rfl (run_loadVar_mid _ _ 0 23 _ _ hl Try.underlying23 rfl Try.sizeBud)) rfl ⟨_, _, _, rfl, HM.out, ((Below.refl _ w).alloc (Nat.le_refl _) _).alloc (by simp) _⟩

set_option maxRecDepth 100000 in
set_option maxHeartbeats 1000000 in
theorem code_any (n : Int) (w : World) : Calls Try.prog 23 #[.int .i64 n] w fun e w' => ∃ k, e = .returned (.int .i64 k) ∧ okCode k = true ∧ Below w.heap.size w w' := by
  obtain ⟨m, hm, hb⟩ : ∃ m : Nat, m < 8 ∧ bits .and .i64 n 7 = (m : Int) := by
    obtain ⟨h1, h2⟩ : 0 ≤ bits .and .i64 n 7 ∧ bits .and .i64 n 7 ≤ 7 := and_small n 7 (by omega)
    exact ⟨(bits .and .i64 n 7).toNat, by omega, by omega⟩
  have hB := (Below.refl w.heap.size w).alloc (Nat.le_refl _) (.cells #[.int .i64 1, .int .i64 2, .int .i64 3, .int .i64 4, .int .i64 5, .int .i64 6, .int .i64 8, .int .i64 1] 3)
  have HB := Lib.hid hB; clear hB
  have h8 : m = 0 ∨ m = 1 ∨ m = 2 ∨ m = 3 ∨ m = 4 ∨ m = 5 ∨ m = 6 ∨ m = 7 := by omega
  clear hm
  rcases h8 with rfl | rfl | rfl | rfl | rfl | rfl | rfl | rfl
  all_goals
    go_enter Try.func23, Try.ntmps23
    go_wp2
    go_ret
    exact ⟨_, rfl, by decide, HB.out⟩

set_option maxRecDepth 100000 in
set_option maxHeartbeats 1000000 in
theorem budget_any (c : Ct) (k : Nat) (hk : k ≤ 4) (w : World) : Calls Try.prog 24 #[bud c.f c.s c.o, .int .i64 k] w fun e w' => e = .returned (.int .i64 (c.lim k)) ∧ Below w.heap.size w w' := by
  have HB := Lib.hid ((Below.refl w.heap.size w).alloc (Nat.le_refl _) (.cells #[.int .i64 c.f, .int .i64 c.s, .int .i64 c.o] 23))
  have h5 : k = 0 ∨ k = 1 ∨ k = 2 ∨ k = 3 ∨ k = 4 := by omega
  clear hk
  unfold bud
  rcases h5 with rfl | rfl | rfl | rfl | rfl
  all_goals
    go_enter Try.func24, Try.ntmps24
    go_wp2
    go_ret
    exact ⟨rfl, HB.out⟩

end Go.Proofs.Ytncepiaacadcpaa
