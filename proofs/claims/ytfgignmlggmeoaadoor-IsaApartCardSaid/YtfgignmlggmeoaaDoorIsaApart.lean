/- IsaApart: for every input that can be read the law answers true, and each argument reads behind the call as it read before; the listed variables lie as the program lays them (the card ties that). No other condition. -/
import Derived.Test.YtfgignmlggmeoaaDoorApW
import Derived.Test.YtfgignmlggmeoaaDoorIsaL
import Derived.Test.YtfgignmlggmeoaaDoorDat
import Derived.Test.YtfgignmlggmeoaaDoorCards
import Derived.Test.YtfgignmlggmeoaaDoorTie
import Derived.ProofKit
import Derived.OpenShut
import Derived.ShutString
import Derived.ChangeOld
import Derived.Below
import Derived.LaidMore
import Derived.Lay
import Derived.SevenTiedAt
import Derived.Stop.Joined
namespace Go.Proofs.YtfgignmlggmeoaaDoor
open Go.ChangeShapes Go.WideShapes Go.ChangeAt Go.RowKit
open Go.ChangeMaps (open_string shut_string)

theorem ownIsaApart : ownKnob Tryd.prog.godebug = none := by kernel_rfl
theorem laidOutIsaApart : laidOutB Tryd.prog = true := by kernel_rfl
theorem instr_in {cs : Array Value} (h : Fit [(⟨0, .i64⟩ : CK), ⟨0, .i64⟩, ⟨0, .i64⟩, ⟨0, .i64⟩, ⟨0, .i64⟩] cs.toList) : ∃ i : In, cs = i.cells.toArray ∧ i.Ok := by
  obtain ⟨l⟩ := cs
  have h1 := h.1
  have h2 := h.2
  match l, h1 with
  | [c0, c1, c2, c3, c4], _ =>
    obtain ⟨x0, rfl, w0⟩ := h2 0 _ _ rfl rfl
    obtain ⟨x1, rfl, w1⟩ := h2 1 _ _ rfl rfl
    obtain ⟨x2, rfl, w2⟩ := h2 2 _ _ rfl rfl
    obtain ⟨x3, rfl, w3⟩ := h2 3 _ _ rfl rfl
    obtain ⟨x4, rfl, w4⟩ := h2 4 _ _ rfl rfl
    have g : ∀ z, (Lit.int .i64 z).wf = true → I64 z := fun z h => by simp [Lit.wf, IntKind.min, IntKind.max, IntKind.signed, IntKind.bits] at h; unfold I64; omega
    exact ⟨⟨x0, x1, x2, x3, x4⟩, rfl, g _ w0, g _ w1, g _ w2, g _ w3, g _ w4⟩
theorem regs2_in {cs : Array Value} (h : Fit [(⟨0, .u64⟩ : CK), ⟨0, .u64⟩, ⟨0, .u64⟩, ⟨0, .u64⟩, ⟨0, .u64⟩, ⟨0, .u64⟩, ⟨0, .u64⟩, ⟨0, .u64⟩, ⟨0, .u64⟩, ⟨0, .u64⟩, ⟨0, .u64⟩, ⟨0, .u64⟩, ⟨0, .u64⟩, ⟨0, .u64⟩, ⟨0, .u64⟩, ⟨0, .u64⟩] cs.toList) : ∃ x y : L8, cs = (x.cells ++ y.cells).toArray ∧ x.Ok ∧ y.Ok := by
  obtain ⟨l⟩ := cs
  have h1 := h.1
  have h2 := h.2
  match l, h1 with
  | [c0, c1, c2, c3, c4, c5, c6, c7, c8, c9, c10, c11, c12, c13, c14, c15], _ =>
    obtain ⟨x0, rfl, w0⟩ := h2 0 _ _ rfl rfl
    obtain ⟨x1, rfl, w1⟩ := h2 1 _ _ rfl rfl
    obtain ⟨x2, rfl, w2⟩ := h2 2 _ _ rfl rfl
    obtain ⟨x3, rfl, w3⟩ := h2 3 _ _ rfl rfl
    obtain ⟨x4, rfl, w4⟩ := h2 4 _ _ rfl rfl
    obtain ⟨x5, rfl, w5⟩ := h2 5 _ _ rfl rfl
    obtain ⟨x6, rfl, w6⟩ := h2 6 _ _ rfl rfl
    obtain ⟨x7, rfl, w7⟩ := h2 7 _ _ rfl rfl
    obtain ⟨x8, rfl, w8⟩ := h2 8 _ _ rfl rfl
    obtain ⟨x9, rfl, w9⟩ := h2 9 _ _ rfl rfl
    obtain ⟨x10, rfl, w10⟩ := h2 10 _ _ rfl rfl
    obtain ⟨x11, rfl, w11⟩ := h2 11 _ _ rfl rfl
    obtain ⟨x12, rfl, w12⟩ := h2 12 _ _ rfl rfl
    obtain ⟨x13, rfl, w13⟩ := h2 13 _ _ rfl rfl
    obtain ⟨x14, rfl, w14⟩ := h2 14 _ _ rfl rfl
    obtain ⟨x15, rfl, w15⟩ := h2 15 _ _ rfl rfl
    have g : ∀ z, (Lit.int .u64 z).wf = true → U64 z := fun z h => by simp [Lit.wf, IntKind.min, IntKind.max, IntKind.signed, IntKind.bits] at h; unfold U64; omega
    refine ⟨⟨x0, x1, x2, x3, x4, x5, x6, x7⟩, ⟨x8, x9, x10, x11, x12, x13, x14, x15⟩, rfl, fun k hk => ?_, fun k hk => ?_⟩
    · match k, hk with
      | 0, _ => exact g _ w0 | 1, _ => exact g _ w1 | 2, _ => exact g _ w2 | 3, _ => exact g _ w3 | 4, _ => exact g _ w4 | 5, _ => exact g _ w5 | 6, _ => exact g _ w6 | 7, _ => exact g _ w7
    · match k, hk with
      | 0, _ => exact g _ w8 | 1, _ => exact g _ w9 | 2, _ => exact g _ w10 | 3, _ => exact g _ w11 | 4, _ => exact g _ w12 | 5, _ => exact g _ w13 | 6, _ => exact g _ w14 | 7, _ => exact g _ w15
theorem at2_in {cs : Array Value} (h : Fit [(⟨0, .u16⟩ : CK), ⟨0, .u16⟩] cs.toList) : ∃ s t : Int, cs = #[.int .u16 s, .int .u16 t] ∧ (0 ≤ s ∧ s < 65536) ∧ (0 ≤ t ∧ t < 65536) := by
  obtain ⟨l⟩ := cs
  have h1 := h.1
  have h2 := h.2
  match l, h1 with
  | [c0, c1], _ =>
    obtain ⟨x0, rfl, w0⟩ := h2 0 _ _ rfl rfl
    obtain ⟨x1, rfl, w1⟩ := h2 1 _ _ rfl rfl
    have g : ∀ z, (Lit.int .u16 z).wf = true → 0 ≤ z ∧ z < 65536 := fun z h => by simp [Lit.wf, IntKind.min, IntKind.max, IntKind.signed, IntKind.bits] at h; omega
    exact ⟨x0, x1, rfl, g _ w0, g _ w1⟩

set_option maxRecDepth 100000 in
theorem liftedIsaApart (os : Os) (started : os.Started) (H : Type) (enc : TypeId × Value → H) :
    ReturnsInHanded {} Tryd.checked os 8 .any (fun w args => (Rows.isaApartSpec.pre enc Tryd.prog Tryd.f8 Rows.isaApartRow.domain false w args ∧ laidMetH Tryd.prog laidSix w) ∧ sizedMet enc Tryd.prog Tryd.f8 (OpenSpec.ofChange Rows.isaApartSpec) false w args)
      (Rows.isaApartSpec.post enc Tryd.prog Tryd.f8 false true false false) := by
  refine returnsInHanded_of_change_and (C := Tryd.checked) (X := fun w _ => laidMetH Tryd.prog laidSix w) (fun _ _ _ hh h => h.of_heap hh) ownIsaApart started (by kernel_rfl) Tryd.func8
    (ChangeSpec.witness_shaped (enc := enc) (C := Tryd.checked) (os := os) (X := fun w _ => laidMetH Tryd.prog laidSix w) false (World.laidAll Tryd.prog os laidSix) #[.agg #[.int .i64 0, .int .i64 0, .int .i64 0, .int .i64 0, .int .i64 0], .agg #[.int .u64 0, .int .u64 0, .int .u64 0, .int .u64 0, .int .u64 0, .int .u64 0, .int .u64 0, .int .u64 0, .int .u64 0, .int .u64 0, .int .u64 0, .int .u64 0, .int .u64 0, .int .u64 0, .int .u64 0, .int .u64 0], .agg #[.int .u16 0, .int .u16 0]] 8 (World.laidAll_os _ _ _)
      (World.shaped_of_ZipB (by kernel_rfl) (by kernel_rfl)) (by kernel_rfl) (by kernel_rfl) (by kernel_rfl)
      (by rw [MakeChecks.laidMetH_plain _ _ _ (by kernel_rfl)]; exact laidMet_laidAll _ (by kernel_rfl) (by kernel_rfl))) ?_
  intro W base args ds gs before hval0 hW hc _ hL0 _
  have hval : ∀ (j : Nat) t v, Tryd.f8.params[j]? = some t → args[j]? = some v → Value.okWide Tryd.prog W .any base t v := hval0
  have hW' := hW
  obtain ⟨p, q, hA0, hV, rfl, hfz, hnd⟩ := hW
  have hA : DataW.TrodAll enc Tryd.prog W 0 (fun _ => true) true Tryd.f8.params.toList args.toList ds p := hA0
  rw [Tryd.params8] at hA hval
  obtain ⟨v0, vs0, d0, ds0, p0, q0, hargs, rfl, rfl, h0, r0⟩ := trodAll_cons hA
  obtain ⟨v1, vs1, d1, ds1, p1, q1, rfl, rfl, rfl, h1, r1⟩ := trodAll_cons r0
  obtain ⟨v2, vs2, d2, ds2, p2, q2, rfl, rfl, rfl, h2, r2⟩ := trodAll_cons r1
  obtain ⟨rfl, rfl, rfl⟩ := trodAll_nil r2
  obtain rfl : args = #[v0, v1, v2] := by cases args; simp_all
  obtain ⟨rfl, rfl⟩ := trodVars_none hV
  have k0 := h0
  have lt0 : ∀ x ∈ p0, x.block < W.heap.size := by obtain ⟨m, hm⟩ := k0; exact DataW.trod_lt m _ _ _ hm
  have k1 := h1
  have lt1 : ∀ x ∈ p1, x.block < W.heap.size := by obtain ⟨m, hm⟩ := k1; exact DataW.trod_lt m _ _ _ hm
  have k2 := h2
  have lt2 : ∀ x ∈ p2, x.block < W.heap.size := by obtain ⟨m, hm⟩ := k2; exact DataW.trod_lt m _ _ _ hm
  have hL : laidMet Tryd.prog laidSix W := by rw [MakeChecks.laidMetH_plain _ _ _ (by kernel_rfl)] at hL0; exact hL0
  obtain ⟨cs0, rfl, hz0⟩ := okWide_struct Tryd.underlying23 (hval 0 23 v0 rfl rfl)
  obtain ⟨i0, rfl, ok0⟩ := instr_in (cs := cs0) (by
    obtain ⟨fuel, hf⟩ := h0
    exact fit_of_trod 6 _ _ _ _ _ (by kernel_rfl) (by simpa [Value.cells] using hf))
  obtain ⟨cs1, rfl, hz1⟩ := okWide_arr Tryd.underlying47 (hval 1 47 v1 rfl rfl)
  obtain ⟨x1, y1, rfl, okx1, oky1⟩ := regs2_in (cs := cs1) (by
    obtain ⟨fuel, hf⟩ := h1
    exact fit_of_trod 6 _ _ _ _ _ (by kernel_rfl) (by simpa [Value.cells] using hf))
  obtain ⟨cs2, rfl, hz2⟩ := okWide_arr Tryd.underlying49 (hval 2 49 v2 rfl rfl)
  obtain ⟨s2, t2, rfl, oks2, okt2⟩ := at2_in (cs := cs2) (by
    obtain ⟨fuel, hf⟩ := h2
    exact fit_of_trod 6 _ _ _ _ _ (by kernel_rfl) (by simpa [Value.cells] using hf))
  clear hA0 hval0
  refine (apart_any i0 x1 y1 s2 t2 oks2 okt2 okx1 oky1 W (std_laid hL)).mono fun e W' ⟨he, bel⟩ => ?_
  subst he
  exact ⟨_, rfl, _, _, _, [], _, [], hW', trodAll_mk1 (shut_bool Tryd.underlying4 _), (trodAll_cons_mk (Below.trod laidOutIsaApart (by kernel_rfl) (of_decide_eq_true (by kernel_rfl)) k0 bel lt0) (trodAll_cons_mk (Below.trod laidOutIsaApart (by kernel_rfl) (of_decide_eq_true (by kernel_rfl)) k1 bel lt1) (trodAll_cons_mk (Below.trod laidOutIsaApart (by kernel_rfl) (of_decide_eq_true (by kernel_rfl)) k2 bel lt2) trodAll_mk0))), rfl, bel.frame _, fun h => by cases h⟩

theorem isaApart_row : Rows.IsaApartSaid :=
  OpenClaim.holds_of_wide 8 Tryd.f8 rfl rfl rfl rfl rfl rfl rfl ⟨rfl, rfl, rfl, rfl, rfl⟩ rfl rfl rfl rfl rfl (by kernel_rfl) Tryd.func8 (by kernel_rfl)
    (of_decide_eq_true (by kernel_rfl)) (by unfold Func.isWrapper; first | (rw [if_pos (by decide +kernel)]; kernel_rfl) | (rw [if_neg (by decide +kernel)]; exact ⟨rfl, rfl⟩))
    (fun os started H enc _ => liftedIsaApart os started H enc)

theorem isaApart_holds : Rows.IsaApartCardSaid :=
  Claim7.holds_tied_plain_at .later [] [.data, .data, .data, .sentinel, .sentinel, .data] true (true, "44a917710c274f4bde8449195728084a98efcaf63dd335f741fb69feb78c2535") true isaApart_row (fun _ h => by cases h) (by kernel_rfl) (fun _ h => by cases h) isaApart_row_tie rfl ⟨rfl, rfl⟩ (by kernel_rfl) rfl
    (fun f fn hf hfn => by
      obtain rfl : f = 8 := Option.some.inj ((show Tryd.prog.funcNamed "shunt/shuntlaw10.IsaApart" = some 8 by kernel_rfl).symm.trans hf) |>.symm
      obtain rfl : fn = Tryd.f8 := (Option.some.inj (Tryd.func8.symm.trans hfn)).symm
      exact ⟨by kernel_rfl, fun j t ht => by
        rw [Tryd.params8] at ht
        match j with
        | 0 => simp at ht; subst ht; exact (show Tryd.prog.wantsStandIn 23 = false by kernel_rfl)
        | 1 => simp at ht; subst ht; exact (show Tryd.prog.wantsStandIn 47 = false by kernel_rfl)
        | 2 => simp at ht; subst ht; exact (show Tryd.prog.wantsStandIn 49 = false by kernel_rfl)
        | j + 3 => simp at ht⟩)
    (by kernel_rfl)

end Go.Proofs.YtfgignmlggmeoaaDoor
