/- The chapter's examples: calls that write a code and play it. Conditions: those stated in each theorem. -/
import Derived.Test.YthjbcpgncnchoaaNmP
namespace Go.Proofs.Ythjbcpgncnchoaa
open Go.RowKit Go.BigFrame

def LibY (W : World) (code : List In) (e : Ending) (w' : World) : Prop :=
  ∃ ad cap, e = .returned (.tuple #[.slice ad code.length cap, .int .i64 0]) ∧ Below W.heap.size W w' ∧ w'.ownsRow W.heap.size 40 5 (.slice ad code.length cap) code.length (flatI code)
theorem LibO.yes {W w' : World} {P : Pl} {code : List In} {e : Ending} (h : LibO W P code e w') (hm : P.mayBe = true) : LibY W code e w' := by
  obtain ⟨v, n, rfl, hb, h3, _⟩ := h
  obtain ⟨rfl, hrow⟩ := h3 hm
  obtain ⟨ad, cap, rfl⟩ := row_form hrow
  exact ⟨ad, cap, rfl, hb, hrow⟩
theorem LibO.no {W w' : World} {P : Pl} {code : List In} {e : Ending} (h : LibO W P code e w') (hm : P.mayBe = false) : e = .returned (.tuple #[.slice none 0 0, .int .i64 130]) ∧ Below W.heap.size W w' := by
  obtain ⟨v, n, rfl, hb, _, h4⟩ := h
  obtain ⟨rfl, rfl⟩ := h4 hm
  exact ⟨rfl, hb⟩
theorem below_tch {C : Nat → Prop} {a b : World} (h : Below a.heap.size a b) : Tch C a b := ⟨h.os, h.tape, h.output, h.size, fun k hk _ => h.block k hk⟩
theorem fin3 {w V : World} {N mb : Nat} {m : List Int} (hz : Holds V N 48 [.int .u64 0, .int .u64 0, .int .u64 0]) (hm : Holds V mb 24 (memC m)) (ht : Tch (· = mb) w V) (hN : w.heap.size ≤ N) (hne : mb ≠ N) (x y z : Int) :
    Holds (((V.setCell ⟨N, 0, none⟩ (.int .u64 x)).setCell ⟨N, 1, none⟩ (.int .u64 y)).setCell ⟨N, 2, none⟩ (.int .u64 z)) N 48 [.int .u64 x, .int .u64 y, .int .u64 z] ∧ Holds (((V.setCell ⟨N, 0, none⟩ (.int .u64 x)).setCell ⟨N, 1, none⟩ (.int .u64 y)).setCell ⟨N, 2, none⟩ (.int .u64 z)) mb 24 (memC m) ∧ Tch (· = mb) w (((V.setCell ⟨N, 0, none⟩ (.int .u64 x)).setCell ⟨N, 1, none⟩ (.int .u64 y)).setCell ⟨N, 2, none⟩ (.int .u64 z)) :=
  ⟨((hz.set 0 _).set 1 _).set 2 _, Holds.other (Holds.other (Holds.other hm hne _) hne _) hne _, ((ht.setCell (p := ⟨N, 0, none⟩) (.inr hN) _).setCell (p := ⟨N, 1, none⟩) (.inr hN) _).setCell (p := ⟨N, 2, none⟩) (.inr hN) _⟩

set_option maxRecDepth 100000 in
set_option maxHeartbeats 2000000 in
theorem putC_any {W : World} {mb bx : Nat} {m m' : List Int} {k v a b c : Int} (hk : 0 ≤ k ∧ k < 18446744073709551616) (hv : 0 ≤ v ∧ v < 18446744073709551616) (hr : RunM (codeHPut (hashP 0 1 1) k v).out m a b c m') (hmm : okM m = true) (hm : Holds W mb 24 (memC m)) (hx : Holds W bx 45 [.slice (some ⟨mb, 0, none⟩) 504 504]) :
    Calls Try.prog 24 #[.int .u64 k, .int .u64 v, .pointer (some ⟨bx, 0, none⟩)] W fun e w' => e = .returned (.agg #[.int .u64 a, .int .u64 b, .int .u64 c]) ∧ Holds w' mb 24 (memC m') ∧ Tch (· = mb) W w' := by
  have HL := Lib.hid (fun V => (HashPut_any 0 1 1 (by unfold I64; omega) (by unfold I64; omega) k hk v hv V).mono fun e w' h => LibO.yes h (by decide +kernel))
  have hz := Holds.new W 48 [.int .u64 0, .int .u64 0, .int .u64 0]
  have hne : W.heap.size ≠ mb := fun e => by have := hm.lt; omega
  have H1 := Lib.hid (hx.alloc (.cells #[.int .u64 0, .int .u64 0, .int .u64 0] 48))
  have H2 := Lib.hid (hm.alloc (.cells #[.int .u64 0, .int .u64 0, .int .u64 0] 48))
  have Hm := Lib.hid hm.lt
  have Hz := Lib.hid hz; clear hz hx hm
  have HR := Lib.hid hr; clear hr
  generalize (codeHPut (hashP 0 1 1) k v).out = l at *
  go_enter Try.func24, Try.ntmps24
  go_wp2_with (first | (go_at_call 25; go_loud (with_reducible refine (HL.out _).mono ?_); go_loud (rintro e V ⟨ad, cap, rfl, hb, hrow⟩; have hxV := H1.out.below hb; have kx := hxV.cell (i := 0) rfl; have hzV := Hz.out.below hb; have hmV := H2.out.below hb; have HT := Lib.hid hb; have HA := Lib.hid (ans_run HR.out hmm hmV hrow (by have := Hm.out; simp; omega)); have HZ := Lib.hid hzV; clear hb hrow hzV hmV)) | (go_at_call 22; go_loud (with_reducible refine HA.out.mono ?_); go_loud (rintro e V2 ⟨rfl, hm2, ht2⟩; have hzV := ht2.holds hne HZ.out; have hlv := hzV.lt; have z0 := hzV.cell (i := 0) rfl; have z1 := hzV.cell (i := 1) rfl; have z2 := hzV.cell (i := 2) rfl; have f0 := hzV.free 0; have f1 := hzV.free 1; have f2 := hzV.free 2; have HZ2 := Lib.hid hzV; have HM2 := Lib.hid hm2; have HT2 := Lib.hid ht2; clear hzV hm2 ht2)))
  have hb0 : Below W.heap.size W V := ((Below.refl _ W).alloc (Nat.le_refl _) _).trans (HT.out.mono (by simp))
  have hf := fin3 HZ2.out HM2.out ((below_tch hb0).trans HT2.out) (Nat.le_refl _) (fun e => hne e.symm) a b c
  exact bodyPost_ret (results_c rfl rfl (Try.loadThree hf.1)) rfl ⟨rfl, hf.2⟩

set_option maxRecDepth 100000 in
set_option maxHeartbeats 2000000 in
theorem tieC_any {W : World} {mb bx : Nat} {m m' : List Int} {k v a b c : Int} (hk : 0 ≤ k ∧ k < 18446744073709551616) (hv : 0 ≤ v ∧ v < 18446744073709551616) (hr : RunM (codeTPut (treeP 0 3) k v).out m a b c m') (hmm : okM m = true) (hm : Holds W mb 24 (memC m)) (hx : Holds W bx 45 [.slice (some ⟨mb, 0, none⟩) 504 504]) :
    Calls Try.prog 28 #[.int .u64 k, .int .u64 v, .pointer (some ⟨bx, 0, none⟩)] W fun e w' => e = .returned (.agg #[.int .u64 a, .int .u64 b, .int .u64 c]) ∧ Holds w' mb 24 (memC m') ∧ Tch (· = mb) W w' := by
  have HL := Lib.hid (fun V => (TreePut_any 0 3 (by unfold I64; omega) (by unfold I64; omega) k hk v hv V).mono fun e w' h => LibO.yes h (by decide +kernel))
  have hz := Holds.new W 48 [.int .u64 0, .int .u64 0, .int .u64 0]
  have hne : W.heap.size ≠ mb := fun e => by have := hm.lt; omega
  have H1 := Lib.hid (hx.alloc (.cells #[.int .u64 0, .int .u64 0, .int .u64 0] 48))
  have H2 := Lib.hid (hm.alloc (.cells #[.int .u64 0, .int .u64 0, .int .u64 0] 48))
  have Hm := Lib.hid hm.lt
  have Hz := Lib.hid hz; clear hz hx hm
  have HR := Lib.hid hr; clear hr
  generalize (codeTPut (treeP 0 3) k v).out = l at *
  go_enter Try.func28, Try.ntmps28
  go_wp2_with (first | (go_at_call 29; go_loud (with_reducible refine (HL.out _).mono ?_); go_loud (rintro e V ⟨ad, cap, rfl, hb, hrow⟩; have hxV := H1.out.below hb; have kx := hxV.cell (i := 0) rfl; have hzV := Hz.out.below hb; have hmV := H2.out.below hb; have HT := Lib.hid hb; have HA := Lib.hid (ans_run HR.out hmm hmV hrow (by have := Hm.out; simp; omega)); have HZ := Lib.hid hzV; clear hb hrow hzV hmV)) | (go_at_call 22; go_loud (with_reducible refine HA.out.mono ?_); go_loud (rintro e V2 ⟨rfl, hm2, ht2⟩; have hzV := ht2.holds hne HZ.out; have hlv := hzV.lt; have z0 := hzV.cell (i := 0) rfl; have z1 := hzV.cell (i := 1) rfl; have z2 := hzV.cell (i := 2) rfl; have f0 := hzV.free 0; have f1 := hzV.free 1; have f2 := hzV.free 2; have HZ2 := Lib.hid hzV; have HM2 := Lib.hid hm2; have HT2 := Lib.hid ht2; clear hzV hm2 ht2)))
  have hb0 : Below W.heap.size W V := ((Below.refl _ W).alloc (Nat.le_refl _) _).trans (HT.out.mono (by simp))
  have hf := fin3 HZ2.out HM2.out ((below_tch hb0).trans HT2.out) (Nat.le_refl _) (fun e => hne e.symm) a b c
  exact bodyPost_ret (results_c rfl rfl (Try.loadThree hf.1)) rfl ⟨rfl, hf.2⟩

end Go.Proofs.Ythjbcpgncnchoaa
