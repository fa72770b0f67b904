/- AsmBack: the walk. Conditions: those stated in each theorem. -/
import Derived.Test.YtndmlnoddnaafaaGreatDoorAsmV
import Derived.Test.YtndmlnoddnaafaaGreatDoorAsmX
import Derived.Test.YtndmlnoddnaafaaGreatDoorCame
namespace Go.Proofs.YtndmlnoddnaafaaGreatDoor
open Go.RowKit Go.BigFrame Go.Shelf Go.Maps Go.ChangeShapes Go.WideShapes Go.ChangeAt

theorem print_over (a : Option Addr) (cap n : Nat) (w : World) (hn : 1024 < n) : Calls Tryz.prog 10 #[.slice a n cap] w fun e w' => e = .returned (.tuple #[.string ⟨#[]⟩, .int .i64 2]) ∧ w = w' := by
  have d1 : decide (1024 < (n : Int)) = true := decide_eq_true (by omega)
  go_enter Tryz.func10, Tryz.ntmps10
  go_wp2_with fail
  exact bodyPost_ret (results_tmp2 rfl _ _ _) rfl ⟨rfl, rfl⟩

set_option maxRecDepth 100000 in
set_option maxHeartbeats 4000000 in
theorem aback_any (a : Option Addr) (cap : Nat) (l : List In) {w : World} (h : Std w) (hr : RowsIn w a 5 In.cells l) (hok : ∀ i ∈ l, i.Ok) : Calls Tryz.prog 5 #[.slice a l.length cap] w fun e w' => e = .returned (.bool true) ∧ Below w.heap.size w w' := by
  have hal := alive_any h
  have Hal := Lib.hid hal; clear hal
  by_cases hl : 1024 < l.length
  · have d1 : decide (1024 < (l.length : Int)) = true := decide_eq_true (by omega)
    go_enter Tryz.func5, Tryz.ntmps5
    go_wp2_with fail
    refine Hal.out.mono ?_
    rintro e w2 ⟨rfl, hb2⟩
    have Hb2 := Lib.hid hb2; clear hb2
    go_wp2_with fail
    refine (print_over a cap l.length w2 hl).mono ?_
    rintro e w3 ⟨rfl, rfl⟩
    go_wp2_with fail
    exact bodyPost_ret (results_tmp rfl _ _ _) rfl ⟨rfl, Hb2.out⟩
  · have hl2 : l.length ≤ 1024 := by omega
    obtain ⟨hc, he⟩ := print_read hl2 hok
    have hplen := print_len hok hl2 (l.length + 1) (Nat.le_refl _)
    have hpl : (printP l).length ≤ 400000 := by unfold printP; omega
    have H := Lib.hid h; clear h
    have Hr := Lib.hid hr; clear hr
    have Hok := Lib.hid hok; clear hok
    have Hce := Lib.hid (And.intro hc (And.intro he hpl)); clear hc he hpl hplen
    go_enter Tryz.func5, Tryz.ntmps5
    go_wp2_with fail
    refine Hal.out.mono ?_
    rintro e w2 ⟨rfl, hb2⟩
    have Hb2 := Lib.hid hb2; clear hb2
    go_wp2_with fail
    refine (print_any a cap l (H.out.below Hb2.out).p (Hr.out.below Hb2.out) Hok.out hl2).mono ?_
    rintro e w3 ⟨rfl, hb3⟩
    have Hb3 := Lib.hid (Hb2.out.trans (hb3.mono Hb2.out.size)); clear hb3 Hb2
    go_wp2_with fail
    refine (asm_any (printP l) (by have := Hce.out.2.2; omega) (H.out.below Hb3.out)).mono ?_
    rintro e w4 ⟨cv, ⟨rfl, hcr⟩, hb4⟩
    have Hb4 := Lib.hid (Hb3.out.trans (hb4.mono Hb3.out.size)); clear hb4 Hb3
    have hasm : asmC (printP l) = l := by unfold asmC; rw [if_pos Hce.out.2.1]; exact Hce.out.1
    rw [hasm] at hcr
    unfold asmE
    rw [Hce.out.2.1, if_pos rfl]
    obtain ⟨a2, c2, rfl⟩ := row_form hcr
    have hsm := same_yes a a2 cap c2 l w4 (Hr.out.below Hb4.out) (rows_all hcr) (by omega)
    have Hsm := Lib.hid hsm; clear hsm hcr hasm
    generalize printP l = tx at *
    go_wp2_with fail
    refine Hsm.out.mono ?_
    rintro e w5 ⟨rfl, hb5⟩
    have Hb5 := Lib.hid (Hb4.out.trans (hb5.mono Hb4.out.size)); clear hb5
    go_wp2_with fail
    exact bodyPost_ret (results_tmp rfl _ _ _) rfl ⟨rfl, Hb5.out⟩

/-- Instructions that came in. -/
def instrKinds5 : List CK := [⟨0, .i64⟩, ⟨0, .i64⟩, ⟨0, .i64⟩, ⟨0, .i64⟩, ⟨0, .i64⟩]
theorem instr_mk5 (vs : List Value) (h : Fit instrKinds5 vs) : ∃ x : In, x.cells = vs ∧ x.Ok := by
  have h1 := h.1
  have h2 := h.2
  match vs, h1 with
  | [c0, c1, c2, c3, c4], _ =>
    obtain ⟨x0, rfl, w0⟩ := h2 0 _ _ rfl rfl
    obtain ⟨x1, rfl, w1⟩ := h2 1 _ _ rfl rfl
    obtain ⟨x2, rfl, w2⟩ := h2 2 _ _ rfl rfl
    obtain ⟨x3, rfl, w3⟩ := h2 3 _ _ rfl rfl
    obtain ⟨x4, rfl, w4⟩ := h2 4 _ _ rfl rfl
    have g : ∀ z, (Lit.int .i64 z).wf = true → I64 z := fun z h => by simp [Lit.wf, IntKind.min, IntKind.max, IntKind.signed, IntKind.bits] at h; unfold I64; omega
    exact ⟨⟨x0, x1, x2, x3, x4⟩, rfl, g _ w0, g _ w1, g _ w2, g _ w3, g _ w4⟩
theorem aback_in (a : Option Addr) (len cap : Nat) (w : World) (hx : Came w a len instrKinds5) (h : Std w) : Calls Tryz.prog 5 #[.slice a len cap] w fun e w' => e = .returned (.bool true) ∧ Below w.heap.size w w' := by
  obtain ⟨l, rfl, hr, hok⟩ := rows_in (Pr := In.Ok) hx (by simp [instrKinds5]) instr_mk5
  exact aback_any a cap l h hr hok

end Go.Proofs.YtndmlnoddnaafaaGreatDoor
