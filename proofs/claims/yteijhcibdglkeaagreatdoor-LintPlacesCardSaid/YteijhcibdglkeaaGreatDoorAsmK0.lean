/- Assemble, Labels; the chapter's first example. Conditions: those stated in each theorem. -/
import Derived.Test.YteijhcibdglkeaaGreatDoorAsmJ
namespace Go.Proofs.YteijhcibdglkeaaGreatDoor
open Go.RowKit Go.BigFrame Go.Shelf Go.Maps

/-- What Assemble and Labels answer. -/
def asmC (tx : By) : List In := if (readP tx).2 = 0 then (readP tx).1.code else []
def asmE (tx : By) : Nat := if (readP tx).2 = 0 then 0 else 150
def AsmO (tx : By) (w : World) (e : Ending) (w' : World) : Prop := ∃ v, (e = .returned (.tuple #[v, .int .i64 (readP tx).2, .int .i64 (asmE tx)]) ∧ w'.ownsRow w.heap.size 43 5 v (asmC tx).length (flatA (asmC tx))) ∧ Below w.heap.size w w'
theorem owns_none (w : World) (lo : Nat) (e : TypeId) (size : Nat) : w.ownsRow lo e size (.slice none 0 0) 0 [] := ⟨by simp, .inl ⟨rfl, rfl⟩⟩

set_option maxRecDepth 100000 in
set_option maxHeartbeats 2000000 in
theorem asm_any (tx : By) (htx : tx.length ≤ 800000) {w : World} (h : Std w) : Calls Tryz.prog 17 #[.string ⟨tx.toArray⟩] w (AsmO tx w) := by
  have hr := read_any tx htx h
  have Hr := Lib.hid hr; clear hr
  clear h
  go_enter Tryz.func17, Tryz.ntmps17
  go_wp2_with fail
  refine Hr.out.mono ?_
  rintro e w2 ⟨b, mb, ⟨rfl, hrd⟩, hb⟩
  obtain ⟨cv, lv, hrd⟩ := hrd
  have c1 := hrd.head.cell (i := 1) rfl
  have Hrd := Lib.hid hrd; clear hrd
  have Hb := Lib.hid hb; clear hb
  by_cases h0 : (readP tx).2 = 0
  · have H0 := Lib.hid h0
    rw [h0]
    clear h0
    go_wp2_with fail
    refine bodyPost_ret (results_tmp3 rfl _ _ _) rfl ⟨cv, ⟨?_, ?_⟩, Hb.out⟩
    · unfold asmE; rw [if_pos H0.out, H0.out]; rfl
    · unfold asmC; rw [if_pos H0.out]; exact Hrd.out.code
  · have e1 : (((readP tx).2 : Int) == 0) = false := by rw [beq_eq_false_iff_ne]; omega
    have H0 := Lib.hid h0; clear h0
    obtain ⟨k, hk⟩ : ∃ k, (readP tx).2 = k := ⟨_, rfl⟩
    rw [hk] at e1 ⊢
    have HK := Lib.hid hk; clear hk
    go_wp2_with fail
    refine bodyPost_ret (results_tmp3 rfl _ _ _) rfl ⟨.slice none 0 0, ⟨?_, ?_⟩, Hb.out⟩
    · unfold asmE; rw [if_neg H0.out, HK.out]; rfl
    · unfold asmC; rw [if_neg H0.out]; exact owns_none _ _ _ _

end Go.Proofs.YteijhcibdglkeaaGreatDoor
