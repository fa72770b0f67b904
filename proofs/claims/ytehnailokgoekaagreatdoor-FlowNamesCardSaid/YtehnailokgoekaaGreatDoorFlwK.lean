/- The chapter's program and its parts. Conditions: those stated in each theorem. -/
import Derived.Test.YtehnailokgoekaaGreatDoorFlwR
import Derived.Test.YtehnailokgoekaaGreatDoorAsmK0
namespace Go.Proofs.YtehnailokgoekaaGreatDoor
open Go.RowKit Go.BigFrame Go.Shelf Go.Maps

def fewT : By := [115, 101, 116, 32, 49, 32, 48, 10, 101, 113, 32, 49, 32, 50, 32, 52, 10, 115, 101, 116, 32, 49, 32, 49, 10, 106, 117, 109, 112, 32, 49, 10, 104, 97, 108, 116]
def fewL : List In := [⟨2, 1, 0, 0, 0⟩, ⟨14, 1, 2, 0, 4⟩, ⟨2, 1, 0, 0, 1⟩, ⟨13, 0, 0, 0, 1⟩, ⟨1, 0, 0, 0, 0⟩]
theorem few_read : (readP fewT).2 = 0 ∧ (readP fewT).1.code = fewL := by decide +kernel
def fewP : List Pt := [⟨0, 1, [1]⟩, ⟨1, 2, [2, 3]⟩, ⟨2, 4, [1]⟩, ⟨4, 5, []⟩]
theorem few_parts : partsP fewL = fewP := by decide +kernel
theorem few_ok : ∀ i ∈ fewL, I64 i.imm := by
  intro i hi
  simp only [fewL, List.mem_cons, List.not_mem_nil, or_false] at hi
  rcases hi with rfl | rfl | rfl | rfl | rfl <;> exact ⟨by decide, by decide⟩
theorem flatA_atF : ∀ (l : List In) (k : Nat) (x : In), l[k]? = some x → ∀ (j : Nat) (v : Value), x.cells[j]? = some v → (flatA l)[k * 5 + j]? = some v
  | [], _, _, h, _, _, _ => by simp at h
  | y :: r, 0, x, h, j, v, hj => by
    simp at h; subst h
    have hlt : j < y.cells.length := (List.getElem?_eq_some_iff.1 hj).1
    unfold flatA
    rw [List.flatMap_cons, Nat.zero_mul, Nat.zero_add, List.getElem?_append_left hlt]; exact hj
  | y :: r, k + 1, x, h, j, v, hj => by
    have := flatA_atF r k x (by simpa using h) j v hj
    unfold flatA at this ⊢
    rw [List.flatMap_cons, List.getElem?_append_right (by simp [In.cells]; omega)]
    rw [← this]; congr 1; simp [In.cells]; omega
theorem rows_few {w : World} {lo n cap : Nat} {ad : Option Addr} {l : List In} (h : w.ownsRow lo 51 5 (.slice ad n cap) l.length (flatA l)) : RowsIn w ad 5 In.cells l := by
  rcases owns_form h with ⟨_, h0, _⟩ | ⟨g, cap', e, _⟩
  · exact .inl (List.eq_nil_of_length_eq_zero h0)
  · cases e
    refine .inr ⟨g, 0, rfl, (owns_lt h rfl).2, fun k x hx j v hj => ?_⟩
    rw [Nat.zero_add]
    exact (owns_cell h (g := g) rfl (flatA_atF l k x hx j v hj)).1

set_option maxRecDepth 100000 in
theorem few_any {w : World} (h : Std w) : Calls Tryz.prog 8 #[] w fun e w' => ∃ g cap, e = .returned (.slice (some ⟨g, 0, none⟩) 5 cap) ∧ RowsIn w' (some ⟨g, 0, none⟩) 5 In.cells fewL ∧ Below w.heap.size w w' := by
  have HA := Lib.hid (asm_any fewT (by decide) h); clear h
  go_enter Tryz.func8, Tryz.ntmps8
  go_wp2_with fail
  refine HA.out.mono ?_
  rintro e w2 ⟨v2, ⟨rfl, hr2⟩, hb⟩
  unfold asmC at hr2
  unfold asmE
  rw [few_read.1, if_pos rfl, few_read.2] at hr2
  rw [few_read.1, if_pos rfl]
  rcases owns_form hr2 with ⟨_, h0, _⟩ | ⟨g2, cap2, rfl, hg2⟩
  · cases h0
  have Hr := Lib.hid (And.intro (rows_few hr2) hb); clear hr2 hb hg2
  go_wp2
  go_ret
  exact ⟨g2, cap2, rfl, Hr.out⟩

set_option maxRecDepth 100000 in
set_option maxHeartbeats 1000000 in
theorem alive_flow {w : World} (h : Std w) : Calls Tryz.prog 14 #[] w fun e w' => e = .returned (.bool true) ∧ Below w.heap.size w w' := by
  have HA := Lib.hid (few_any h)
  have HF := Lib.hid h.forms; clear h
  go_enter Tryz.func14, Tryz.ntmps14
  go_wp2_with fail
  refine HA.out.mono ?_
  rintro e w2 ⟨g0, cap0, rfl, hr, hb⟩
  have hP := parts_any (some ⟨g0, 0, none⟩) cap0 fewL (by decide) few_ok w2 (HF.out.below hb) hr
  rw [few_parts] at hP
  change Calls Tryz.prog 12 #[.slice (some ⟨g0, 0, none⟩) 5 cap0] w2 _ at hP
  have HP := Lib.hid hP; clear hP
  have HB := Lib.hid hb; clear hb hr
  go_wp2_with fail
  refine HP.out.mono ?_
  rintro e w3 ⟨v, rfl, h1, h2⟩
  obtain ⟨ad, vc, rfl, hs⟩ := h1.form
  obtain ⟨g, rfl⟩ := hs (by decide)
  obtain ⟨c0, c1, b1, m1, c2, h3⟩ := h1.part (k := 1) (p := ⟨1, 2, [2, 3]⟩) rfl
  obtain ⟨q, rfl, -, hq⟩ := h3 (by decide)
  have d0 := hq 0 2 rfl
  have d1 := hq 1 3 rfl
  obtain ⟨-, -, b3, m3, c3, -⟩ := h1.part (k := 3) (p := ⟨4, 5, []⟩) rfl
  have H2 := Lib.hid h2; clear h1 h2 hs h3 hq
  simp only [Nat.reduceMul, Nat.reduceAdd, List.length_cons, List.length_nil, fewP] at *
  go_wp2_with fail
  go_ret
  exact ⟨rfl, HB.out.trans (H2.out.mono HB.out.size)⟩

end Go.Proofs.YtehnailokgoekaaGreatDoor
