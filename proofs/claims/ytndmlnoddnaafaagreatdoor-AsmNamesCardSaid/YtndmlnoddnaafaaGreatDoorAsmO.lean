/- AsmNames: the walk. Conditions: those stated in each theorem. -/
import Derived.Test.YtndmlnoddnaafaaGreatDoorAsmV
namespace Go.Proofs.YtndmlnoddnaafaaGreatDoor
open Go.RowKit Go.BigFrame Go.Shelf Go.Maps

def ex1 : By := [106, 117, 109, 112, 32, 101, 110, 100, 10, 120, 58]
def ex2 : By := [106, 117, 109, 112, 32, 111, 117, 116, 10, 104, 97, 108, 116, 10, 111, 117, 116, 58]
def ex3 : By := [97, 58, 10, 97, 58]
def ex4 : By := [109, 111, 118, 32, 49]
def ex6 : By := [10, 32, 59, 32, 110, 111, 10, 120, 95, 49, 58, 10, 9, 104, 97, 108, 116, 32, 10, 121, 58]
def ex7 : By := [106, 117, 109, 112, 32, 108, 97, 116, 101, 114, 10, 104, 97, 108, 116, 32, 49]
def ex8 : By := [114, 97, 119, 32, 49, 51, 32, 48, 32, 48, 32, 48, 32, 120, 10, 120, 58]
theorem rd1 : (readP ex1).2 = 1 := by decide +kernel
theorem rd2 : (readP ex2).2 = 0 ∧ (readP ex2).1.code = [⟨13, 0, 0, 0, 2⟩, ⟨1, 0, 0, 0, 0⟩] := by decide +kernel
theorem rd3 : (readP ex3).2 = 2 := by decide +kernel
theorem rd4 : (readP ex4).2 = 1 := by decide +kernel
theorem rd6 : (readP ex6).2 = 0 ∧ (readP ex6).1.labels = [([120, 95, 49], 0), ([121], 1)] := by decide +kernel
theorem rd7 : (readP ex7).2 = 1 := by decide +kernel
theorem rd8 : (readP ex8).2 = 1 := by decide +kernel
theorem rd9 : (readP []).2 = 0 ∧ (readP []).1.code = [] := by decide +kernel
def exJ : List In := [⟨13, 0, 0, 0, 1⟩, ⟨1, 0, 0, 0, 0⟩]
theorem exJ_print : printP exJ = [106, 117, 109, 112, 32, 108, 49, 10, 108, 49, 58, 10, 104, 97, 108, 116, 10] := by decide +kernel
theorem exJ_ok : ∀ i ∈ exJ, i.Ok := by
  intro i hi
  simp only [exJ, List.mem_cons, List.not_mem_nil, or_false] at hi
  rcases hi with rfl | rfl <;> exact ⟨⟨by simp, by simp⟩, ⟨by simp, by simp⟩, ⟨by simp, by simp⟩, ⟨by simp, by simp⟩, ⟨by simp, by simp⟩⟩
/-- A text that is wrong. -/
theorem asm_bad {t : By} {n : Nat} (ht : t.length ≤ 800000) (h : (readP t).2 = n) (hn : n ≠ 0) {w : World} (hs : Std w) : Calls Tryz.prog 6 #[.string ⟨t.toArray⟩] w fun e w' => ∃ v, e = .returned (.tuple #[v, .int .i64 (n : Int), .int .i64 150]) ∧ Below w.heap.size w w' := by
  refine (asm_any t ht hs).mono ?_
  rintro e w' ⟨v, ⟨rfl, _⟩, hb⟩
  refine ⟨v, ?_, hb⟩
  unfold asmE; rw [h, if_neg hn]; rfl
@[local go_sem ↓ high] theorem lab_eq1 (w : World) : (Op.equalIn 10000 34 (.agg #[.string ⟨#[120, 95, 49]⟩, .int .i64 0]) (.agg #[.string ⟨#[120, 95, 49]⟩, .int .i64 0])).run Tryz.prog w = .ok true w := by kernel_rfl
@[local go_sem ↓ high] theorem lab_eq2 (w : World) : (Op.equalIn 10000 34 (.agg #[.string ⟨#[121]⟩, .int .i64 1]) (.agg #[.string ⟨#[121]⟩, .int .i64 1])).run Tryz.prog w = .ok true w := by kernel_rfl

set_option maxRecDepth 100000 in
set_option maxHeartbeats 4000000 in
theorem anames_any (w : World) (h : Std w) : Calls Tryz.prog 4 #[] w fun e w' => e = .returned (.bool true) ∧ Below w.heap.size w w' := by
  have H := Lib.hid h; clear h
  have HB := Lib.hid (Below.refl w.heap.size w)
  go_enter Tryz.func4, Tryz.ntmps4
  go_wp2_with fail
  refine (asm_bad (t := ex1) (by decide) rd1 (by decide) H.out).mono ?_
  rintro e w1 ⟨v1, rfl, hb⟩
  have HB1 := Lib.hid hb; clear hb HB
  go_wp2_with fail
  refine (asm_any ex2 (by decide) (H.out.below HB1.out)).mono ?_
  rintro e w2 ⟨v2, ⟨rfl, hr2⟩, hb⟩
  have HB2 := Lib.hid (HB1.out.trans (hb.mono HB1.out.size)); clear hb HB1
  unfold asmC at hr2
  unfold asmE
  rw [rd2.1, if_pos rfl, rd2.2] at hr2
  rw [rd2.1, if_pos rfl]
  rcases owns_form hr2 with ⟨_, h0, _⟩ | ⟨g2, cap2, rfl, hg2⟩
  · cases h0
  have Hr2 := Lib.hid hr2; clear hr2 hg2
  have hs2 := (owns_lt Hr2.out (g := g2) rfl).2
  go_wp2_with fail
  refine (asm_bad (t := ex3) (by decide) rd3 (by decide) (H.out.below HB2.out)).mono ?_
  rintro e w3 ⟨v3, rfl, hb⟩
  have HB3 := Lib.hid (HB2.out.trans (hb.mono HB2.out.size))
  have HK3 := Lib.hid hb; clear hb HB2
  go_wp2_with fail
  refine (asm_bad (t := ex4) (by decide) rd4 (by decide) (H.out.below HB3.out)).mono ?_
  rintro e w4 ⟨v4, rfl, hb⟩
  have HB4 := Lib.hid (HB3.out.trans (hb.mono HB3.out.size))
  have HK4 := Lib.hid (HK3.out.trans (hb.mono HK3.out.size)); clear hb HB3 HK3
  go_wp2_with fail
  have hbx : Below w4.heap.size w4 (w4.alloc (.cells (flatA exJ).toArray 40)) := (Below.refl _ w4).alloc (Nat.le_refl _) _
  have hhx : Holds (w4.alloc (.cells (flatA exJ).toArray 40)) w4.heap.size 40 (flatA exJ) := Holds.new w4 40 (flatA exJ)
  have hrx : RowsIn (w4.alloc (.cells (flatA exJ).toArray 40)) (some ⟨w4.heap.size, 0, none⟩) 5 In.cells exJ := .inr ⟨_, 0, rfl, hhx.lt, fun k x hx j v hj => by rw [Nat.zero_add]; exact hhx.cell (flatA_at exJ k x hx j v hj)⟩
  have hpr := print_any (some ⟨w4.heap.size, 0, none⟩) 2 exJ (H.out.below (HB4.out.trans (hbx.mono HB4.out.size))).p hrx exJ_ok (by decide)
  rw [exJ_print] at hpr
  refine Calls.mono hpr ?_
  rintro e w5 ⟨rfl, hb⟩
  have hb := hbx.trans (hb.mono hbx.size)
  have HB5 := Lib.hid (HB4.out.trans (hb.mono HB4.out.size))
  have HK5 := Lib.hid (HK4.out.trans (hb.mono HK4.out.size)); clear hb HB4 HK4 hpr hrx hhx hbx
  go_wp2_with fail
  refine (labels_any ex6 (by decide) (H.out.below HB5.out)).mono ?_
  rintro e w6 ⟨v6, ⟨rfl, hr6⟩, hb⟩
  have HB6 := Lib.hid (HB5.out.trans (hb.mono HB5.out.size))
  have HK6 := Lib.hid (HK5.out.trans (hb.mono HK5.out.size)); clear hb HB5 HK5
  unfold asmB at hr6
  unfold asmE
  rw [rd6.1, if_pos rfl, rd6.2] at hr6
  rw [rd6.1, if_pos rfl]
  rcases owns_form hr6 with ⟨_, h0, _⟩ | ⟨g6, cap6, rfl, hg6⟩
  · cases h0
  have Hr6 := Lib.hid hr6; clear hr6 hg6
  go_wp2_with fail
  refine (asm_bad (t := ex7) (by decide) rd7 (by decide) (H.out.below HB6.out)).mono ?_
  rintro e w7 ⟨v7, rfl, hb⟩
  have HB7 := Lib.hid (HB6.out.trans (hb.mono HB6.out.size))
  have HK7 := Lib.hid (HK6.out.trans (hb.mono HK6.out.size))
  have HM7 := Lib.hid hb; clear hb HB6 HK6
  go_wp2_with fail
  refine (asm_bad (t := ex8) (by decide) rd8 (by decide) (H.out.below HB7.out)).mono ?_
  rintro e w8 ⟨v8, rfl, hb⟩
  have HB8 := Lib.hid (HB7.out.trans (hb.mono HB7.out.size))
  have HK8 := Lib.hid (HK7.out.trans (hb.mono HK7.out.size))
  have HM8 := Lib.hid (HM7.out.trans (hb.mono HM7.out.size)); clear hb HB7 HK7 HM7
  go_wp2_with fail
  refine (asm_any [] (by decide) (H.out.below HB8.out)).mono ?_
  rintro e w9 ⟨v9, ⟨rfl, hr9⟩, hb⟩
  have HB9 := Lib.hid (HB8.out.trans (hb.mono HB8.out.size))
  have HK9 := Lib.hid (HK8.out.trans (hb.mono HK8.out.size))
  have HM9 := Lib.hid (HM8.out.trans (hb.mono HM8.out.size)); clear hb HB8 HK8 HM8
  unfold asmC at hr9
  unfold asmE
  rw [rd9.1, if_pos rfl, rd9.2] at hr9
  rw [rd9.1, if_pos rfl]
  obtain ⟨a9, c9, rfl⟩ := row_form hr9
  clear hr9
  have hr2' := owns_same Hr2.out (w' := w9) (fun g e => HK9.out.block g (owns_lt Hr2.out e).2)
  have hr6' := owns_same Hr6.out (w' := w9) (fun g e => HM9.out.block g (owns_lt Hr6.out e).2)
  have x4 := (owns_cell hr2' (g := g2) rfl (j := 4) (u := .int .i64 2) rfl).1
  have y0 := (owns_cell hr6' (g := g6) rfl (j := 0) (u := .string ⟨#[120, 95, 49]⟩) rfl).1
  have y1 := (owns_cell hr6' (g := g6) rfl (j := 1) (u := .int .i64 0) rfl).1
  have y2 := (owns_cell hr6' (g := g6) rfl (j := 2) (u := .string ⟨#[121]⟩) rfl).1
  have y3 := (owns_cell hr6' (g := g6) rfl (j := 3) (u := .int .i64 1) rfl).1
  have hal := alive_any (H.out.below HB9.out)
  have Hal := Lib.hid hal; clear hal hr2' hr6' Hr2 Hr6 HK9 HM9 hs2
  go_wp2_with fail
  refine Hal.out.mono ?_
  rintro e w10 ⟨rfl, hb⟩
  have HBz := Lib.hid (HB9.out.trans (hb.mono HB9.out.size)); clear hb
  go_wp2_with fail
  exact bodyPost_ret (results_tmp rfl _ _ _) rfl ⟨rfl, HBz.out⟩

end Go.Proofs.YtndmlnoddnaafaaGreatDoor
