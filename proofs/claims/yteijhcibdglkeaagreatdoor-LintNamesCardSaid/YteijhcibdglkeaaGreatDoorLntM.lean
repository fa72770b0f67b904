/- LintNames: the walk. Conditions: those stated in each theorem. -/
import Derived.Test.YteijhcibdglkeaaGreatDoorLntL
namespace Go.Proofs.YteijhcibdglkeaaGreatDoor
open Go.RowKit Go.BigFrame Go.Shelf Go.Maps

def tx0 : By := [101, 110, 100]
theorem fx0 : Fine tx0 [⟨18,0,0,0,0⟩] [(2, 0)] := by decide +kernel
def tx1 : By := [98, 101, 103, 105, 110, 10, 104, 97, 108, 116]
theorem fx1 : Fine tx1 [⟨17,0,0,0,0⟩, ⟨1,0,0,0,0⟩] [(4, 1)] := by decide +kernel
def tx2 : By := [106, 117, 109, 112, 32, 50, 48, 48, 48]
theorem fx2 : Fine tx2 [⟨13,0,0,0,2000⟩] [(6, 0)] := by decide +kernel
def tx3 : By := [98, 101, 103, 105, 110, 10, 115, 101, 116, 32, 48, 32, 48]
theorem fx3 : Fine tx3 [⟨17,0,0,0,0⟩, ⟨2,0,0,0,0⟩] [(5, 1)] := by decide +kernel
def tx4 : By := [101, 113, 32, 48, 32, 48, 32, 50, 10, 114, 97, 119, 32, 49, 57, 32, 48, 32, 48, 32, 48, 32, 48, 10, 104, 97, 108, 116]
theorem fx4 : Fine tx4 [⟨14,0,0,0,2⟩, ⟨19,0,0,0,0⟩, ⟨1,0,0,0,0⟩] [(1, 1), (7, 0)] := by decide +kernel
def tx5 : By := [106, 117, 109, 112, 32, 50, 10, 104, 97, 108, 116, 10, 104, 97, 108, 116]
theorem fx5 : Fine tx5 [⟨13,0,0,0,2⟩, ⟨1,0,0,0,0⟩, ⟨1,0,0,0,0⟩] [(8, 1)] := by decide +kernel
def tx6 : By := []
theorem fx6 : Fine tx6 [] [] := by decide +kernel
def tx7 : By := [98, 101, 103, 105, 110]
theorem fx7 : Fine tx7 [⟨17,0,0,0,0⟩] [(5, 0)] := by decide +kernel
def tx8 : By := [98, 101, 103, 105, 110, 10, 106, 117, 109, 112, 32, 49, 48, 50, 52]
theorem fx8 : Fine tx8 [⟨17,0,0,0,0⟩, ⟨13,0,0,0,1024⟩] [(5, 1)] := by decide +kernel
def tx9 : By := [106, 117, 109, 112, 32, 49, 48, 50, 52]
theorem fx9 : Fine tx9 [⟨13,0,0,0,1024⟩] [] := by decide +kernel
def tx10 : By := [106, 117, 109, 112, 32, 45, 49]
theorem fx10 : Fine tx10 [⟨13,0,0,0,-1⟩] [(6, 0)] := by decide +kernel
def tx11 : By := [115, 101, 116, 32, 49, 32, 48, 10, 108, 111, 111, 112, 58, 10, 97, 100, 100, 32, 49, 32, 49, 32, 49, 10, 108, 116, 32, 49, 32, 50, 32, 108, 111, 111, 112]
theorem fx11 : Fine tx11 [⟨2,1,0,0,0⟩, ⟨4,1,1,1,0⟩, ⟨16,1,2,0,1⟩] [(7, 2)] := by decide +kernel
def tx12 : By := [101, 113, 32, 51, 32, 51, 32, 51, 10, 115, 101, 116, 32, 49, 32, 49, 10, 115, 101, 116, 32, 50, 32, 50, 10, 97, 100, 100, 32, 48, 32, 49, 32, 50]
theorem fx12 : Fine tx12 [⟨14,3,3,0,3⟩, ⟨2,1,0,0,1⟩, ⟨2,2,0,0,2⟩, ⟨4,0,1,2,0⟩] [(7, 0), (7, 3)] := by decide +kernel

theorem info1025 : (Tryz.prog.info? 43).map (fun i => (i.zero, i.size, i.bytes)) = some (some (.agg #[.int .i64 0, .int .i64 0, .int .i64 0, .int .i64 0, .int .i64 0]), 5, 40) := by kernel_rfl
theorem make1025 : ∃ cs : Array Value, ∀ w : World, (Instr.makeSlice 31 (.int .i64 1025) (.int .i64 1025)).run Tryz.prog w = .ok (.slice (some ⟨w.heap.size, 0, none⟩) 1025 1025) (w.alloc (.cells cs 43)) := by
  have hi := info1025
  cases e : Tryz.prog.info? 43 with
  | none => rw [e] at hi; simp at hi
  | some i0 =>
    rw [e] at hi
    simp only [Option.map_some, Option.some.injEq, Prod.mk.injEq] at hi
    have h := fun w => run_makeSlice (P := Tryz.prog) w 31 43 i0 _ Tryz.underlying31 e hi.1 .i64 .i64 1025 1025 (by decide) (by decide) (by rw [hi.2.1]; decide) (by rw [hi.2.2]; decide) (by decide)
    exact ⟨_, fun w => h w⟩
theorem flatFd_at : ∀ (L : List (Int × Int)) (k : Nat) (x : Int × Int), L[k]? = some x → ∀ (j : Nat) (v : Value), (fdC x)[j]? = some v → (L.flatMap fdC)[k * 2 + j]? = some v
  | [], _, _, h, _, _, _ => by simp at h
  | y :: r, 0, x, h, j, v, hj => by
    simp at h; subst h
    have hlt : j < (fdC y).length := (List.getElem?_eq_some_iff.1 hj).1
    rw [List.flatMap_cons, Nat.zero_mul, Nat.zero_add, List.getElem?_append_left hlt]; exact hj
  | y :: r, k + 1, x, h, j, v, hj => by
    have := flatFd_at r k x (by simpa using h) j v hj
    rw [List.flatMap_cons, List.getElem?_append_right (by simp [fdC]; omega)]
    rw [← this]; congr 1; simp [fdC]; omega
theorem row_found (w : World) (L : List (Int × Int)) (cs : Array Value) (ty : TypeId) (hcs : cs.toList = L.flatMap fdC) : RowsIn (w.alloc (.cells cs ty)) (some ⟨w.heap.size, 0, none⟩) 2 fdC L := by
  have H := Holds.new w ty cs.toList
  simp only [Array.toArray_toList] at H
  refine .inr ⟨_, 0, rfl, H.lt, fun k x hx j v hj => ?_⟩
  rw [Nat.zero_add]
  exact H.cell (by rw [hcs]; exact flatFd_at L k x hx j v hj)

set_option maxRecDepth 100000 in
set_option maxHeartbeats 4000000 in
theorem lnames_any (w : World) (h : StdN w) : Calls Tryz.prog 3 #[] w fun e w' => e = .returned (.bool true) ∧ Below w.heap.size w w' := by
  have h0 : ∀ V : World, Below w.heap.size w V → _ := fun V hb => told_new fx0 (h.below hb) 9 1 #[.string ⟨#[101, 110, 100, 32, 97, 116, 32, 48]⟩] [[101, 110, 100, 32, 97, 116, 32, 48]] (by decide +kernel) rfl
  have h1 : ∀ V : World, Below w.heap.size w V → _ := fun V hb => told_new fx1 (h.below hb) 9 1 #[.string ⟨#[104, 97, 108, 116, 32, 97, 116, 32, 49]⟩] [[104, 97, 108, 116, 32, 97, 116, 32, 49]] (by decide +kernel) rfl
  have h2 : ∀ V : World, Below w.heap.size w V → _ := fun V hb => told_new fx2 (h.below hb) 9 1 #[.string ⟨#[103, 111, 101, 115, 32, 97, 116, 32, 48]⟩] [[103, 111, 101, 115, 32, 97, 116, 32, 48]] (by decide +kernel) rfl
  have h3 : ∀ V : World, Below w.heap.size w V → _ := fun V hb => told_new fx3 (h.below hb) 9 1 #[.string ⟨#[111, 117, 116, 32, 97, 116, 32, 49]⟩] [[111, 117, 116, 32, 97, 116, 32, 49]] (by decide +kernel) rfl
  have h4 : ∀ V : World, Below w.heap.size w V → _ := fun V hb => told_new fx4 (h.below hb) 9 2 #[.string ⟨#[105, 108, 108, 101, 103, 97, 108, 32, 97, 116, 32, 49]⟩, .string ⟨#[117, 110, 115, 101, 116, 32, 97, 116, 32, 48]⟩] [[105, 108, 108, 101, 103, 97, 108, 32, 97, 116, 32, 49], [117, 110, 115, 101, 116, 32, 97, 116, 32, 48]] (by decide +kernel) rfl
  have h5 : ∀ V : World, Below w.heap.size w V → _ := fun V hb => told_new fx5 (h.below hb) 9 1 #[.string ⟨#[110, 101, 118, 101, 114, 32, 97, 116, 32, 49]⟩] [[110, 101, 118, 101, 114, 32, 97, 116, 32, 49]] (by decide +kernel) rfl
  have h6 : ∀ V : World, Below w.heap.size w V → _ := fun V hb => told_fine fx6 none 0 (h.below hb) (.inl rfl)
  have h7 : ∀ V : World, Below w.heap.size w V → _ := fun V hb => told_new fx7 (h.below hb) 9 1 #[.string ⟨#[111, 117, 116, 32, 97, 116, 32, 48]⟩] [[111, 117, 116, 32, 97, 116, 32, 48]] (by decide +kernel) rfl
  have h8 : ∀ V : World, Below w.heap.size w V → _ := fun V hb => told_new fx8 (h.below hb) 9 1 #[.string ⟨#[111, 117, 116, 32, 97, 116, 32, 49]⟩] [[111, 117, 116, 32, 97, 116, 32, 49]] (by decide +kernel) rfl
  have h9 : ∀ V : World, Below w.heap.size w V → _ := fun V hb => told_fine fx9 none 0 (h.below hb) (.inl rfl)
  have h10 : ∀ V : World, Below w.heap.size w V → _ := fun V hb => told_new fx10 (h.below hb) 9 1 #[.string ⟨#[103, 111, 101, 115, 32, 97, 116, 32, 48]⟩] [[103, 111, 101, 115, 32, 97, 116, 32, 48]] (by decide +kernel) rfl
  have h11 : ∀ V : World, Below w.heap.size w V → _ := fun V hb => told_new fx11 (h.below hb) 9 1 #[.string ⟨#[117, 110, 115, 101, 116, 32, 97, 116, 32, 50]⟩] [[117, 110, 115, 101, 116, 32, 97, 116, 32, 50]] (by decide +kernel) rfl
  have h12 : ∀ V : World, Below w.heap.size w V → _ := fun V hb => told_new fx12 (h.below hb) 9 2 #[.string ⟨#[117, 110, 115, 101, 116, 32, 97, 116, 32, 48]⟩, .string ⟨#[117, 110, 115, 101, 116, 32, 97, 116, 32, 51]⟩] [[117, 110, 115, 101, 116, 32, 97, 116, 32, 48], [117, 110, 115, 101, 116, 32, 97, 116, 32, 51]] (by decide +kernel) rfl
  have ha : ∀ V : World, Below w.heap.size w V → _ := fun V hb => alive_lint (h.below hb)
  have t0 : ∀ V : World, Below w.heap.size w V → _ := fun V hb => text_lint 0 0 ⟨by decide, by decide⟩ (by decide +kernel) V ((h.below hb).line)
  have t1 : ∀ V : World, Below w.heap.size w V → _ := fun V hb => text_lint 9 (-3) ⟨by decide, by decide⟩ (by decide +kernel) V ((h.below hb).line)
  have e0 : (textF 0 0).toArray = #[110, 111, 110, 101, 32, 97, 116, 32, 48] := by rw [show textF 0 0 = [110, 111, 110, 101, 32, 97, 116, 32, 48] by decide +kernel]
  have e1 : (textF 9 (-3)).toArray = #[110, 111, 110, 101, 32, 97, 116, 32, 45, 51] := by rw [show textF 9 (-3) = [110, 111, 110, 101, 32, 97, 116, 32, 45, 51] by decide +kernel]
  simp only [e0, e1] at t0 t1; clear e0 e1
  have k0 : ∀ V : World, Below w.heap.size w V → _ := fun V hb => clean_any none 0 [] V (.inl rfl) (by decide)
  have k1 : ∀ V : World, Below w.heap.size w V → _ := fun V hb => clean_any (some ⟨V.heap.size, 0, none⟩) 2 [(7, 0), (8, 0)] _ (row_found V _ #[.int .i64 7, .int .i64 0, .int .i64 8, .int .i64 0] 25 rfl) (by decide)
  have k2 : ∀ V : World, Below w.heap.size w V → _ := fun V hb => clean_any (some ⟨V.heap.size, 0, none⟩) 1 [(6, 0)] _ (row_found V _ #[.int .i64 6, .int .i64 0] 25 rfl) (by decide)
  have H0 := Lib.hid h0
  have H1 := Lib.hid h1
  have H2 := Lib.hid h2
  have H3 := Lib.hid h3
  have H4 := Lib.hid h4
  have H5 := Lib.hid h5
  have H6 := Lib.hid h6
  have H7 := Lib.hid h7
  have H8 := Lib.hid h8
  have H9 := Lib.hid h9
  have H10 := Lib.hid h10
  have H11 := Lib.hid h11
  have H12 := Lib.hid h12
  have HA := Lib.hid ha
  have T0 := Lib.hid t0
  have T1 := Lib.hid t1
  have K0 := Lib.hid k0
  have K1 := Lib.hid k1
  have K2 := Lib.hid k2
  clear h0 h1 h2 h3 h4 h5 h6 h7 h8 h9 h10 h11 h12 ha t0 t1 k0 k1 k2 h
  have HB := Lib.hid (Below.refl w.heap.size w)
  obtain ⟨cs, hmk⟩ := make1025
  go_enter Tryz.func3, Tryz.ntmps3
  go_wp2_with fail
  refine (H0.out _ HB.out).mono ?_
  rintro e w2 ⟨rfl, hb⟩
  replace HB := Lib.hid (HB.out.trans (hb.mono HB.out.size)); clear hb
  go_wp2_with fail
  refine (H1.out _ HB.out).mono ?_
  rintro e w2 ⟨rfl, hb⟩
  replace HB := Lib.hid (HB.out.trans (hb.mono HB.out.size)); clear hb
  go_wp2_with fail
  refine (H2.out _ HB.out).mono ?_
  rintro e w2 ⟨rfl, hb⟩
  replace HB := Lib.hid (HB.out.trans (hb.mono HB.out.size)); clear hb
  go_wp2_with fail
  refine (H3.out _ HB.out).mono ?_
  rintro e w2 ⟨rfl, hb⟩
  replace HB := Lib.hid (HB.out.trans (hb.mono HB.out.size)); clear hb
  go_wp2_with fail
  refine (H4.out _ HB.out).mono ?_
  rintro e w2 ⟨rfl, hb⟩
  replace HB := Lib.hid (HB.out.trans (hb.mono HB.out.size)); clear hb
  go_wp2_with fail
  refine (H5.out _ HB.out).mono ?_
  rintro e w2 ⟨rfl, hb⟩
  replace HB := Lib.hid (HB.out.trans (hb.mono HB.out.size)); clear hb
  go_wp2_with fail
  refine (H6.out _ HB.out).mono ?_
  rintro e w2 ⟨rfl, hb⟩
  replace HB := Lib.hid (HB.out.trans (hb.mono HB.out.size)); clear hb
  go_wp2_with fail
  refine (H7.out _ HB.out).mono ?_
  rintro e w2 ⟨rfl, hb⟩
  replace HB := Lib.hid (HB.out.trans (hb.mono HB.out.size)); clear hb
  go_wp2_with fail
  refine (H8.out _ HB.out).mono ?_
  rintro e w2 ⟨rfl, hb⟩
  replace HB := Lib.hid (HB.out.trans (hb.mono HB.out.size)); clear hb
  go_wp2_with fail
  refine (H9.out _ HB.out).mono ?_
  rintro e w2 ⟨rfl, hb⟩
  replace HB := Lib.hid (HB.out.trans (hb.mono HB.out.size)); clear hb
  go_wp2_with fail
  refine (H10.out _ HB.out).mono ?_
  rintro e w2 ⟨rfl, hb⟩
  replace HB := Lib.hid (HB.out.trans (hb.mono HB.out.size)); clear hb
  go_wp2_with fail
  refine (H11.out _ HB.out).mono ?_
  rintro e w2 ⟨rfl, hb⟩
  replace HB := Lib.hid (HB.out.trans (hb.mono HB.out.size)); clear hb
  go_wp2_with fail
  refine (H12.out _ HB.out).mono ?_
  rintro e w2 ⟨rfl, hb⟩
  replace HB := Lib.hid (HB.out.trans (hb.mono HB.out.size)); clear hb
  go_wp2_with fail
  refine (T0.out _ HB.out).mono ?_
  rintro e w2 ⟨rfl, hb⟩
  replace HB := Lib.hid (HB.out.trans (hb.mono HB.out.size)); clear hb
  go_wp2_with fail
  refine (T1.out _ HB.out).mono ?_
  rintro e w2 ⟨rfl, hb⟩
  replace HB := Lib.hid (HB.out.trans (hb.mono HB.out.size)); clear hb
  go_wp2_with fail
  refine (K0.out _ HB.out).mono ?_
  rintro e w2 ⟨rfl, hb⟩
  replace HB := Lib.hid (HB.out.trans (hb.mono HB.out.size)); clear hb
  go_wp2_with fail
  refine (K1.out _ HB.out).mono ?_
  rintro e w2 ⟨rfl, hb⟩
  replace HB := Lib.hid ((HB.out.alloc HB.out.size _).trans (hb.mono (HB.out.alloc HB.out.size _).size)); clear hb
  go_wp2_with fail
  refine (K2.out _ HB.out).mono ?_
  rintro e w2 ⟨rfl, hb⟩
  replace HB := Lib.hid ((HB.out.alloc HB.out.size _).trans (hb.mono (HB.out.alloc HB.out.size _).size)); clear hb
  go_wp2_with fail
  have hl : Below w2.heap.size w2 (w2.alloc (.cells cs 43)) := (Below.refl _ w2).alloc (Nat.le_refl _) _
  refine (look_long (some ⟨w2.heap.size, 0, none⟩) 1025 1025 _ (by decide)).mono ?_
  rintro e w3 ⟨rfl, rfl⟩
  replace HB := Lib.hid (HB.out.trans (hl.mono HB.out.size)); clear hl
  go_wp2_with fail
  refine (HA.out _ HB.out).mono ?_
  rintro e w4 ⟨rfl, hb⟩
  replace HB := Lib.hid (HB.out.trans (hb.mono HB.out.size)); clear hb
  go_wp2_with fail
  go_ret
  exact ⟨rfl, HB.out⟩
end Go.Proofs.YteijhcibdglkeaaGreatDoor
