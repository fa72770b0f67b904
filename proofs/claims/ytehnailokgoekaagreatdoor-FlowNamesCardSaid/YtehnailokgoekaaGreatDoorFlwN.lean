/- FlowNames: what is refused, and what is told of the chapter's program. Conditions: those stated in each theorem. -/
import Derived.Test.YtehnailokgoekaaGreatDoorFlwL
import Derived.Test.YtehnailokgoekaaGreatDoorFlwX
namespace Go.Proofs.YtehnailokgoekaaGreatDoor
open Go.RowKit Go.BigFrame Go.Shelf

theorem reach_long (a : Option Addr) (n cap : Nat) (hn : 1024 < n) (w : World) : Calls Tryz.prog 7 #[.slice a n cap] w fun e w' => e = .returned (.tuple #[.slice none 0 0, .int .i64 2]) ∧ w' = w := by
  have HP := Lib.hid (parts_long a n cap hn w); clear hn
  go_enter Tryz.func7, Tryz.ntmps7
  go_wp2_with fail
  refine HP.out.mono ?_
  rintro e w2 ⟨rfl, rfl⟩
  go_wp2
  go_ret2
  exact ⟨rfl, rfl⟩
theorem doms_long (a : Option Addr) (n cap : Nat) (hn : 1024 < n) (w : World) : Calls Tryz.prog 10 #[.slice a n cap] w fun e w' => e = .returned (.tuple #[.slice none 0 0, .int .i64 2]) ∧ w' = w := by
  have HP := Lib.hid (parts_long a n cap hn w); clear hn
  go_enter Tryz.func10, Tryz.ntmps10
  go_wp2_with fail
  refine HP.out.mono ?_
  rintro e w2 ⟨rfl, rfl⟩
  go_wp2
  go_ret2
  exact ⟨rfl, rfl⟩
theorem loops_long (a : Option Addr) (n cap : Nat) (hn : 1024 < n) (w : World) : Calls Tryz.prog 11 #[.slice a n cap] w fun e w' => e = .returned (.tuple #[.slice none 0 0, .int .i64 2]) ∧ w' = w := by
  have HP := Lib.hid (parts_long a n cap hn w); clear hn
  go_enter Tryz.func11, Tryz.ntmps11
  go_wp2_with fail
  refine HP.out.mono ?_
  rintro e w2 ⟨rfl, rfl⟩
  go_wp2
  go_ret2
  exact ⟨rfl, rfl⟩

/-! ### The chapter's program -/
theorem few_nx (n : Nat) : nxOf fewP n = if n = 0 then [1] else if n = 1 then [2, 3] else if n = 2 then [1] else [] := by
  match n with
  | 0 => rfl | 1 => rfl | 2 => rfl | 3 => rfl
  | n + 4 => simp [nxOf, fewP]
theorem few_r0 {wo : Int} (h : wo ≠ 0) : Rch fewP wo 0 := .zero (by decide) h
theorem few_r1 {wo : Int} (h : wo ≠ 0) (h1 : wo ≠ 1) : Rch fewP wo 1 := .step (few_r0 h) (by rw [few_nx]; decide) (by omega)
theorem few_r3 {wo : Int} (h : wo ≠ 0) (h1 : wo ≠ 1) (h3 : wo ≠ 3) : Rch fewP wo 3 := .step (few_r1 h h1) (by rw [few_nx]; decide) (by omega)
theorem few_r2 {wo : Int} (h : wo ≠ 0) (h1 : wo ≠ 1) (h2 : wo ≠ 2) : Rch fewP wo 2 := .step (few_r1 h h1) (by rw [few_nx]; decide) (by omega)
theorem few_w1 {n : Nat} (h : Rch fewP 1 n) : n = 0 := by
  induction h with
  | zero _ _ => rfl
  | step _ hm hw ih =>
    subst ih
    rw [few_nx, if_pos rfl, List.mem_singleton] at hm
    subst hm
    exact absurd rfl hw
theorem few_w1' {n : Nat} (h : Rch fewP ((1 : Nat) : Int) n) : n = 0 := few_w1 h
theorem few_d : domD fewP 0 3 = true ∧ domD fewP 1 2 = true ∧ domD fewP 1 3 = true ∧ domD fewP 2 3 = false ∧ domD fewP 2 2 = true ∧ domD fewP 1 0 = false := by
  refine ⟨?_, ?_, ?_, ?_, ?_, ?_⟩
  · rw [dom_zero, rchD_iff]; exact few_r3 (by decide) (by decide) (by decide)
  · rw [domD_iff]; exact ⟨few_r2 (by decide) (by decide) (by decide), fun h => by have := few_w1' h; omega⟩
  · rw [domD_iff]; exact ⟨few_r3 (by decide) (by decide) (by decide), fun h => by have := few_w1' h; omega⟩
  · cases h : domD fewP 2 3 with
    | false => rfl
    | true => rw [domD_iff] at h; exact absurd (few_r3 (by decide) (by decide) (by decide)) h.2
  · rw [dom_self, rchD_iff]; exact few_r2 (by decide) (by decide) (by decide)
  · cases h : domD fewP 1 0 with
    | false => rfl
    | true => rw [domD_iff] at h; exact absurd (few_r0 (by decide)) h.2
theorem few_loops : loopsTo fewP 4 = [(2, 1)] := by
  have e : ∀ i j, domB2 fewP i j = domD fewP i j := fun i j => by rw [Bool.eq_iff_iff, domB2_iff, domD_iff]
  have d1 : domD fewP 1 0 = false := few_d.2.2.2.2.2
  have d2 : domD fewP 2 1 = false := by
    cases h : domD fewP 2 1 with
    | false => rfl
    | true => rw [domD_iff] at h; exact absurd (few_r1 (by decide) (by decide)) h.2
  have d3 : domD fewP 3 1 = false := by
    cases h : domD fewP 3 1 with
    | false => rfl
    | true => rw [domD_iff] at h; exact absurd (few_r1 (by decide) (by decide)) h.2
  have d4 : domD fewP 1 2 = true := few_d.2.1
  simp [loopsTo, pairsP, few_nx, List.range_succ, e, d1, d2, d3, d4]

set_option maxRecDepth 100000 in
theorem has_law (ps : List Pt) (gr gi : Nat) (B : Nat → Nat) (V : World) (h : TabD ps gr gi B V) (i k : Nat) (hi : i < ps.length) (hk : k < ps.length) :
    Calls Tryz.prog 13 #[.slice (some ⟨gr, 0, none⟩) ps.length ps.length, .int .i64 i, .int .i64 k] V fun e w' => e = .returned (.bool (domD ps i k)) ∧ w' = V := by
  obtain ⟨c1, -, c3⟩ := h i hi
  have c4 := c3 k hk
  have hii : (0 : Int) ≤ (i : Int) ∧ (i : Int) < ps.length := by omega
  have hkk : (0 : Int) ≤ (k : Int) ∧ (k : Int) < ps.length := by omega
  have d1 : decide (i < ps.length) = true := decide_eq_true hi
  have d2 : decide (k < ps.length) = true := decide_eq_true hk
  clear c3 h hi hk
  generalize domD ps i k = b at *
  go_enter Tryz.func13, Tryz.ntmps13
  go_wp2
  go_ret
  exact ⟨rfl, rfl⟩
theorem Tryz.infoInstrF : (Tryz.prog.info? 51).map (fun i => (i.zero, i.size, i.bytes)) = some (some (.agg #[.int .i64 0, .int .i64 0, .int .i64 0, .int .i64 0, .int .i64 0]), 5, 40) := by kernel_rfl
theorem num_few : numP fewL 3 = 2 := by decide +kernel
theorem parts_nil : partsP [] = [] := rfl
@[local go_sem ↓ high] theorem pair_eq (w : World) : (Op.equalIn 10000 40 (.agg #[.int .i64 2, .int .i64 1]) (.agg #[.int .i64 2, .int .i64 1])).run Tryz.prog w = .ok true w := by kernel_rfl

/-- What is kept of the three tables. -/
def NmS (l : List Bool) (gi : Nat) (w0 : World) (ga gr : Nat) (all : List Bool) (bs : List Nat) (gl : Nat) (V : World) : Prop :=
  IsRch fewP (-1) l ∧ Holds V gi 4 (cellsB l) ∧ DmS w0 fewP ga gr 4 all bs V ∧ V.cell? ⟨gl, 0, none⟩ = some (.int .i64 2) ∧ V.cell? ⟨gl, 1, none⟩ = some (.int .i64 1)
theorem NmS.below {l : List Bool} {gi : Nat} {w0 : World} {ga gr : Nat} {all : List Bool} {bs : List Nat} {gl : Nat} {V V' : World} (h : NmS l gi w0 ga gr all bs gl V) (hb : Below V.heap.size V V') : NmS l gi w0 ga gr all bs gl V' :=
  ⟨h.1, h.2.1.below hb, h.2.2.1.next hb, (hb.cell (World.block_lt_of_cell? _ _ h.2.2.2.1)).trans h.2.2.2.1, (hb.cell (World.block_lt_of_cell? _ _ h.2.2.2.2)).trans h.2.2.2.2⟩

set_option maxRecDepth 100000 in
set_option maxHeartbeats 4000000 in
theorem flownames_any (w : World) (h : Std w) : Calls Tryz.prog 3 #[] w fun e w' => e = .returned (.bool true) ∧ Below w.heap.size w w' := by
  have H := Lib.hid h; clear h
  obtain ⟨i1, hj0, hj1, hj2, hj3⟩ := flw_info Tryz.infoInstrF
  have Hj := Lib.hid (And.intro hj0 (And.intro hj1 (And.intro hj2 hj3))); clear hj0 hj1 hj2 hj3
  have HB0 := Lib.hid (Below.refl w.heap.size w)
  go_enter Tryz.func3, Tryz.ntmps3
  go_wp2_with fail
  refine (few_any (H.out.below HB0.out)).mono ?_
  rintro e w1 ⟨g1, cap1, rfl, hr1, hb⟩
  have HB1 := Lib.hid (HB0.out.trans (hb.mono HB0.out.size)); clear hb
  have hR := reach_any (some ⟨g1, 0, none⟩) cap1 fewL (by decide) few_ok w1 (H.out.forms.below HB1.out) hr1
  rw [few_parts] at hR
  change Calls Tryz.prog 7 #[.slice (some ⟨g1, 0, none⟩) 5 cap1] w1 _ at hR
  have HR := Lib.hid hR; clear hR hr1
  go_wp2_with fail
  refine HR.out.mono ?_
  rintro e w2 ⟨gi, l, rfl, -, hl, hgi, hb⟩
  have HB2 := Lib.hid (HB1.out.trans (hb.mono HB1.out.size)); clear hb HR
  have HI := Lib.hid (And.intro hl hgi); clear hl hgi
  go_wp2_with fail
  refine (few_any (H.out.below HB2.out)).mono ?_
  rintro e w3 ⟨g3, cap3, rfl, hr3, hb⟩
  have HB3 := Lib.hid (HB2.out.trans (hb.mono HB2.out.size))
  have HI3 := Lib.hid (And.intro HI.out.1 (HI.out.2.below hb)); clear hb HI
  have hA := at_any (some ⟨g3, 0, none⟩) cap3 fewL (by decide) few_ok w3 (H.out.forms.below HB3.out) hr3 3 (by decide)
  rw [num_few] at hA
  change Calls Tryz.prog 9 #[.slice (some ⟨g3, 0, none⟩) 5 cap3, .int .i64 3] w3 (fun e w' => e = .returned (.tuple #[.int .i64 2, .int .i64 0]) ∧ _) at hA
  have HR := Lib.hid hA; clear hA hr3
  go_wp2_with fail
  refine HR.out.mono ?_
  rintro e w4 ⟨rfl, hb⟩
  have HB4 := Lib.hid (HB3.out.trans (hb.mono HB3.out.size))
  have HI4 := Lib.hid (And.intro HI3.out.1 (HI3.out.2.below hb)); clear hb HI3 HR
  go_wp2_with fail
  refine (few_any (H.out.below HB4.out)).mono ?_
  rintro e w5 ⟨g5, cap5, rfl, hr5, hb⟩
  have HB5 := Lib.hid (HB4.out.trans (hb.mono HB4.out.size))
  have HI5 := Lib.hid (And.intro HI4.out.1 (HI4.out.2.below hb)); clear hb HI4
  have hR := doms_any (some ⟨g5, 0, none⟩) cap5 fewL (by decide) few_ok w5 (H.out.forms.below HB5.out) hr5
  rw [few_parts] at hR
  change Calls Tryz.prog 10 #[.slice (some ⟨g5, 0, none⟩) 5 cap5] w5 _ at hR
  have HR := Lib.hid hR; clear hR hr5
  go_wp2_with fail
  refine HR.out.mono ?_
  rintro e w6 ⟨w0, gr, ga, all, bs, rfl, -, hdm, hb⟩
  have HB6 := Lib.hid (HB5.out.trans (hb.mono HB5.out.size))
  have HI6 := Lib.hid (And.intro HI5.out.1 (And.intro (HI5.out.2.below hb) hdm)); clear hb HI5 HR hdm
  change Hid (IsRch fewP (-1) l ∧ _ ∧ DmS w0 fewP ga gr 4 all bs w6) at HI6
  go_wp2_with fail
  refine (few_any (H.out.below HB6.out)).mono ?_
  rintro e w7 ⟨g7, cap7, rfl, hr7, hb⟩
  have HB7 := Lib.hid (HB6.out.trans (hb.mono HB6.out.size))
  have HI7 := Lib.hid (And.intro HI6.out.1 (And.intro (HI6.out.2.1.below hb) (HI6.out.2.2.next hb))); clear hb HI6
  have hR := loops_any (some ⟨g7, 0, none⟩) cap7 fewL (by decide) few_ok w7 (H.out.forms.below HB7.out) hr7
  rw [few_parts] at hR
  change Calls Tryz.prog 11 #[.slice (some ⟨g7, 0, none⟩) 5 cap7] w7 (fun e w' => ∃ v, _ ∧ w'.ownsRow w7.heap.size 40 2 v (loopsTo fewP 4).length (cells2 (loopsTo fewP 4)) ∧ _) at hR
  rw [few_loops] at hR
  have HR := Lib.hid hR; clear hR hr7
  go_wp2_with fail
  refine HR.out.mono ?_
  rintro e w8 ⟨v, rfl, hown, hb⟩
  obtain ⟨ad, capl, rfl, hs⟩ := owns_slice hown
  obtain ⟨gl, rfl⟩ := hs (by decide)
  have l0 := (owns_cell hown (g := gl) rfl (j := 0) (u := .int .i64 2) rfl).1
  have l1 := (owns_cell hown (g := gl) rfl (j := 1) (u := .int .i64 1) rfl).1
  have HB8 := Lib.hid (HB7.out.trans (hb.mono HB7.out.size))
  have HI8 := Lib.hid (And.intro HI7.out.1 (And.intro (HI7.out.2.1.below hb) (And.intro (HI7.out.2.2.next hb) (And.intro l0 l1)))); clear hb HI7 HR hown hs l0 l1
  go_wp2_with fail
  refine (few_any (H.out.below HB8.out)).mono ?_
  rintro e w9 ⟨g9, cap9, rfl, hr9, hb⟩
  have HB9 := Lib.hid (HB8.out.trans (hb.mono HB8.out.size))
  have HI9 := Lib.hid (NmS.below HI8.out hb); clear hb HI8
  have hA := at_out (some ⟨g9, 0, none⟩) cap9 fewL (by decide) few_ok w9 (H.out.forms.below HB9.out) hr9 5 (by decide)
  change Calls Tryz.prog 9 #[.slice (some ⟨g9, 0, none⟩) 5 cap9, .int .i64 5] w9 _ at hA
  have HR := Lib.hid hA; clear hA hr9
  go_wp2_with fail
  refine HR.out.mono ?_
  rintro e w10 ⟨rfl, hb⟩
  have HB10 := Lib.hid (HB9.out.trans (hb.mono HB9.out.size))
  have HI10 := Lib.hid (NmS.below HI9.out hb); clear hb HI9 HR
  have hR := parts_any none 0 [] (by decide) (by simp) w10 (H.out.forms.below HB10.out) (.inl rfl)
  change Calls Tryz.prog 12 #[.slice none 0 0] w10 _ at hR
  have HR := Lib.hid hR; clear hR
  go_wp2_with fail
  refine HR.out.mono ?_
  rintro e w11 ⟨v, rfl, hpa, hb⟩
  obtain ⟨an, capn, rfl, -⟩ := hpa.form
  have HB11 := Lib.hid (HB10.out.trans (hb.mono HB10.out.size))
  have HI11 := Lib.hid (NmS.below HI10.out hb); clear hb HI10 HR hpa
  rw [parts_nil]
  go_wp2_with (at_make; refine wpList_make_full _ rfl _ _ 26 rfl w11.heap.size 51 i1 _ 5 Tryz.underlying26 Hj.out.1 Hj.out.2.1 Hj.out.2.2.1 .i64 .i64 1025 1025 1025 rfl rfl rfl rfl (by rw [Hj.out.2.2.2]; decide) (by decide) (Nat.le_refl _) ?_; intro w12 ho hg2; have Hb12 := Lib.hid ((Below.refl w11.heap.size w11).grown hg2 (Nat.le_refl _) (fun g e => by cases e)); clear ho hg2)
  have HI12 := Lib.hid (NmS.below HI11.out Hb12.out)
  have HB12 := Lib.hid (HB11.out.trans (Hb12.out.mono HB11.out.size))
  clear HI11 Hb12
  refine (parts_long _ _ _ (by decide) _).mono ?_
  rintro e z ⟨rfl, hz⟩
  have hz := hz.symm
  subst hz
  go_wp2_with (at_make; refine wpList_make_full _ rfl _ _ 26 rfl w12.heap.size 51 i1 _ 5 Tryz.underlying26 Hj.out.1 Hj.out.2.1 Hj.out.2.2.1 .i64 .i64 1025 1025 1025 rfl rfl rfl rfl (by rw [Hj.out.2.2.2]; decide) (by decide) (Nat.le_refl _) ?_; intro w13 ho hg2; have Hb13 := Lib.hid ((Below.refl w12.heap.size w12).grown hg2 (Nat.le_refl _) (fun g e => by cases e)); clear ho hg2)
  have HI13 := Lib.hid (NmS.below HI12.out Hb13.out)
  have HB13 := Lib.hid (HB12.out.trans (Hb13.out.mono HB12.out.size))
  clear HI12 Hb13
  refine (reach_long _ _ _ (by decide) _).mono ?_
  rintro e z ⟨rfl, hz⟩
  have hz := hz.symm
  subst hz
  go_wp2_with (at_make; refine wpList_make_full _ rfl _ _ 26 rfl w13.heap.size 51 i1 _ 5 Tryz.underlying26 Hj.out.1 Hj.out.2.1 Hj.out.2.2.1 .i64 .i64 1025 1025 1025 rfl rfl rfl rfl (by rw [Hj.out.2.2.2]; decide) (by decide) (Nat.le_refl _) ?_; intro w14 ho hg2; have Hb14 := Lib.hid ((Below.refl w13.heap.size w13).grown hg2 (Nat.le_refl _) (fun g e => by cases e)); clear ho hg2)
  have HI14 := Lib.hid (NmS.below HI13.out Hb14.out)
  have HB14 := Lib.hid (HB13.out.trans (Hb14.out.mono HB13.out.size))
  clear HI13 Hb14
  refine (doms_long _ _ _ (by decide) _).mono ?_
  rintro e z ⟨rfl, hz⟩
  have hz := hz.symm
  subst hz
  go_wp2_with (at_make; refine wpList_make_full _ rfl _ _ 26 rfl w14.heap.size 51 i1 _ 5 Tryz.underlying26 Hj.out.1 Hj.out.2.1 Hj.out.2.2.1 .i64 .i64 1025 1025 1025 rfl rfl rfl rfl (by rw [Hj.out.2.2.2]; decide) (by decide) (Nat.le_refl _) ?_; intro w15 ho hg2; have Hb15 := Lib.hid ((Below.refl w14.heap.size w14).grown hg2 (Nat.le_refl _) (fun g e => by cases e)); clear ho hg2)
  have HI15 := Lib.hid (NmS.below HI14.out Hb15.out)
  have HB15 := Lib.hid (HB14.out.trans (Hb15.out.mono HB14.out.size))
  clear HI14 Hb15
  refine (loops_long _ _ _ (by decide) _).mono ?_
  rintro e z ⟨rfl, hz⟩
  have hz := hz.symm
  subst hz
  have tab := HI15.out.2.2.1.tab HI15.out.1 HI15.out.2.1
  have r0 : w15.cell? ⟨gi, 0, none⟩ = some (.bool true) := by rw [(tab 0 (by decide)).2.1, rchD_iff.2 (few_r0 (by decide))]
  have r3 : w15.cell? ⟨gi, 3, none⟩ = some (.bool true) := by rw [(tab 3 (by decide)).2.1, rchD_iff.2 (few_r3 (by decide) (by decide) (by decide))]
  have l0 := HI15.out.2.2.2.1
  have l1 := HI15.out.2.2.2.2
  have q03 : Calls Tryz.prog 13 #[.slice (some ⟨gr, 0, none⟩) 4 4, .int .i64 0, .int .i64 3] w15 fun e w' => e = .returned (.bool true) ∧ w' = w15 := by
    have h := has_law fewP gr gi _ w15 tab 0 3 (by decide) (by decide)
    rw [few_d.1] at h
    exact h
  have q12 : Calls Tryz.prog 13 #[.slice (some ⟨gr, 0, none⟩) 4 4, .int .i64 1, .int .i64 2] w15 fun e w' => e = .returned (.bool true) ∧ w' = w15 := by
    have h := has_law fewP gr gi _ w15 tab 1 2 (by decide) (by decide)
    rw [few_d.2.1] at h
    exact h
  have q13 : Calls Tryz.prog 13 #[.slice (some ⟨gr, 0, none⟩) 4 4, .int .i64 1, .int .i64 3] w15 fun e w' => e = .returned (.bool true) ∧ w' = w15 := by
    have h := has_law fewP gr gi _ w15 tab 1 3 (by decide) (by decide)
    rw [few_d.2.2.1] at h
    exact h
  have q23 : Calls Tryz.prog 13 #[.slice (some ⟨gr, 0, none⟩) 4 4, .int .i64 2, .int .i64 3] w15 fun e w' => e = .returned (.bool false) ∧ w' = w15 := by
    have h := has_law fewP gr gi _ w15 tab 2 3 (by decide) (by decide)
    rw [few_d.2.2.2.1] at h
    exact h
  have q22 : Calls Tryz.prog 13 #[.slice (some ⟨gr, 0, none⟩) 4 4, .int .i64 2, .int .i64 2] w15 fun e w' => e = .returned (.bool true) ∧ w' = w15 := by
    have h := has_law fewP gr gi _ w15 tab 2 2 (by decide) (by decide)
    rw [few_d.2.2.2.2.1] at h
    exact h
  have q10 : Calls Tryz.prog 13 #[.slice (some ⟨gr, 0, none⟩) 4 4, .int .i64 1, .int .i64 0] w15 fun e w' => e = .returned (.bool false) ∧ w' = w15 := by
    have h := has_law fewP gr gi _ w15 tab 1 0 (by decide) (by decide)
    rw [few_d.2.2.2.2.2] at h
    exact h
  have Q := Lib.hid (And.intro q03 (And.intro q12 (And.intro q13 (And.intro q23 (And.intro q22 q10)))))
  clear q03 q12 q13 q23 q22 q10 tab
  have HA := Lib.hid (alive_flow (H.out.below HB15.out))
  rw [show fewP.length = 4 from rfl]
  go_wp2_with fail
  refine Q.out.1.mono ?_
  rintro e z ⟨rfl, hz⟩
  have hz := hz.symm
  subst hz
  go_wp2_with fail
  refine Q.out.2.1.mono ?_
  rintro e z ⟨rfl, hz⟩
  have hz := hz.symm
  subst hz
  go_wp2_with fail
  refine Q.out.2.2.1.mono ?_
  rintro e z ⟨rfl, hz⟩
  have hz := hz.symm
  subst hz
  go_wp2_with fail
  refine Q.out.2.2.2.1.mono ?_
  rintro e z ⟨rfl, hz⟩
  have hz := hz.symm
  subst hz
  go_wp2_with fail
  refine Q.out.2.2.2.2.1.mono ?_
  rintro e z ⟨rfl, hz⟩
  have hz := hz.symm
  subst hz
  go_wp2_with fail
  refine Q.out.2.2.2.2.2.mono ?_
  rintro e z ⟨rfl, hz⟩
  have hz := hz.symm
  subst hz
  go_wp2_with fail
  refine HA.out.mono ?_
  rintro e w16 ⟨rfl, hb⟩
  have hbe := HB15.out.trans (hb.mono HB15.out.size)
  clear hb
  go_wp2_with fail
  go_ret
  exact ⟨rfl, hbe⟩

end Go.Proofs.YtehnailokgoekaaGreatDoor
