/- DirNames: the walk. Conditions: those stated in each theorem. -/
import Derived.Test.YtnhainjdaafmiaaDoorDirNA
namespace Go.Proofs.YtnhainjdaafmiaaDoor
open Go.RowKit Go.BigFrame

def dv0 : Dv := Dv.new 2 2
def dv1 : Dv := (dv0.hear ⟨2, 0, 1, L8.zero⟩).1
def dv2 : Dv := (dv1.hear ⟨7, 0, 1, L8.zero⟩).1
def dv3 : Dv := (dv2.hear ⟨1, 1, 1, L8.zero⟩).1
def dv4 : Dv := (dv3.hear ⟨5, 0, 1, ⟨5, 0, 0, 0, 0, 0, 0, 0⟩⟩).1
def dv5 : Dv := (dv4.hear ⟨7, 1, 1, L8.zero⟩).1
def dv6 : Dv := (dv5.hear ⟨2, 1, 1, L8.zero⟩).1
def dv7 : Dv := (dv6.hear ⟨4, 0, 1, L8.zero⟩).1
def dv8 : Dv := (dv7.hear ⟨1, 0, 1, L8.zero⟩).1
def dv9 : Dv := (dv8.hear ⟨7, 1, 1, L8.zero⟩).1
def dv10 : Dv := (dv9.hear ⟨6, 1, 1, L8.zero⟩).1
def dv11 : Dv := (dv10.hear ⟨3, 1, 1, ⟨6, 0, 0, 0, 0, 0, 0, 0⟩⟩).1
theorem dve0 : dv0.hear ⟨2, 0, 1, L8.zero⟩ = (dv1, [⟨15, 0, 1, L8.zero⟩], 0) := by kernel_rfl
theorem dve1 : dv1.hear ⟨7, 0, 1, L8.zero⟩ = (dv2, [], 0) := by kernel_rfl
theorem dve2 : dv2.hear ⟨1, 1, 1, L8.zero⟩ = (dv3, [⟨12, 0, 1, L8.zero⟩], 0) := by kernel_rfl
theorem dve3 : dv3.hear ⟨5, 0, 1, ⟨5, 0, 0, 0, 0, 0, 0, 0⟩⟩ = (dv4, [⟨14, 1, 1, ⟨5, 0, 0, 0, 0, 0, 0, 0⟩⟩], 0) := by kernel_rfl
theorem dve4 : dv4.hear ⟨7, 1, 1, L8.zero⟩ = (dv5, [], 0) := by kernel_rfl
theorem dve5 : dv5.hear ⟨2, 1, 1, L8.zero⟩ = (dv6, [⟨11, 0, 1, L8.zero⟩], 0) := by kernel_rfl
theorem dve6 : dv6.hear ⟨4, 0, 1, L8.zero⟩ = (dv7, [⟨15, 1, 1, ⟨5, 0, 0, 0, 0, 0, 0, 0⟩⟩], 0) := by kernel_rfl
theorem dve7 : dv7.hear ⟨1, 0, 1, L8.zero⟩ = (dv8, [], 0) := by kernel_rfl
theorem dve8 : dv8.hear ⟨7, 1, 1, L8.zero⟩ = (dv9, [⟨12, 1, 1, L8.zero⟩], 0) := by kernel_rfl
theorem dve9 : dv9.hear ⟨6, 1, 1, L8.zero⟩ = (dv10, [], 0) := by kernel_rfl
theorem dve10 : dv10.hear ⟨3, 1, 1, ⟨6, 0, 0, 0, 0, 0, 0, 0⟩⟩ = (dv11, [⟨16, 1, 1, L8.zero⟩, ⟨14, 0, 1, ⟨6, 0, 0, 0, 0, 0, 0, 0⟩⟩], 0) := by kernel_rfl
theorem dvr0 : dv9.hear ⟨3, 0, 1, L8.zero⟩ = (dv9, [], 30) := by kernel_rfl
theorem dvr1 : dv9.hear ⟨4, 1, 1, L8.zero⟩ = (dv9, [], 30) := by kernel_rfl
theorem dvr2 : dv9.hear ⟨7, 0, 1, L8.zero⟩ = (dv9, [], 30) := by kernel_rfl
theorem dvr3 : dv9.hear ⟨1, 2, 1, L8.zero⟩ = (dv9, [], 2) := by kernel_rfl
theorem dvr4 : dv9.hear ⟨1, 0, 2, L8.zero⟩ = (dv9, [], 2) := by kernel_rfl
theorem dvr5 : dv9.hear ⟨11, 0, 0, L8.zero⟩ = (dv9, [], 30) := by kernel_rfl
theorem dvr6 : dv9.hear ⟨0, 0, 0, L8.zero⟩ = (dv9, [], 30) := by kernel_rfl
theorem dvr7 : dv9.hear ⟨1, 0, 1, L8.zero⟩ = (dv9, [], 30) := by kernel_rfl
theorem dvo3 : dv3.owner 1 = 0 := by kernel_rfl
theorem dvo5 : dv5.owner 1 = -1 := by kernel_rfl
theorem dvs5 : dv5.sharers 1 = [0, 1] := by kernel_rfl
theorem dvi5 : dv5.inLine 1 = true := by kernel_rfl

section
variable {w0 w w' : World} {p m b L : Nat} {d d' : Dv} {G : List (Nat × List Value)}
theorem hears_one (h : DSt w0 w p m b L d G) (x y : MsgV) (hx : d.hear x = (d', [y], 0)) :
    Calls Tryd.prog 14 #[.pointer (some ⟨p, 0, none⟩), .agg x.cells.toArray, .slice (some ⟨w.heap.size, 0, none⟩) 1 1] (w.alloc (.cells y.cells.toArray 45)) fun e w' => e = .returned (.bool true) ∧ DSt w0 w' p m b L d' G :=
  (hears_some (h.lay y.cells 45) x hx w.heap.size 1 (by simp) (by simp) (by simp)).mono fun _ _ ⟨h1, h2⟩ => ⟨h1, h2.drop G (fun _ hx => List.mem_cons_of_mem _ hx)⟩
theorem hears_oneN (h : DSt w0 w p m b L d G) (x y : MsgV) (hx : d.hear x = (d', [y], 0)) (N : Nat) (hN : w.heap.size = N) :
    Calls Tryd.prog 14 #[.pointer (some ⟨p, 0, none⟩), .agg x.cells.toArray, .slice (some ⟨N, 0, none⟩) 1 1] (w.alloc (.cells y.cells.toArray 45)) fun e w' => e = .returned (.bool true) ∧ DSt w0 w' p m b L d' G := by
  subst hN
  exact hears_one h x y hx
theorem hears_two (h : DSt w0 w p m b L d G) (x y y2 : MsgV) (hx : d.hear x = (d', [y, y2], 0)) :
    Calls Tryd.prog 14 #[.pointer (some ⟨p, 0, none⟩), .agg x.cells.toArray, .slice (some ⟨w.heap.size, 0, none⟩) 2 2] (w.alloc (.cells (y.cells ++ y2.cells).toArray 45)) fun e w' => e = .returned (.bool true) ∧ DSt w0 w' p m b L d' G :=
  (hears_some (h.lay (y.cells ++ y2.cells) 45) x hx w.heap.size 2 (by simp) (by simp) (by simp)).mono fun _ _ ⟨h1, h2⟩ => ⟨h1, h2.drop G (fun _ hx => List.mem_cons_of_mem _ hx)⟩
theorem owner_st (h : DSt w0 w p m b L d G) (k : Int) : Calls Tryd.prog 15 #[.pointer (some ⟨p, 0, none⟩), .int .i64 k] w fun e w' => e = .returned (.int .i64 (d.owner k)) ∧ w = w' := by
  obtain ⟨wvs, h1, h2⟩ := h.dir
  exact owner_any h1 k
theorem sharers_st (h : DSt w0 w p m b L d G) (k : Int) (hin : d.inLine k = true) : Calls Tryd.prog 16 #[.pointer (some ⟨p, 0, none⟩), .int .i64 k] w fun e w' => ∃ v, e = .returned v ∧ w'.ownsRow w.heap.size 3 1 v (d.sharers k).length ((d.sharers k).map coreV) ∧ Below w.heap.size w w' := by
  obtain ⟨wvs, h1, h2⟩ := h.dir
  exact sharers_in h1 k hin
theorem new_st (n c : Nat) (w : World) (h2 : 2 ≤ n) (hn : n ≤ 64) (h1 : 1 ≤ c) (h4 : c ≤ 4) (hg : 1 < w.heap.size) (hT : TabAt w) : Calls Tryd.prog 6 #[.int .i64 n, .int .i64 c] w fun e w' => ∃ p m b L, e = .returned (.tuple #[.pointer (some ⟨p, 0, none⟩), .int .i64 0]) ∧ DSt w w' p m b L (Dv.new n c) [] := by
  refine (dnew_ok n c w.heap.size w h2 hn h1 h4 (Nat.le_refl _) hg hT).mono ?_
  rintro e w' ⟨p, m, b, L, wvs, rfl, h1, h2, -, -⟩
  exact ⟨p, m, b, L, rfl, ⟨wvs, h1, fun _ h => by cases h⟩, h2, fun _ h => by cases h⟩
end

set_option maxRecDepth 100000 in
set_option maxHeartbeats 2000000 in
theorem dalive_ok (w : World) (hg : 1 < w.heap.size) (hT : TabAt w) : Calls Tryd.prog 20 #[] w fun e w' => e = .returned (.bool true) ∧ Below w.heap.size w w' := by
  have HN := Lib.hid (new_st 2 2 w (by omega) (by omega) (by omega) (by omega) hg hT)
  clear hT
  go_enter Tryd.func20, Tryd.ntmps20
  go_wp2_with fail
  refine HN.out.mono ?_
  rintro e w1 ⟨p, m, b, L, rfl, hs⟩
  have H0 := Lib.hid (show DSt w w1 p m b L dv0 [] from hs); clear hs
  go_wp2_with fail
  refine (hears_one H0.out ⟨2, 0, 1, L8.zero⟩ ⟨15, 0, 1, L8.zero⟩ dve0).mono ?_
  rintro e w2 ⟨rfl, hs⟩
  have H1 := Lib.hid hs; clear hs
  go_wp2_with fail
  refine (hears_none H1.out ⟨7, 0, 1, L8.zero⟩ dve1).mono ?_
  rintro e w3 ⟨rfl, hs⟩
  have H2 := Lib.hid hs; clear hs
  go_wp2_with fail
  refine (hears_one H2.out ⟨1, 1, 1, L8.zero⟩ ⟨12, 0, 1, L8.zero⟩ dve2).mono ?_
  rintro e w4 ⟨rfl, hs⟩
  have H3 := Lib.hid hs; clear hs
  go_wp2_with fail
  refine (owner_st H3.out 1).mono ?_
  rintro e w5 ⟨rfl, rfl⟩
  rw [dvo3]
  have Hb := Lib.hid H3.out.below
  go_wp2
  go_ret
  exact ⟨rfl, Hb.out⟩

set_option maxRecDepth 100000 in
set_option maxHeartbeats 8000000 in
theorem dnames_ok (w : World) (hg : 1 < w.heap.size) (hT : TabAt w) : Calls Tryd.prog 4 #[] w fun e w' => e = .returned (.bool true) ∧ Below w.heap.size w w' := by
  have HN := Lib.hid (new_st 2 2 w (by omega) (by omega) (by omega) (by omega) hg hT)
  have HT := Lib.hid hT; clear hT
  go_enter Tryd.func4, Tryd.ntmps4
  go_wp2_with fail
  refine HN.out.mono ?_
  rintro e w1 ⟨p, m, b, L, rfl, hs⟩
  have H0 := Lib.hid (show DSt w w1 p m b L dv0 [] from hs); clear hs
  go_wp2_with fail
  refine (hear_st H0.out ⟨2, 0, 1, L8.zero⟩).mono ?_
  rintro e w2 ⟨v0, rfl, hs, -⟩
  rw [dve0] at hs
  rw [show (dv0.hear ⟨2, 0, 1, L8.zero⟩).2.2 = 0 from by rw [dve0]]
  have H1 := Lib.hid hs; clear hs
  go_wp2_with fail
  refine (hear_st H1.out ⟨7, 0, 1, L8.zero⟩).mono ?_
  rintro e w3 ⟨v1, rfl, hs, -⟩
  rw [dve1] at hs
  rw [show (dv1.hear ⟨7, 0, 1, L8.zero⟩).2.2 = 0 from by rw [dve1]]
  have H2 := Lib.hid hs; clear hs
  go_wp2_with fail
  refine (hear_st H2.out ⟨1, 1, 1, L8.zero⟩).mono ?_
  rintro e w4 ⟨v2, rfl, hs, -⟩
  rw [dve2] at hs
  rw [show (dv2.hear ⟨1, 1, 1, L8.zero⟩).2.2 = 0 from by rw [dve2]]
  have H3 := Lib.hid hs; clear hs
  have H3b := Lib.hid (H3.out.lay (L8.cells ⟨5, 0, 0, 0, 0, 0, 0, 0⟩) 40)
  have HC := Lib.hid (fun (W : World) (d : Dv) (h : DSt w W p m b L d [(w4.heap.size, L8.cells ⟨5, 0, 0, 0, 0, 0, 0, 0⟩)]) => show W.rangeAt w4.heap.size 0 (L8.cells ⟨5, 0, 0, 0, 0, 0, 0, 0⟩) from (h.rows _ (List.mem_cons_self ..)).2)
  have z0 := HC.out _ _ H3b.out 0 _ rfl
  have z1 := HC.out _ _ H3b.out 1 _ rfl
  have z2 := HC.out _ _ H3b.out 2 _ rfl
  have z3 := HC.out _ _ H3b.out 3 _ rfl
  have z4 := HC.out _ _ H3b.out 4 _ rfl
  have z5 := HC.out _ _ H3b.out 5 _ rfl
  have z6 := HC.out _ _ H3b.out 6 _ rfl
  have z7 := HC.out _ _ H3b.out 7 _ rfl
  simp only [L8.cells] at z0 z1 z2 z3 z4 z5 z6 z7
  go_wp2_with fail
  refine (hears_oneN H3b.out ⟨5, 0, 1, ⟨5, 0, 0, 0, 0, 0, 0, 0⟩⟩ ⟨14, 1, 1, ⟨5, 0, 0, 0, 0, 0, 0, 0⟩⟩ dve3 (w4.heap.size + 1) (Array.size_push ..)).mono ?_
  rintro e w5 ⟨rfl, hs⟩
  have H4 := Lib.hid hs; clear hs
  clear z0 z1 z2 z3 z4 z5 z6 z7
  go_wp2_with fail
  refine (hears_none H4.out ⟨7, 1, 1, L8.zero⟩ dve4).mono ?_
  rintro e w6 ⟨rfl, hs⟩
  have H5 := Lib.hid hs; clear hs
  go_wp2_with fail
  refine (owner_st H5.out 1).mono ?_
  rintro e w7 ⟨rfl, rfl⟩
  rw [dvo5]
  go_wp2_with fail
  refine (sharers_st H5.out 1 dvi5).mono ?_
  rintro e w7 ⟨v5, rfl, hrow, hb⟩
  rw [dvs5] at hrow
  have H5b := Lib.hid (H5.out.idle hb); clear hb
  obtain ⟨gs, cs, rfl, hgs⟩ : ∃ g c, v5 = .slice (some ⟨g, 0, none⟩) 2 c ∧ v5.ownBlock = some g := by
    rcases owns_form hrow with ⟨-, h0, -⟩ | ⟨g, c, h1, h2⟩
    · cases h0
    · exact ⟨g, c, h1, h2⟩
  have s0 := (owns_cell hrow hgs (j := 0) rfl).1
  have s1 := (owns_cell hrow hgs (j := 1) rfl).1
  simp only [coreV] at s0 s1
  clear hrow hgs
  go_wp2_with fail
  refine (hears_one H5b.out ⟨2, 1, 1, L8.zero⟩ ⟨11, 0, 1, L8.zero⟩ dve5).mono ?_
  rintro e w8 ⟨rfl, hs⟩
  have H6 := Lib.hid hs; clear hs
  clear s0 s1
  have z0 := HC.out _ _ H6.out 0 _ rfl
  have z1 := HC.out _ _ H6.out 1 _ rfl
  have z2 := HC.out _ _ H6.out 2 _ rfl
  have z3 := HC.out _ _ H6.out 3 _ rfl
  have z4 := HC.out _ _ H6.out 4 _ rfl
  have z5 := HC.out _ _ H6.out 5 _ rfl
  have z6 := HC.out _ _ H6.out 6 _ rfl
  have z7 := HC.out _ _ H6.out 7 _ rfl
  simp only at z0 z1 z2 z3 z4 z5 z6 z7
  go_wp2_with fail
  refine (hears_one H6.out ⟨4, 0, 1, L8.zero⟩ ⟨15, 1, 1, ⟨5, 0, 0, 0, 0, 0, 0, 0⟩⟩ dve6).mono ?_
  rintro e w9 ⟨rfl, hs⟩
  have H7 := Lib.hid hs; clear hs
  clear z0 z1 z2 z3 z4 z5 z6 z7
  go_wp2_with fail
  refine (hears_none H7.out ⟨1, 0, 1, L8.zero⟩ dve7).mono ?_
  rintro e w10 ⟨rfl, hs⟩
  have H8 := Lib.hid hs; clear hs
  go_wp2_with fail
  refine (hears_one H8.out ⟨7, 1, 1, L8.zero⟩ ⟨12, 1, 1, L8.zero⟩ dve8).mono ?_
  rintro e w11 ⟨rfl, hs⟩
  have H9 := Lib.hid hs; clear hs
  go_wp2_with fail
  refine (refuses_st H9.out ⟨3, 0, 1, L8.zero⟩ 30 dvr0).mono ?_
  rintro e w12 ⟨rfl, hs⟩
  have HR0 := Lib.hid hs; clear hs
  go_wp2_with fail
  refine (refuses_st HR0.out ⟨4, 1, 1, L8.zero⟩ 30 dvr1).mono ?_
  rintro e w13 ⟨rfl, hs⟩
  have HR1 := Lib.hid hs; clear hs
  go_wp2_with fail
  refine (refuses_st HR1.out ⟨7, 0, 1, L8.zero⟩ 30 dvr2).mono ?_
  rintro e w14 ⟨rfl, hs⟩
  have HR2 := Lib.hid hs; clear hs
  go_wp2_with fail
  refine (refuses_st HR2.out ⟨1, 2, 1, L8.zero⟩ 2 dvr3).mono ?_
  rintro e w15 ⟨rfl, hs⟩
  have HR3 := Lib.hid hs; clear hs
  go_wp2_with fail
  refine (refuses_st HR3.out ⟨1, 0, 2, L8.zero⟩ 2 dvr4).mono ?_
  rintro e w16 ⟨rfl, hs⟩
  have HR4 := Lib.hid hs; clear hs
  go_wp2_with fail
  refine (refuses_st HR4.out ⟨11, 0, 0, L8.zero⟩ 30 dvr5).mono ?_
  rintro e w17 ⟨rfl, hs⟩
  have HR5 := Lib.hid hs; clear hs
  go_wp2_with fail
  refine (refuses_st HR5.out ⟨0, 0, 0, L8.zero⟩ 30 dvr6).mono ?_
  rintro e w18 ⟨rfl, hs⟩
  have HR6 := Lib.hid hs; clear hs
  go_wp2_with fail
  refine (refuses_st HR6.out ⟨1, 0, 1, L8.zero⟩ 30 dvr7).mono ?_
  rintro e w19 ⟨rfl, hs⟩
  have HR7 := Lib.hid hs; clear hs
  go_wp2_with fail
  refine (hears_none HR7.out ⟨6, 1, 1, L8.zero⟩ dve9).mono ?_
  rintro e w20 ⟨rfl, hs⟩
  have H10 := Lib.hid hs; clear hs
  go_wp2_with fail
  refine (hears_two H10.out ⟨3, 1, 1, ⟨6, 0, 0, 0, 0, 0, 0, 0⟩⟩ ⟨16, 1, 1, L8.zero⟩ ⟨14, 0, 1, ⟨6, 0, 0, 0, 0, 0, 0, 0⟩⟩ dve10).mono ?_
  rintro e w21 ⟨rfl, hs⟩
  have H11 := Lib.hid hs; clear hs
  have Hb := Lib.hid H11.out.below
  go_wp2_with fail
  refine (dnew_lines 1 1 w21 (by omega) (by omega) (by omega)).mono ?_
  rintro e w22 ⟨rfl, rfl⟩
  go_wp2_with fail
  refine (dnew_cores 2 5 w21 (by omega)).mono ?_
  rintro e w22 ⟨rfl, rfl⟩
  go_wp2_with fail
  refine (dnew_cores 2 0 w21 (by omega)).mono ?_
  rintro e w22 ⟨rfl, rfl⟩
  go_wp2_with fail
  refine (nilHear MsgV.zero w21).mono ?_
  rintro e w22 ⟨rfl, hb⟩
  have Hb2 := Lib.hid (Hb.out.trans (hb.mono Hb.out.size)); clear hb
  go_wp2_with fail
  refine (nilMemory 0 w22).mono ?_
  rintro e w23 ⟨rfl, hb⟩
  have Hb3 := Lib.hid ((Hb2.out.trans (hb.mono Hb2.out.size)).alloc (Nat.le_trans Hb2.out.size hb.size) (.cells L8.zero.cells.toArray 40)); clear hb
  simp only [L8.cells, L8.zero] at Hb3 ⊢
  go_wp2_with fail
  refine (nilSet 0 L8.zero _).mono ?_
  rintro e w24 ⟨rfl, hb⟩
  have Hb4 := Lib.hid (Hb3.out.trans (hb.mono Hb3.out.size)); clear hb
  go_wp2_with fail
  refine (nilUnder 0 w24).mono ?_
  rintro e w25 ⟨rfl, hb⟩
  have Hb5 := Lib.hid ((Hb4.out.trans (hb.mono Hb4.out.size)).alloc (Nat.le_trans Hb4.out.size hb.size) (.cells MsgV.zero.cells.toArray 45)); clear hb
  simp only [MsgV.cells, MsgV.zero, L8.zero] at Hb5 ⊢
  go_wp2_with fail
  refine (dalive_ok _ (Nat.lt_of_lt_of_le hg Hb5.out.size) (HT.out.below Hb5.out hg)).mono ?_
  rintro e w26 ⟨rfl, hb⟩
  have Hb6 := Lib.hid (Hb5.out.trans (hb.mono Hb5.out.size)); clear hb
  go_wp2_with fail
  refine (nilOwner 0 w26).mono ?_
  rintro e w27 ⟨rfl, rfl⟩
  go_wp2
  go_ret
  exact ⟨rfl, Hb6.out⟩

end Go.Proofs.YtnhainjdaafmiaaDoor
