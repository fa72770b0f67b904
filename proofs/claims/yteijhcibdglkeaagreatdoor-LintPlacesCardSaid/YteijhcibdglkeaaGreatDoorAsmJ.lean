/- A text is read: the walk. Conditions: those stated in each theorem. -/
import Derived.Test.YteijhcibdglkeaaGreatDoorAsmI
namespace Go.Proofs.YteijhcibdglkeaaGreatDoor
open Go.RowKit Go.BigFrame Go.Shelf Go.Maps
attribute [local go_sem] Oper.semAt_some
attribute [local simp] wide_fn

set_option maxRecDepth 100000 in
set_option maxHeartbeats 4000000 in
theorem read_in (tx : By) (htx : tx.length ≤ 800000) {w : World} (h : Std w) : CallsIn Fence.wide 9 Tryz.prog 27 #[.string ⟨tx.toArray⟩] w (ReadO tx w) := by
  have hb0 : Below w.heap.size w ((w.alloc (.cells #[.pointer none] 75)).alloc (.cells #[.int .i64 0] 3)) := ((Below.refl _ w).alloc (Nat.le_refl _) _).alloc (by simp) _
  have hq2 : Holds ((w.alloc (.cells #[.pointer none] 75)).alloc (.cells #[.int .i64 0] 3)) w.heap.size 75 [.pointer none] := (Holds.new w 75 [.pointer none]).alloc _
  have hq3 : Holds ((w.alloc (.cells #[.pointer none] 75)).alloc (.cells #[.int .i64 0] 3)) (w.heap.size + 1) 3 [.int .i64 0] := by
    have := Holds.new (w.alloc (.cells #[.pointer none] 75)) 3 [.int .i64 0]
    rwa [World.size_alloc] at this
  have hs0 : ((w.alloc (.cells #[.pointer none] 75)).alloc (.cells #[.int .i64 0] 3)).heap.size = w.heap.size + 2 := by simp
  have H := Lib.hid h; clear h
  have Htx := Lib.hid htx; clear htx
  refine callsIn_of_wp_marks Tryz.func27 rfl trivial ?_ rfl
  simp only [Tryz.ntmps27, List.size_toArray, List.length_cons, List.length_nil, Nat.reduceAdd, Nat.reduceSub, Array.replicate_succ, Array.replicate_zero, List.push_toArray, List.append_toArray, List.nil_append, List.cons_append]
  gi_wp2_with fail
  generalize (w.alloc (.cells #[.pointer none] 75)).alloc (.cells #[.int .i64 0] 3) = wA at *
  refine (callsIn_wide.2 (names_any tx (by have := Htx.out; omega) (H.out.below hb0))).mono ?_
  rintro e w1 ⟨⟨mb, rfl, hmb, hm1⟩, hb1⟩
  have hbw1 : Below w.heap.size w w1 := hb0.trans (hb1.mono hb0.size)
  have hq2' := hq2.below hb1
  have hq3' := hq3.below hb1
  have hs1 := hb1.size
  clear hq2 hq3 hb0 hb1
  gi_wp2_with fail
  have hbB : Below w1.heap.size w1 ((w1.alloc (.cells #[.map (some mb), .slice none 0 0, .slice none 0 0] 81)).alloc (.cells #[.pointer (some ⟨w1.heap.size, 0, none⟩)] 75)) := ((Below.refl _ w1).alloc (Nat.le_refl _) _).alloc (by simp) _
  have hrB : Holds ((w1.alloc (.cells #[.map (some mb), .slice none 0 0, .slice none 0 0] 81)).alloc (.cells #[.pointer (some ⟨w1.heap.size, 0, none⟩)] 75)) w1.heap.size 81 [.map (some mb), .slice none 0 0, .slice none 0 0] := (Holds.new w1 81 [.map (some mb), .slice none 0 0, .slice none 0 0]).alloc _
  have hq4 : Holds ((w1.alloc (.cells #[.map (some mb), .slice none 0 0, .slice none 0 0] 81)).alloc (.cells #[.pointer (some ⟨w1.heap.size, 0, none⟩)] 75)) (w1.heap.size + 1) 75 [.pointer (some ⟨w1.heap.size, 0, none⟩)] := by
    have := Holds.new (w1.alloc (.cells #[.map (some mb), .slice none 0 0, .slice none 0 0] 81)) 75 [.pointer (some ⟨w1.heap.size, 0, none⟩)]
    rwa [World.size_alloc] at this
  have hsB : ((w1.alloc (.cells #[.map (some mb), .slice none 0 0, .slice none 0 0] 81)).alloc (.cells #[.pointer (some ⟨w1.heap.size, 0, none⟩)] 75)).heap.size = w1.heap.size + 2 := by simp
  generalize (w1.alloc (.cells #[.map (some mb), .slice none 0 0, .slice none 0 0] 81)).alloc (.cells #[.pointer (some ⟨w1.heap.size, 0, none⟩)] 75) = wB at *
  refine (callsIn_wide.2 (lineso_any tx wB)).mono ?_
  rintro e wC ⟨rfl, hwC⟩
  have hbC : Below wB.heap.size wB wC := by rw [← hwC]; exact (Below.refl _ wB).alloc (Nat.le_refl _) _
  have hqC : Holds wC wB.heap.size 9 [.string ⟨tx.toArray⟩] := by rw [← hwC]; exact Holds.new wB 9 [.string ⟨tx.toArray⟩]
  have hsC : wC.heap.size = w1.heap.size + 3 := by rw [← hwC]; simp [hsB]
  have hbw : Below w.heap.size w wC := hbw1.trans ((hbB.trans (hbC.mono hbB.size)).mono hbw1.size)
  have hbx : RdBx wC w.heap.size (w.heap.size + 1) (w1.heap.size + 1) w1.heap.size none 0 := ⟨(hq2'.below hbB).below hbC, (hq3'.below hbB).below hbC, hq4.below hbC⟩
  have hml : mb < w1.heap.size := hm1.lt
  have hrd : RdAt wC w.heap.size w1.heap.size mb (namesP tx) 0 ⟨[], []⟩ := ⟨_, _, (hrB.below hbC), ⟨by simp [flatA], .inl ⟨rfl, rfl⟩⟩, ⟨by simp [flatB], .inl ⟨rfl, rfl⟩⟩, (hm1.below hbB).below hbC, hbw1.size, by simp, by simp⟩
  clear hwC hbB hrB hq4 hbC hq2' hq3' hm1 hbw1
  have HqC := Lib.hid hqC; clear hqC
  have Hbw := Lib.hid hbw; clear hbw
  have Hbx := Lib.hid hbx; clear hbx
  have Hrd := Lib.hid hrd; clear hrd
  have HsC := Lib.hid (And.intro hs0 (And.intro hs1 (And.intro hsB hsC))); clear hsB hsC hs0 hs1
  have Hml := Lib.hid hml; clear hml
  clear hmb
  generalize wB.heap.size = q5 at *
  generalize w1.heap.size = b at *
  generalize hq3e : w.heap.size + 1 = q3 at *
  generalize hq2e : w.heap.size = q2 at *
  have Hqe := Lib.hid (And.intro hq2e hq3e); clear hq3e hq2e
  gi_wp2_with fail
  have hwC : w.heap.size ≤ wC.heap.size := by have := Hqe.out; have := HsC.out; omega
  have hmC : mb < wC.heap.size := by have := Hml.out; have := HsC.out; omega
  refine each_own rfl rfl (gf := 52) (lb := #[.pointer (some ⟨q5, 0, none⟩)]) rfl trivial (enters_of Tryz.func52 (by kernel_rfl) rfl)
    (lines_each _ q5 tx (by have := Htx.out; omega) wC (HqC.out.cell (i := 0) rfl) (fun _ _ => True)) (fun _ _ => trivial) (fun _ _ _ _ => trivial) (fun _ => rfl)
    (RdI w b mb q2 q3 (b + 1) (namesP tx)) (RdX w b mb q2 q3 (b + 1) (namesP tx)) (rdI_own hwC hmC) (rdX_own hwC hmC) ⟨by rw [Hqe.out.1]; exact Hbw.out, _, rfl, by rw [Hqe.out.1]; exact Hrd.out, Hbx.out⟩ ?round ?done ?stop
  case round =>
    rintro pre x rest W hx hl hi
    obtain ⟨hx1, hx2, hx3, hx4⟩ := lines_mem _ 1 tx (Nat.le_refl _) x (by rw [hx]; simp)
    have hpl : pre.length ≤ tx.length := by
      have h1 := lines_count _ 1 tx (Nat.le_refl _)
      rw [hx] at h1; simp at h1; omega
    obtain ⟨xn, xs⟩ := x
    simp only at hx1 hx2 hx3 hx4
    unfold RoundOwes
    simp only [encL]
    have Hi := Lib.hid hi; clear hi
    have Hx := Lib.hid hx; clear hx
    clear hl
    gi_wp2
    refine BodyOwes.plain (rdI_own hwC hmC) trivial Hi.out (fun W2 hl hi2 => ?_)
    clear hl Hi
    obtain ⟨hb2, y, hty, hrd2, hbx2⟩ := hi2
    have c4 := hbx2.r4.cell (i := 0) rfl
    have htk := take_any (H.out.below hb2) hrd2 hb2.size (by have := Htx.out; omega) (fun s => by have := place_names tx s; have := Htx.out; omega) ⟨xn, xs⟩ (by have := Htx.out; simp only; omega)
    have hsn := takes_snoc (x := ⟨xn, xs⟩) pre hty
    simp only at htk
    have Hb2 := Lib.hid hb2; clear hb2
    have Hty := Lib.hid hty; clear hty
    have Hbx2 := Lib.hid hbx2; clear hbx2
    have Hx12 := Lib.hid (And.intro hx1 (And.intro hx2 (And.intro hx4 hpl))); clear hx1 hx2 hx4 hpl hx3
    have Htk := Lib.hid htk; clear htk
    have HwC := Lib.hid (And.intro hwC hmC); clear hwC hmC
    clear hrd2
    cases hk : takeP (namesP tx) y ⟨xn, xs⟩ with
    | some z =>
      rw [hk] at Htk hsn
      simp only [Option.isSome_some, Option.getD_some] at Htk
      have Hsn := Lib.hid hsn; clear hsn
      clear hk
      gi_wp2_with fail
      refine (CallsIn.inRound _ (callsIn_wide.2 Htk.out)).mono ?_
      rintro e w5 ⟨⟨rfl, hrd5⟩, hT5⟩
      have Hrd5 := Lib.hid hrd5; clear hrd5
      have HT5 := Lib.hid hT5; clear hT5
      gi_wp2_with fail
      refine ⟨HT5.out.keepsFrom (fun k o h hk ho => ?_), trivial, ?_⟩
      · obtain ⟨_, c, t, fr, e1, _⟩ := h
        rw [e1] at ho; cases ho; rfl
      · exact ⟨Hb2.out.trans (RdC.below HT5.out Hb2.out.size), z, Hsn.out, by rw [List.length_append]; exact Hrd5.out, Hbx2.out.same HT5.out⟩
    | none =>
      rw [hk] at Htk
      simp only [Option.isSome_none, Option.getD_none] at Htk
      have Hk := Lib.hid hk; clear hk
      clear hsn
      gi_wp2_with fail
      refine (CallsIn.inRound _ (callsIn_wide.2 Htk.out)).mono ?_
      rintro e w5 ⟨⟨rfl, hrd5⟩, hT5⟩
      have hbx5 := Hbx2.out.same hT5
      have c4 := hbx5.r4.cell (i := 0) rfl
      have c2 := hbx5.r2.cell (i := 0) rfl
      have c3 := hbx5.r3.cell (i := 0) rfl
      have f2 := hbx5.r2.free 0
      have f3 := hbx5.r3.free 0
      have n32 : ¬ q3 = q2 := hbx5.r3.ne hbx5.r2 (by decide)
      have n23 : ¬ q2 = q3 := fun e => n32 e.symm
      have Hrd5 := Lib.hid hrd5; clear hrd5
      have HT5 := Lib.hid hT5; clear hT5
      have Hbx5 := Lib.hid hbx5; clear hbx5
      gi_wp2_with fail
      have hT6 : Tch (fun k => k = q2 ∨ k = q3) w5 ((w5.setCell ⟨q2, 0, none⟩ (.pointer (some ⟨b, 0, none⟩))).setCell ⟨q3, 0, none⟩ (.int .i64 (xn : Int))) := ((Tch.refl _ w5).setCell (p := ⟨q2, 0, none⟩) (.inl (.inl rfl)) _).setCell (p := ⟨q3, 0, none⟩) (.inl (.inr rfl)) _
      have Hn := Lib.hid (And.intro n23 n32); clear n23 n32
      have h2lt := Hbx.out.r2.lt
      have h3lt := Hbx.out.r3.lt
      refine ⟨KeepsFrom.trans (HT5.out.keepsFrom (fun k o h hk ho => ?_)) (hT6.keepsFrom (fun k o h hk ho => by rcases h with h | h <;> omega)), trivial, ?_⟩
      · obtain ⟨_, c, t, fr, e1, _⟩ := h
        rw [e1] at ho; cases ho; rfl
      · have hturn := Hbx5.out.turned (v := xn) Hrd5.out (by have h1 := Hqe.out; have h2 := HsC.out; omega)
        exact ⟨(Hb2.out.trans (RdC.below HT5.out Hb2.out.size)).trans (hT6.below (Nat.le_trans Hb2.out.size HT5.out.size) (fun k h => by have := Hqe.out; rcases h with h | h <;> omega)), rfl, y, pre, ⟨xn, xs⟩, rfl, Hty.out, Hk.out, by rw [List.length_append]; exact hturn.1, hturn.2⟩
  case done =>
    rintro W hi hD
    obtain ⟨hb2, y, hty, hrd2, hbx2⟩ := hi
    have c4 := hbx2.r4.cell (i := 0) rfl
    have c2 := hbx2.r2.cell (i := 0) rfl
    have c3 := hbx2.r3.cell (i := 0) rfl
    have f2 := hbx2.r2.free 0
    have f3 := hbx2.r3.free 0
    have n32 : ¬ q3 = q2 := hbx2.r3.ne hbx2.r2 (by decide)
    have n23 : ¬ q2 = q3 := fun e => n32 e.symm
    have hra : readP tx = (y, 0) := read_all _ hty
    have HDD := Lib.hid hD; clear hD
    have Hb2 := Lib.hid hb2; clear hb2
    have Hrd2 := Lib.hid hrd2; clear hrd2
    have Hbx2 := Lib.hid hbx2; clear hbx2
    have Hra := Lib.hid hra; clear hra
    clear hty
    gi_wp2_with fail
    have hturn := Hbx2.out.turned (v := 0) Hrd2.out (by have h1 := Hqe.out; have h2 := HsC.out; omega)
    have hT6 : Tch (fun k => k = q2 ∨ k = q3) W ((W.setCell ⟨q2, 0, none⟩ (.pointer (some ⟨b, 0, none⟩))).setCell ⟨q3, 0, none⟩ (.int .i64 0)) := ((Tch.refl _ W).setCell (p := ⟨q2, 0, none⟩) (.inl (.inl rfl)) _).setCell (p := ⟨q3, 0, none⟩) (.inl (.inr rfl)) _
    have h2lt := Hbx.out.r2.lt
    have h3lt := Hbx.out.r3.lt
    refine rd_leave rfl rfl ?_ hmC hwC (Hb2.out.trans (hT6.below Hb2.out.size (fun k h => by have := Hqe.out; rcases h with h | h <;> omega))) hturn.1 ?_ hturn.2 Hra.out
    · exact ((Below.heap_setCell _ ⟨q3, 0, none⟩ _ _ (show wC.heap.size ≠ q3 by omega)).trans (Below.heap_setCell W ⟨q2, 0, none⟩ _ _ (show wC.heap.size ≠ q2 by omega))).trans HDD.out
    · have := lines_count _ 1 tx (Nat.le_refl _); have := Htx.out; omega
  case stop =>
    rintro c pre W hp hx hD
    obtain ⟨hb2, rfl, y, pre', ⟨xn, xs⟩, hpe, hty, htk, hrd2, hbx2⟩ := hx
    obtain ⟨rest, hrest⟩ := hp
    rw [hpe, List.append_assoc] at hrest
    have hra : readP tx = (y, xn) := by
      unfold readP
      rw [← hrest]
      exact read_stop htk pre' hty
    have hpl : pre.length ≤ 1000000 := by
      have h1 := lines_count _ 1 tx (Nat.le_refl _)
      rw [← hrest] at h1
      rw [hpe]
      simp only [List.length_append, List.length_singleton] at h1 ⊢
      have := Htx.out; omega
    have HDD := Lib.hid hD; clear hD
    have Hb2 := Lib.hid hb2; clear hb2
    have Hrd2 := Lib.hid hrd2; clear hrd2
    have Hbx2 := Lib.hid hbx2; clear hbx2
    have Hra := Lib.hid hra; clear hra
    have Hpl := Lib.hid hpl; clear hpl
    clear hty htk hrest hpe
    gi_wp2_with fail
    exact rd_leave rfl rfl HDD.out hmC hwC Hb2.out Hrd2.out Hpl.out Hbx2.out Hra.out

theorem read_any (tx : By) (htx : tx.length ≤ 800000) {w : World} (h : Std w) : Calls Tryz.prog 27 #[.string ⟨tx.toArray⟩] w (ReadO tx w) := callsIn_wide.1 (read_in tx htx h)

end Go.Proofs.YteijhcibdglkeaaGreatDoor
