/- LogNames, closed: numbers, the chapter's examples, calls on none. Conditions: those stated in each theorem. -/
import Derived.Test.YtfngfphoefpndaaLogJ
namespace Go.Proofs.Ytfngfphoefpndaa
open Go.RowKit Go.BigFrame Go.Maps
attribute [local go_sem] Oper.semAt_some

set_option maxHeartbeats 1000000 in
theorem broken_bare {w : World} {p : Value} (hn : ∀ V, Below w.heap.size w V → Calls Try.prog 31 #[p] V fun e w' => e = .returned (.bool true) ∧ V = w') (L : Nat) (hL : L = 0) : Calls Try.prog 20 #[p, .slice none 0 L] w fun e w' => e = .returned (.tuple #[.int .i64 0, .bool false]) ∧ Below w.heap.size w w' := by
  subst hL
  have hB0 : Below w.heap.size w (((w.alloc (.cells #[.slice none 0 0] 26)).alloc (.cells #[.int .i64 0] 3)).alloc (.cells #[.bool false] 4)) := ((((Below.refl _ w).alloc (Nat.le_refl _) _).alloc (by simp) _).alloc (by simp; omega) _)
  have HN := Lib.hid (hn _ hB0); clear hn
  have HB := Lib.hid hB0; clear hB0
  go_enter Try.func20, Try.ntmps20
  go_wp2
  refine wp_scope_straight ?_
  go_wp2_with (go_at_call 31; refine HN.out.mono ?_; rintro e w' ⟨rfl, rfl⟩)
  rw [Exit.noGoto_ret]
  have r1 : ((((w.alloc (.cells #[.slice none 0 0] 26)).alloc (.cells #[.int .i64 0] 3)).alloc (.cells #[.bool false] 4))).cell? ⟨w.heap.size + 1, 0, none⟩ = some (.int .i64 0) := by
    have := Holds.new (w.alloc (.cells #[.slice none 0 0] 26)) 3 [.int .i64 0]
    simp only [World.size_alloc] at this
    exact (this.alloc _).cell (i := 0) rfl
  have r2 : ((((w.alloc (.cells #[.slice none 0 0] 26)).alloc (.cells #[.int .i64 0] 3)).alloc (.cells #[.bool false] 4))).cell? ⟨w.heap.size + 1 + 1, 0, none⟩ = some (.bool false) := by
    have := Holds.new ((w.alloc (.cells #[.slice none 0 0] 26)).alloc (.cells #[.int .i64 0] 3)) 4 [.bool false]
    simp only [World.size_alloc] at this
    exact this.cell (i := 0) rfl
  refine bodyPost_ret (v := .tuple #[.int .i64 0, .bool false]) ?_ rfl ⟨rfl, HB.out⟩
  simp [results, Try.f20, go_sem, r1, r2]

/-- So many reads, or writes. -/
def mkL (k : Nat) : List Pr := (List.range k).map fun (i : Nat) => ⟨(i : Int), 1⟩
theorem mkL_len (k : Nat) : (mkL k).length = k := by simp [mkL]
theorem mkL_no {k : Nat} {a : Int} (h : ∀ i : Nat, i < k → (i : Int) ≠ a) : posL (mkL k) a = none := by
  rw [posL_none]
  intro x hx
  obtain ⟨i, hi, rfl⟩ := List.mem_map.1 hx
  exact h i (List.mem_range.1 hi)
theorem mkL_read {k : Nat} (h : k < 128) : readL (mkL k) (k : Int) 1 = mkL (k + 1) := by
  unfold readL
  rw [if_neg (by omega), mkL_no (fun i hi => by omega), if_neg (by simp), mkL_len, if_neg (by omega)]
  simp [mkL, List.range_succ]
theorem mkL_write {k : Nat} (h : k < 128) : writeL (mkL k) (k : Int) 1 = mkL (k + 1) := by
  unfold writeL
  rw [if_neg (by omega), mkL_no (fun i hi => by omega), mkL_len]
  simp only
  rw [if_neg (by omega)]
  simp [mkL, List.range_succ]
def zcells : List Value := [.pointer none, .slice none 0 0, .map none, .slice none 0 0, .map none]
theorem came_lit {w : World} {t : TypeId} (l : List Pr) : RowsIn (w.alloc (.cells (flatP l).toArray t)) (some ⟨w.heap.size, 0, none⟩) 2 Pr.cells l := by
  refine .inr ⟨_, 0, rfl, by simp, fun k x hx i u hu => ?_⟩
  have hi : i < 2 := (List.getElem?_eq_some_iff.1 hu).1
  refine (Holds.new w t (flatP l)).cell (i := 0 + k * 2 + i) ?_
  match i, hi with
  | 0, _ => cases hu; rw [show 0 + k * 2 + 0 = 2 * k from by omega]; exact flatP_a hx
  | 1, _ => cases hu; rw [show 0 + k * 2 + 1 = 2 * k + 1 from by omega]; exact flatP_v hx

set_option maxRecDepth 100000 in
set_option maxHeartbeats 4000000 in
theorem lnames_ok (w : World) : Calls Try.prog 5 #[] w fun e w' => e = .returned (.bool true) ∧ Below w.heap.size w w' := by
  have H0 := Lib.hid (Below.refl w.heap.size w)
  go_enter Try.func5, Try.ntmps5
  go_wp2_with fail
  refine (new_st H0.out).mono ?_
  rintro e w1 ⟨a, rfl, h⟩
  have H := Lib.hid h; clear h H0
  go_wp2_with fail
  refine (read_st H.out 9 5 (by decide) (by decide)).mono ?_
  rintro e w2 ⟨rfl, h⟩
  clear H; have H := Lib.hid h; clear h
  go_wp2_with fail
  refine (read_st H.out 8 6 (by decide) (by decide)).mono ?_
  rintro e w3 ⟨rfl, h⟩
  rw [show (Lg.zero.read 9 5).read 8 6 = ⟨[⟨9, 5⟩, ⟨8, 6⟩], []⟩ from by decide] at h
  clear H; have H := Lib.hid h; clear h
  have hb4 : Below w3.heap.size w3 (w3.alloc (.cells (flatP [⟨8, 6⟩, ⟨9, 6⟩, ⟨9, 5⟩]).toArray 48)) := (Below.refl _ _).alloc (Nat.le_refl _) _
  have h4 := H.out.idle hb4
  have HC := Lib.hid (broken_st h4 (some ⟨w3.heap.size, 0, none⟩) 3 [⟨8, 6⟩, ⟨9, 6⟩, ⟨9, 5⟩] (came_lit _) (by decide))
  clear H hb4 h4
  go_wp2_with fail
  refine HC.out.mono ?_
  rintro e w4 ⟨rfl, h⟩
  rw [show BrkAns [⟨9, 5⟩, ⟨8, 6⟩] [⟨8, 6⟩, ⟨9, 6⟩, ⟨9, 5⟩] = .tuple #[.int .i64 0, .bool true] from by unfold BrkAns; rw [show brokenL [⟨9, 5⟩, ⟨8, 6⟩] [⟨8, 6⟩, ⟨9, 6⟩, ⟨9, 5⟩] = some 0 from by decide]; rfl]
  clear HC; have H := Lib.hid h; clear h
  have hb5 : Below w4.heap.size w4 (w4.alloc (.cells (flatP [⟨4, 9⟩]).toArray 48)) := (Below.refl _ _).alloc (Nat.le_refl _) _
  have h5 := H.out.idle hb5
  have HC := Lib.hid (broken_st h5 (some ⟨w4.heap.size, 0, none⟩) 1 [⟨4, 9⟩] (came_lit _) (by decide))
  clear H hb5 h5
  go_wp2_with fail
  refine HC.out.mono ?_
  rintro e w5 ⟨rfl, h⟩
  rw [show BrkAns [⟨9, 5⟩, ⟨8, 6⟩] [⟨4, 9⟩] = .tuple #[.int .i64 0, .bool false] from by unfold BrkAns; rw [show brokenL [⟨9, 5⟩, ⟨8, 6⟩] [⟨4, 9⟩] = none from by decide]; rfl]
  clear HC; have H := Lib.hid h; clear h
  go_wp2_with fail
  refine (read_st H.out (-1) 0 (by decide) (by decide)).mono ?_
  rintro e w6 ⟨rfl, h⟩
  rw [show errRead [⟨9, 5⟩, ⟨8, 6⟩] (-1) = 2 from by decide]
  clear H; have H := Lib.hid h; clear h
  go_wp2_with fail
  refine (write_st H.out (-1) 0 (by decide) (by decide)).mono ?_
  rintro e w7 ⟨rfl, h⟩
  rw [show errRead (Lg.read ⟨[⟨9, 5⟩, ⟨8, 6⟩], []⟩ (-1) 0).w (-1) = 2 from by decide]
  clear H; have H := Lib.hid h; clear h
  go_wp2_with fail
  refine (clear_st H.out).mono ?_
  rintro e w8 ⟨rfl, h⟩
  clear H; have H := Lib.hid h; clear h
  go_wp2
  go_loopw [9] (fun i wr => ∃ k : Nat, k ≤ 128 ∧ i = .int .i64 k ∧ LSt w wr a ⟨mkL k, mkL k⟩ []) (fun i _ => 128 - (intOf i).toNat)
  case atStart => exact ⟨0, by omega, rfl, H.out⟩
  case round =>
    obtain ⟨k, hk, rfl, hs⟩ := hrel
    have HS := Lib.hid hs; clear hs H
    by_cases hlt : k < 128
    · have e1 : Lg.read ⟨mkL k, mkL k⟩ k 1 = ⟨mkL (k + 1), mkL k⟩ := by simp only [Lg.read, mkL_read hlt]
      have e2 : Lg.write ⟨mkL (k + 1), mkL k⟩ k 1 = ⟨mkL (k + 1), mkL (k + 1)⟩ := by simp only [Lg.write, mkL_write hlt]
      have E1 := Lib.hid e1; clear e1
      have E2 := Lib.hid e2; clear e2
      go_wp2_with fail
      refine (read_st HS.out k 1 (WalkArith.wf_i64 (by omega)) (by decide)).mono ?_
      rintro e wa ⟨rfl, h⟩
      rw [E1.out] at h
      clear HS; have HS := Lib.hid h; clear h
      go_wp2_with fail
      refine (write_st HS.out k 1 (WalkArith.wf_i64 (by omega)) (by decide)).mono ?_
      rintro e wb ⟨rfl, h⟩
      rw [E2.out] at h
      clear HS; have HS := Lib.hid h; clear h
      go_wp2
      go_roundw
      case rel => exact ⟨k + 1, by omega, by go_num, HS.out⟩
      case measure => simp [intOf]; omega
    · have : k = 128 := by omega
      subst this
      have H := Lib.hid HS.out; clear HS
      generalize hwr : wr = w8 at H
      subst hwr
      go_wp2_with fail
      refine (read_st H.out 128 1 (by decide) (by decide)).mono ?_
      rintro e w9 ⟨rfl, h⟩
      rw [show errRead (mkL 128) 128 = 70 from by decide +kernel]
      rw [show Lg.read ⟨mkL 128, mkL 128⟩ 128 1 = ⟨mkL 128, mkL 128⟩ from by decide +kernel] at h
      clear H; have H := Lib.hid h; clear h
      go_wp2_with fail
      refine (read_st H.out 0 2 (by decide) (by decide)).mono ?_
      rintro e w10 ⟨rfl, h⟩
      rw [show errRead (mkL 128) 0 = 0 from by decide +kernel]
      rw [show Lg.read ⟨mkL 128, mkL 128⟩ 0 2 = ⟨mkL 128, mkL 128⟩ from by decide +kernel] at h
      clear H; have H := Lib.hid h; clear h
      go_wp2_with fail
      refine (write_st H.out 128 1 (by decide) (by decide)).mono ?_
      rintro e w11 ⟨rfl, h⟩
      rw [show errRead (mkL 128) 128 = 70 from by decide +kernel]
      rw [show Lg.write ⟨mkL 128, mkL 128⟩ 128 1 = ⟨mkL 128, mkL 128⟩ from by decide +kernel] at h
      clear H; have H := Lib.hid h; clear h
      go_wp2_with fail
      refine (write_st H.out 5 2 (by decide) (by decide)).mono ?_
      rintro e w12 ⟨rfl, h⟩
      rw [show errRead (mkL 128) 5 = 0 from by decide +kernel]
      have hlr : (Lg.write ⟨mkL 128, mkL 128⟩ 5 2).r.length = 128 := by decide +kernel
      have hlw : (Lg.write ⟨mkL 128, mkL 128⟩ 5 2).w.length = 128 := by decide +kernel
      have Hlr := Lib.hid hlr; have Hlw := Lib.hid hlw; clear hlr hlw
      generalize Lg.write ⟨mkL 128, mkL 128⟩ 5 2 = F at *
      clear H; have H := Lib.hid h; clear h
      have hz : Below w12.heap.size w12 (w12.alloc (.cells #[.pointer none, .slice none 0 0, .map none, .slice none 0 0, .map none] 54)) := (Below.refl _ _).alloc (Nat.le_refl _) _
      have hZ : Holds (w12.alloc (.cells #[.pointer none, .slice none 0 0, .map none, .slice none 0 0, .map none] 54)) w12.heap.size 54 [.pointer none, .slice none 0 0, .map none, .slice none 0 0, .map none] := Holds.new w12 54 [.pointer none, .slice none 0 0, .map none, .slice none 0 0, .map none]
      have h := H.out.idle hz
      clear H hz; have H := Lib.hid h; clear h
      have Z := Lib.hid hZ; clear hZ
      go_wp2_with fail
      generalize w12.alloc (.cells #[.pointer none, .slice none 0 0, .map none, .slice none 0 0, .map none] 54) = wz at *
      refine (was_none none_nil 0).mono ?_
      rintro e w' ⟨rfl, rfl⟩
      go_wp2_with fail
      refine (look_none (none_bare (Z.out.cell (i := 0) rfl)) 0).mono ?_
      rintro e w' ⟨rfl, rfl⟩
      go_wp2_with fail
      refine (broken_bare (fun V hV => none_bare ((Z.out.below hV).cell (i := 0) rfl)) 0 rfl).mono ?_
      rintro e wq ⟨rfl, hb⟩
      have h := H.out.idle hb
      have z := Z.out.below hb
      clear H Z hb; have H := Lib.hid h; clear h; have Z := Lib.hid z; clear z
      go_wp2_with fail
      refine (read_none none_nil 0 0).mono ?_
      rintro e w' ⟨rfl, rfl⟩
      go_wp2_with fail
      refine (write_none (none_bare (Z.out.cell (i := 0) rfl)) (-1) 0).mono ?_
      rintro e w' ⟨rfl, rfl⟩
      go_wp2_with fail
      refine (clear_none none_nil).mono ?_
      rintro e w' ⟨rfl, rfl⟩
      go_wp2_with fail
      refine (reads_none none_nil).mono ?_
      rintro e w' ⟨rfl, rfl⟩
      go_wp2_with fail
      refine (writes_none (none_bare (Z.out.cell (i := 0) rfl))).mono ?_
      rintro e w' ⟨rfl, rfl⟩
      go_wp2_with fail
      refine (alive_ok _).mono ?_
      rintro e wl ⟨rfl, hb⟩
      have h := H.out.idle hb
      clear H Z hb; have H := Lib.hid h; clear h
      go_wp2_with fail
      refine (reads_st H.out).mono ?_
      rintro e wm ⟨v, rfl, h⟩
      obtain ⟨g, cap, rfl⟩ := h.row1.form (by rw [Hlr.out]; decide)
      rw [Hlr.out] at h ⊢
      clear H; have H := Lib.hid h; clear h
      go_wp2_with fail
      refine (writes_st H.out).mono ?_
      rintro e wn ⟨v, rfl, h⟩
      obtain ⟨g2, cap2, rfl⟩ := h.row1.form (by rw [Hlw.out]; decide)
      rw [Hlw.out] at h ⊢
      have HB := Lib.hid h.below; clear H h
      go_wp2
      go_ret
      exact ⟨rfl, HB.out⟩

end Go.Proofs.Ytfngfphoefpndaa
