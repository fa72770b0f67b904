/- A core that was made anew: what it tells, and the document's. Conditions: those stated in each theorem. -/
import Derived.Test.YtpgfcjfmhgifiaaMdD
namespace Go.Proofs.Ytpgfcjfmhgifiaa
open Go.RowKit Go.BigFrame

section
variable {w : World} {bc bf bl bd : Nat} {f s o : Int}
set_option maxRecDepth 100000 in
set_option maxHeartbeats 1000000 in
theorem cnone_any (h : NewC w bc f s o) : Calls Try.prog 25 #[.pointer (some ⟨bc, 0, none⟩)] w fun e w' => e = .returned (.bool false) ∧ w = w' := by
  have HN := Lib.hid h
  obtain ⟨id, wd, v, bf, bl, bp, h1, h2, h3⟩ := h
  have c3 := h1.cell (i := 3) rfl
  have H2 := Lib.hid h2; clear h2
  have H3 := Lib.hid h3; clear h3 h1
  go_enter Try.func25, Try.ntmps25
  go_wp2
  go_ret
  exact ⟨rfl, rfl⟩
set_option maxRecDepth 100000 in
set_option maxHeartbeats 1000000 in
theorem chalted_any (h : NewC w bc f s o) : Calls Try.prog 13 #[.pointer (some ⟨bc, 0, none⟩)] w fun e w' => e = .returned (.tuple #[.bool false, .bool false]) ∧ Below w.heap.size w w' := by
  have HN := Lib.hid h
  obtain ⟨id, wd, v, bf, bl, bp, h1, h2, h3⟩ := h
  have c8 := h1.cell (i := 8) rfl
  have c9 := h1.cell (i := 9) rfl
  have H2 := Lib.hid h2; clear h2
  have H3 := Lib.hid h3; clear h3 h1
  go_enter Try.func13, Try.ntmps13
  have e8 : ∀ q, (w.drewN q).cell? ⟨bc, 8, none⟩ = some (.bool false) := fun q => c8
  have e9 : ∀ q, (w.drewN q).cell? ⟨bc, 9, none⟩ = some (.bool false) := fun q => c9
  go_wp2_with (go_at_call 25; refine (cnone_any HN.out).mono ?_; rintro e w1 ⟨rfl, rfl⟩)
  go_quiet (fail)
  go_wp2_with fail
  exact bodyPost_ret (results_tmp2 rfl _ _ _) rfl ⟨rfl, below_drewN (Below.refl _ _) _⟩
set_option maxRecDepth 100000 in
set_option maxHeartbeats 1000000 in
theorem cpc_any (h : NewC w bc f s o) : Calls Try.prog 15 #[.pointer (some ⟨bc, 0, none⟩)] w fun e w' => e = .returned (.int .i64 0) ∧ w = w' := by
  have HN := Lib.hid h
  obtain ⟨id, wd, v, bf, bl, bp, h1, h2, h3⟩ := h
  have c3 := h1.cell (i := 3) rfl
  have H2 := Lib.hid h2; clear h2
  have H3 := Lib.hid h3; clear h3 h1
  go_enter Try.func15, Try.ntmps15
  go_wp2_with (first | (go_at_call 25; refine (cnone_any HN.out).mono ?_; rintro e w1 ⟨rfl, rfl⟩) | (go_at_call 28; refine (fpc_any H2.out).mono ?_; rintro e w1 ⟨rfl, rfl⟩))
  go_ret
  exact ⟨rfl, rfl⟩
set_option maxRecDepth 100000 in
set_option maxHeartbeats 1000000 in
theorem clane_any (h : NewC w bc f s o) : Calls Try.prog 16 #[.pointer (some ⟨bc, 0, none⟩)] w fun e w' => e = .returned (.int .i64 0) ∧ w = w' := by
  have HN := Lib.hid h
  obtain ⟨id, wd, v, bf, bl, bp, h1, h2, h3⟩ := h
  have c4 := h1.cell (i := 4) rfl
  have H2 := Lib.hid h2; clear h2
  have H3 := Lib.hid h3; clear h3 h1
  go_enter Try.func16, Try.ntmps16
  go_wp2_with (first | (go_at_call 25; refine (cnone_any HN.out).mono ?_; rintro e w1 ⟨rfl, rfl⟩) | (go_at_call 29; refine (llane_any H3.out).mono ?_; rintro e w1 ⟨rfl, rfl⟩))
  go_ret
  exact ⟨rfl, rfl⟩
set_option maxRecDepth 100000 in
set_option maxHeartbeats 1000000 in
theorem cblock_any (h : NewC w bc f s o) : Calls Try.prog 17 #[.pointer (some ⟨bc, 0, none⟩)] w fun e w' => e = .returned (.int .i64 (-1)) ∧ w = w' := by
  have HN := Lib.hid h
  obtain ⟨id, wd, v, bf, bl, bp, h1, h2, h3⟩ := h
  have c6 := h1.cell (i := 6) rfl
  have H2 := Lib.hid h2; clear h2
  have H3 := Lib.hid h3; clear h3 h1
  go_enter Try.func17, Try.ntmps17
  go_wp2_with (go_at_call 25; refine (cnone_any HN.out).mono ?_; rintro e w1 ⟨rfl, rfl⟩)
  go_ret
  exact ⟨rfl, rfl⟩
set_option maxRecDepth 100000 in
set_option maxHeartbeats 1000000 in
theorem cinstrs_any (h : NewC w bc f s o) : Calls Try.prog 20 #[.pointer (some ⟨bc, 0, none⟩)] w fun e w' => e = .returned (.int .i64 0) ∧ w = w' := by
  have HN := Lib.hid h
  obtain ⟨id, wd, v, bf, bl, bp, h1, h2, h3⟩ := h
  have c7 := h1.cell (i := 7) rfl
  have H2 := Lib.hid h2; clear h2
  have H3 := Lib.hid h3; clear h3 h1
  go_enter Try.func20, Try.ntmps20
  go_wp2_with (go_at_call 25; refine (cnone_any HN.out).mono ?_; rintro e w1 ⟨rfl, rfl⟩)
  go_ret
  exact ⟨rfl, rfl⟩
set_option maxRecDepth 100000 in
set_option maxHeartbeats 1000000 in
theorem calone_any (h : NewC w bc f s o) : Calls Try.prog 21 #[.pointer (some ⟨bc, 0, none⟩)] w fun e w' => e = .returned (.bool false) ∧ w = w' := by
  have HN := Lib.hid h
  obtain ⟨id, wd, v, bf, bl, bp, h1, h2, h3⟩ := h
  have c20 := h1.cell (i := 20) rfl
  have H2 := Lib.hid h2; clear h2
  have H3 := Lib.hid h3; clear h3 h1
  go_enter Try.func21, Try.ntmps21
  go_wp2_with (go_at_call 25; refine (cnone_any HN.out).mono ?_; rintro e w1 ⟨rfl, rfl⟩)
  go_ret
  exact ⟨rfl, rfl⟩
set_option maxRecDepth 100000 in
set_option maxHeartbeats 1000000 in
theorem cregs_any (h : NewC w bc f s o) : Calls Try.prog 14 #[.pointer (some ⟨bc, 0, none⟩)] w fun e w' => e = .returned (.agg z8.toArray) ∧ Below w.heap.size w w' := by
  have HN := Lib.hid h
  obtain ⟨id, wd, v, bf, bl, bp, h1, h2, h3⟩ := h
  have c3 := h1.cell (i := 3) rfl
  have H2 := Lib.hid h2; clear h2
  have H3 := Lib.hid h3; clear h3 h1
  go_enter Try.func14, Try.ntmps14
  have hbx := Holds.new w 32 z8
  have Hb := Lib.hid ((Below.refl _ w).alloc (Nat.le_refl _) (.cells z8.toArray 32))
  have HN2 := Lib.hid (HN.out.below ((Below.refl _ w).alloc (Nat.le_refl _) (.cells z8.toArray 32)))
  have H2a := Lib.hid (H2.out.alloc (.cells z8.toArray 32))
  have H3a := Lib.hid (⟨H3.out.head.alloc (.cells z8.toArray 32), H3.out.ln4⟩ : CtAt _ bl (Ct.new f s o))
  have Hbx := Lib.hid hbx; clear hbx
  go_wp2_with (go_at_call 25; refine (cnone_any HN2.out).mono ?_; rintro e w1 ⟨rfl, rfl⟩; refine Hid.out ?_)
  refine Lib.hid ?_
  have ca : (w.alloc (.cells z8.toArray 32)).cell? ⟨bc, 3, none⟩ = _ := (((Below.refl _ w).alloc (Nat.le_refl _) (.cells z8.toArray 32)).cell (World.block_lt_of_cell? _ _ c3)).trans c3
  clear HN2 HN H2 H3 c3
  generalize w.alloc (.cells z8.toArray 32) = w1 at *
  go_wp2_with (go_at_call 27; refine (fall_any H2a.out).mono ?_; rintro e w2 ⟨rfl, hb2⟩; refine Hid.out ?_)
  refine Lib.hid ?_
  have Hbx := Lib.hid (show Holds w2 _ _ _ from (hb2.block _ Hbx.out.lt).trans Hbx.out)
  have Hb := Lib.hid (Hb.out.trans (hb2.mono Hb.out.size)); clear hb2
  have Hth := Lib.hid (Hbx.out.there (o := 0) (n := 8) (Nat.le_refl _))
  go_wp2_with (refine wpList_store_mid rfl 32 (.tmp 2) (.tmp 10) rfl w.heap.size 0 z8.toArray rfl rfl ?_ Try.size8 (by simp [Value.oneCell']) ?_; exact Hth.out; change wpList _ _ _ _ _ (w2.setCells w.heap.size 0 z8))
  have hf := Hbx.out.over z8 rfl
  exact bodyPost_ret (results_c rfl rfl (run_loadVar_mid _ _ 0 32 z8 _ (holds_full hf) Try.underlying32 rfl Try.size8)) rfl ⟨rfl, below_cells (Nat.le_refl _) _ _ _ Hb.out⟩
set_option maxRecDepth 100000 in
set_option maxHeartbeats 1000000 in
theorem ccounts_any (h : NewC w bc f s o) : Calls Try.prog 18 #[.pointer (some ⟨bc, 0, none⟩)] w fun e w' => e = .returned (.agg z5.toArray) ∧ Below w.heap.size w w' := by
  have HN := Lib.hid h
  obtain ⟨id, wd, v, bf, bl, bp, h1, h2, h3⟩ := h
  have c4 := h1.cell (i := 4) rfl
  have H2 := Lib.hid h2; clear h2
  have H3 := Lib.hid h3; clear h3 h1
  go_enter Try.func18, Try.ntmps18
  have hbx := Holds.new w 81 z5
  have Hb := Lib.hid ((Below.refl _ w).alloc (Nat.le_refl _) (.cells z5.toArray 81))
  have HN2 := Lib.hid (HN.out.below ((Below.refl _ w).alloc (Nat.le_refl _) (.cells z5.toArray 81)))
  have H2a := Lib.hid (H2.out.alloc (.cells z5.toArray 81))
  have H3a := Lib.hid (⟨H3.out.head.alloc (.cells z5.toArray 81), H3.out.ln4⟩ : CtAt _ bl (Ct.new f s o))
  have Hbx := Lib.hid hbx; clear hbx
  go_wp2_with (go_at_call 25; refine (cnone_any HN2.out).mono ?_; rintro e w1 ⟨rfl, rfl⟩; refine Hid.out ?_)
  refine Lib.hid ?_
  have ca : (w.alloc (.cells z5.toArray 81)).cell? ⟨bc, 4, none⟩ = _ := (((Below.refl _ w).alloc (Nat.le_refl _) (.cells z5.toArray 81)).cell (World.block_lt_of_cell? _ _ c4)).trans c4
  clear HN2 HN H2 H3 c4
  generalize w.alloc (.cells z5.toArray 81) = w1 at *
  go_wp2_with (go_at_call 30; refine (lcounts_any H3a.out).mono ?_; rintro e w2 ⟨rfl, hb2⟩; refine Hid.out ?_)
  refine Lib.hid ?_
  have Hbx := Lib.hid (show Holds w2 _ _ _ from (hb2.block _ Hbx.out.lt).trans Hbx.out)
  have Hb := Lib.hid (Hb.out.trans (hb2.mono Hb.out.size)); clear hb2
  have Hth := Lib.hid (Hbx.out.there (o := 0) (n := 5) (Nat.le_refl _))
  go_wp2_with (refine wpList_store_mid rfl 81 (.tmp 2) (.tmp 10) rfl w.heap.size 0 z5.toArray rfl rfl ?_ Try.size5 (by simp [Value.oneCell']) ?_; exact Hth.out; change wpList _ _ _ _ _ (w2.setCells w.heap.size 0 z5))
  have hf := Hbx.out.over z5 rfl
  exact bodyPost_ret (results_c rfl rfl (run_loadVar_mid _ _ 0 81 z5 _ (holds_full hf) Try.underlying81 rfl Try.size5)) rfl ⟨rfl, below_cells (Nat.le_refl _) _ _ _ Hb.out⟩
set_option maxRecDepth 100000 in
set_option maxHeartbeats 1000000 in
theorem cpoint_any (h : NewC w bc f s o) : Calls Try.prog 12 #[.pointer (some ⟨bc, 0, none⟩)] w fun e w' => e = .returned (.tuple #[.agg z8.toArray, .int .i64 0, .bool false]) ∧ Below w.heap.size w w' := by
  have HN := Lib.hid h
  obtain ⟨id, wd, v, bf, bl, bp, h1, h2, h3⟩ := h
  have c3 := h1.cell (i := 3) rfl
  have H2 := Lib.hid h2; clear h2
  have H3 := Lib.hid h3; clear h3 h1
  go_enter Try.func12, Try.ntmps12
  have hbx := Holds.new w 32 z8
  have Hb := Lib.hid ((Below.refl _ w).alloc (Nat.le_refl _) (.cells z8.toArray 32))
  have HN2 := Lib.hid (HN.out.below ((Below.refl _ w).alloc (Nat.le_refl _) (.cells z8.toArray 32)))
  have H2a := Lib.hid (H2.out.alloc (.cells z8.toArray 32))
  have H3a := Lib.hid (⟨H3.out.head.alloc (.cells z8.toArray 32), H3.out.ln4⟩ : CtAt _ bl (Ct.new f s o))
  have Hbx := Lib.hid hbx; clear hbx
  go_wp2_with (go_at_call 25; refine (cnone_any HN2.out).mono ?_; rintro e w1 ⟨rfl, rfl⟩; refine Hid.out ?_)
  refine Lib.hid ?_
  have ca : (w.alloc (.cells z8.toArray 32)).cell? ⟨bc, 3, none⟩ = _ := (((Below.refl _ w).alloc (Nat.le_refl _) (.cells z8.toArray 32)).cell (World.block_lt_of_cell? _ _ c3)).trans c3
  clear HN2 HN H2 H3 c3
  generalize w.alloc (.cells z8.toArray 32) = w1 at *
  go_wp2_with (go_at_call 26; refine (fpoint_any H2a.out).mono ?_; rintro e w2 ⟨rfl, hb2⟩; refine Hid.out ?_)
  refine Lib.hid ?_
  have Hbx := Lib.hid (show Holds w2 _ _ _ from (hb2.block _ Hbx.out.lt).trans Hbx.out)
  have Hb := Lib.hid (Hb.out.trans (hb2.mono Hb.out.size)); clear hb2
  have Hth := Lib.hid (Hbx.out.there (o := 0) (n := 8) (Nat.le_refl _))
  go_wp2_with (refine wpList_store_mid rfl 32 (.tmp 2) (.tmp 13) rfl w.heap.size 0 z8.toArray rfl rfl ?_ Try.size8 (by simp [Value.oneCell']) ?_; exact Hth.out; change wpList _ _ _ _ _ (w2.setCells w.heap.size 0 z8))
  have hf := Hbx.out.over z8 rfl
  exact bodyPost_ret (results_ctt rfl rfl (run_loadVar_mid _ _ 0 32 z8 _ (holds_full hf) Try.underlying32 rfl Try.size8) rfl rfl) rfl ⟨rfl, below_cells (Nat.le_refl _) _ _ _ Hb.out⟩

/-! ### The document's -/
set_option maxRecDepth 100000 in
set_option maxHeartbeats 1000000 in
theorem rcount_any (b off : Nat) (i : Int) (hc : w.cell? ⟨b, off + 4, none⟩ = some (.slice none 0 0)) : Calls Try.prog 31 #[.pointer (some ⟨b, off, none⟩), .int .i64 i] w fun e w' => e = .returned (.int .i64 0) ∧ w = w' := by
  go_enter Try.func31, Try.ntmps31
  go_wp2_with fail
  go_loopw [5, 6] (fun u5 u6 wr => u5 = .int .i64 0 ∧ u6 = .int .i64 0 ∧ wr = w) (fun _ _ _ => 0)
  case atStart => exact ⟨rfl, rfl, rfl⟩
  case round =>
    obtain ⟨rfl, rfl, rfl⟩ := hrel
    go_wp2
    go_ret
    exact ⟨rfl, rfl⟩
set_option maxRecDepth 100000 in
set_option maxHeartbeats 2000000 in
theorem rcounts_any (b off : Nat) (hc : w.cell? ⟨b, off + 4, none⟩ = some (.slice none 0 0)) : Calls Try.prog 19 #[.pointer (some ⟨b, off, none⟩)] w fun e w' => e = .returned (.agg z5.toArray) ∧ Below w.heap.size w w' := by
  have hlt := World.block_lt_of_cell? _ _ hc
  have h1 : Holds ((w.alloc (.cells z5.toArray 81)).alloc (.cells z5.toArray 81)) w.heap.size 81 z5 := (Holds.new w _ _).alloc _
  have h2 : Holds ((w.alloc (.cells z5.toArray 81)).alloc (.cells z5.toArray 81)) (w.heap.size + 1) 81 z5 := by
    have := Holds.new (w.alloc (.cells z5.toArray 81)) 81 z5
    rwa [World.size_alloc] at this
  have hb : Below w.heap.size w ((w.alloc (.cells z5.toArray 81)).alloc (.cells z5.toArray 81)) := ((Below.refl _ w).alloc (Nat.le_refl _) _).alloc (by simp) _
  have H1 := Lib.hid h1; clear h1
  have H2 := Lib.hid h2; clear h2
  have Hb := Lib.hid hb; clear hb
  have Hc := Lib.hid hc; clear hc
  go_enter Try.func19, Try.ntmps19
  go_wp2_with fail
  generalize (w.alloc (.cells z5.toArray 81)).alloc (.cells z5.toArray 81) = w1 at *
  go_loopw [4] (fun u4 wr => ∃ k : Nat, 1 ≤ k ∧ k ≤ 5 ∧ u4 = .int .i64 k ∧ Holds wr w.heap.size 81 z5 ∧ Holds wr (w.heap.size + 1) 81 z5 ∧ Below w.heap.size w wr) (fun i _ => 5 - (intOf i).toNat)
  case atStart => exact ⟨1, by omega, by omega, rfl, H1.out, H2.out, Hb.out⟩
  case round =>
    clear H1 H2 Hb
    obtain ⟨k, hk1, hk5, rfl, h1, h2, hb⟩ := hrel
    have hc : wr.cell? ⟨b, off + 4, none⟩ = some (.slice none 0 0) := (hb.cell hlt).trans Hc.out
    have HR := Lib.hid (fun i => rcount_any b off i hc); clear hc
    have Hb := Lib.hid hb; clear hb
    by_cases h5 : k = 5
    · subst h5
      have H1 := Lib.hid h1; clear h1
      have Hth := Lib.hid (H1.out.there (o := 0) (n := 5) (Nat.le_refl _))
      have Hr := Lib.hid (holds_full h2); clear h2
      go_wp2_with (first | (refine wpList_load_mid rfl 81 (.tmp 3) rfl (w.heap.size + 1) 0 rfl z5 _ Hr.out Try.underlying81 rfl Try.size5 ?_) | (refine wpList_store_mid rfl 81 (.tmp 2) (.tmp 14) rfl w.heap.size 0 z5.toArray rfl rfl ?_ Try.size5 (by simp [Value.oneCell']) ?_; exact Hth.out; change wpList _ _ _ _ _ (wr.setCells w.heap.size 0 z5)))
      have hf := H1.out.over z5 rfl
      exact bodyPost_ret (results_c rfl rfl (run_loadVar_mid _ _ 0 81 z5 _ (holds_full hf) Try.underlying81 rfl Try.size5)) rfl ⟨rfl, below_cells (Nat.le_refl _) _ _ _ Hb.out⟩
    · have hki : (1 : Int) ≤ k ∧ (k : Int) < 5 := by omega
      have hfz := h2.free k
      have hcell : wr.cell? ⟨w.heap.size + 1, k, none⟩ = some (.int .i64 0) := h2.cell (by
        rcases (by omega : k = 1 ∨ k = 2 ∨ k = 3 ∨ k = 4) with rfl | rfl | rfl | rfl <;> rfl)
      have hz : z5.set k (.int .i64 0) = z5 := by
        rcases (by omega : k = 1 ∨ k = 2 ∨ k = 3 ∨ k = 4) with rfl | rfl | rfl | rfl <;> rfl
      have hn : w.heap.size ≠ w.heap.size + 1 := by omega
      have HS := Lib.hid (hz ▸ h2.set k (.int .i64 0))
      have HO := Lib.hid (show Holds (wr.setCell ⟨w.heap.size + 1, k, none⟩ (.int .i64 0)) w.heap.size 81 z5 from (Below.heap_setCell wr ⟨w.heap.size + 1, k, none⟩ _ _ hn).trans h1)
      have HB := Lib.hid (Hb.out.setCell (p := ⟨w.heap.size + 1, k, none⟩) (by show w.heap.size ≤ w.heap.size + 1; omega) (.int .i64 0))
      clear h1 h2 hz
      go_wp2_with (go_at_call 31; refine (HR.out _).mono ?_; rintro e w2 ⟨rfl, rfl⟩)
      go_roundw
      case rel => exact ⟨k + 1, by omega, by omega, by go_num, HO.out, HS.out, HB.out⟩
      case measure => simp [intOf]; omega
set_option maxHeartbeats 400000 in
theorem ralone_any (b : Nat) (hc : w.cell? ⟨b, 53, none⟩ = some (.bool false)) : Calls Try.prog 22 #[.pointer (some ⟨b, 0, none⟩)] w fun e w' => e = .returned (.bool false) ∧ w = w' := by
  go_enter Try.func22, Try.ntmps22
  go_wp2
  go_ret
  exact ⟨rfl, rfl⟩
end

end Go.Proofs.Ytpgfcjfmhgifiaa
