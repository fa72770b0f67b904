/- The document's core that is made anew. Conditions: those stated in each theorem. -/
import Derived.Test.YtpgfcjfmhgifiaaMdB
namespace Go.Proofs.Ytpgfcjfmhgifiaa
open Go.RowKit Go.BigFrame

set_option maxRecDepth 100000 in
set_option maxHeartbeats 2000000 in
theorem rmay_yes {f s o : Int} (h : MayB f s o) (w : World) : Calls Try.prog 11 #[bud f s o] w fun e w' => e = .returned (.bool true) ∧ Below w.heap.size w w' := by
  obtain ⟨⟨h1, h2⟩, ⟨h3, h4⟩, h5, h6⟩ := h
  have HB := Lib.hid ((Below.refl _ w).alloc (Nat.le_refl _) (.cells #[.int .i64 f, .int .i64 s, .int .i64 o] 24))
  have a1 : decide (0 ≤ f) = true := by simp; omega
  have a2 : decide (f < 0) = false := by simp; omega
  have a3 : decide (f ≤ 16) = true := by simp; omega
  have b1 : decide (0 ≤ s) = true := by simp; omega
  have b2 : decide (s < 0) = false := by simp; omega
  have b3 : decide (s ≤ 16) = true := by simp; omega
  have c1 : decide (0 ≤ o) = true := by simp; omega
  have c2 : decide (o < 0) = false := by simp; omega
  have c3 : decide (o ≤ 16) = true := by simp; omega
  unfold bud
  go_enter Try.func11, Try.ntmps11
  go_wp2
  go_ret
  exact ⟨by simp, HB.out⟩
set_option maxRecDepth 100000 in
set_option maxHeartbeats 2000000 in
theorem rmay_no {f s o : Int} (h : ¬ MayB f s o) (w : World) : Calls Try.prog 11 #[bud f s o] w fun e w' => e = .returned (.bool false) ∧ Below w.heap.size w w' := by
  have HB := Lib.hid ((Below.refl _ w).alloc (Nat.le_refl _) (.cells #[.int .i64 f, .int .i64 s, .int .i64 o] 24))
  unfold MayB at h
  unfold bud
  by_cases a : 0 ≤ f
  · have a1 : decide (0 ≤ f) = true := by simp; omega
    have a2 : decide (f < 0) = false := by simp; omega
    by_cases a' : f ≤ 16
    · have a3 : decide (f ≤ 16) = true := by simp; omega
      by_cases b : 0 ≤ s
      · have b1 : decide (0 ≤ s) = true := by simp; omega
        have b2 : decide (s < 0) = false := by simp; omega
        by_cases b' : s ≤ 16
        · have b3 : decide (s ≤ 16) = true := by simp; omega
          by_cases c : 0 ≤ o
          · have c1 : decide (0 ≤ o) = true := by simp; omega
            have c2 : decide (o < 0) = false := by simp; omega
            have c3 : decide (o ≤ 16) = false := by simp; omega
            clear h
            go_enter Try.func11, Try.ntmps11
            go_wp2
            go_ret
            exact ⟨by simp, HB.out⟩
          · have c1 : decide (0 ≤ o) = false := by simp; omega
            have c2 : decide (o < 0) = true := by simp; omega
            clear h
            go_enter Try.func11, Try.ntmps11
            go_wp2
            go_ret
            exact ⟨by simp, HB.out⟩
        · have b3 : decide (s ≤ 16) = false := by simp; omega
          clear h
          go_enter Try.func11, Try.ntmps11
          go_wp2
          go_ret
          exact ⟨by simp, HB.out⟩
      · have b1 : decide (0 ≤ s) = false := by simp; omega
        have b2 : decide (s < 0) = true := by simp; omega
        clear h
        go_enter Try.func11, Try.ntmps11
        go_wp2
        go_ret
        exact ⟨by simp, HB.out⟩
    · have a3 : decide (f ≤ 16) = false := by simp; omega
      clear h
      go_enter Try.func11, Try.ntmps11
      go_wp2
      go_ret
      exact ⟨by simp, HB.out⟩
  · have a1 : decide (0 ≤ f) = false := by simp; omega
    have a2 : decide (f < 0) = true := by simp; omega
    clear h
    go_enter Try.func11, Try.ntmps11
    go_wp2
    go_ret
    exact ⟨by simp, HB.out⟩

theorem splice_all : ∀ (vs L : List Value) (o : Nat), o + vs.length = L.length → splice L o vs = L.take o ++ vs
  | [], L, o, h => by simp at h; simp [splice, h]
  | v :: r, L, o, h => by
    have ho : o < L.length := by simp at h; omega
    rw [splice, splice_all r (L.set o v) (o + 1) (by simp at h ⊢; omega), List.take_add_one, List.take_set_of_le (Nat.le_refl o), List.getElem?_set_self ho]
    simp
theorem Holds.over {w : World} {b : Nat} {t : TypeId} {L : List Value} (h : Holds w b t L) (vs : List Value) (hl : vs.length = L.length) : Holds (w.setCells b 0 vs) b t vs := by
  have := h.sets vs 0
  rwa [splice_all vs L 0 (by omega), List.take_zero, List.nil_append] at this
/-- The document's core. -/
abbrev docC (id lines : Int) (code : Value) (f s o : Int) : List Value := [.int .i64 id, .int .i64 lines, code, .int .u64 0, .int .u64 0, .int .u64 0, .int .u64 0, .int .u64 0, .int .u64 0, .int .u64 0, .int .u64 0, .int .i64 0, .bool false, .int .u64 0, .int .u64 0, .int .u64 0, .int .u64 0, .int .u64 0, .int .u64 0, .int .u64 0, .int .u64 0, .int .i64 0, .int .i64 f, .int .i64 s, .int .i64 o, .int .i64 0, .slice none 0 0, .int .i64 0, .int .u64 0, .int .i64 0, .int .u64 0, .int .u64 0, .int .i64 0, .int .i64 0, .int .i64 0, .int .u64 0, .int .u64 0, .slice none 0 0, .slice none 0 0, .bool false, .bool false, .int .i64 0, .int .i64 0, .int .i64 0, .int .i64 0, .int .i64 0, .int .i64 0, .int .u64 0, .int .u64 0, .int .u64 0, .slice none 0 0, .int .i64 0, .bool false, .bool false, .bool false, .int .i64 0, .int .i64 0, .bool false, .bool false, .slice none 0 0]
abbrev docZ : List Value := docC 0 0 (.slice none 0 0) 0 0 0
def docV (id lines : Int) (code : Value) (f s o : Int) : Value := .agg (docC id lines code f s o).toArray

set_option maxRecDepth 100000 in
set_option maxHeartbeats 2000000 in
theorem refnew_ok {id lines f s o : Int} (ad : Option Addr) (n cap : Nat) (w : World) (hn : n ≤ 1024) (hi : 0 ≤ id ∧ id < 4) (hq : 2 ≤ lines ∧ lines ≤ 64) (hm : MayB f s o) :
    Calls Try.prog 5 #[.int .i64 id, .slice ad n cap, bud f s o, .int .i64 lines] w fun e w' => e = .returned (.tuple #[docV id lines (.slice ad n cap) f s o, .int .i64 0]) ∧ Below w.heap.size w w' := by
  have hn1 : (n : Int) ≤ 1024 := by omega
  have g1 : decide (id < 0) = false := by simp; omega
  have g2 : decide (4 ≤ id) = false := by simp; omega
  have g2' : decide (id < 4) = true := by simp; omega
  have g3 : decide (1024 < (n : Int)) = false := by simp; omega
  have g4 : decide (lines < 2) = false := by simp; omega
  have g5 : decide (64 < lines) = false := by simp; omega
  have HN := Lib.hid (fun V => rmay_yes hm V); clear hm
  have hb0 : Below w.heap.size w (w.alloc (.cells #[.int .i64 f, .int .i64 s, .int .i64 o] 24)) := (Below.refl _ w).alloc (Nat.le_refl _) _
  have hb1 := hb0.alloc (by simp) (.cells docZ.toArray 47)
  have hbx : Holds ((w.alloc (.cells #[.int .i64 f, .int .i64 s, .int .i64 o] 24)).alloc (.cells docZ.toArray 47)) (w.heap.size + 1) 47 docZ := by
    have := Holds.new (w.alloc (.cells #[.int .i64 f, .int .i64 s, .int .i64 o] 24)) 47 docZ
    rwa [World.size_alloc] at this
  have hbu : Holds ((w.alloc (.cells #[.int .i64 f, .int .i64 s, .int .i64 o] 24)).alloc (.cells docZ.toArray 47)) w.heap.size 24 [.int .i64 f, .int .i64 s, .int .i64 o] := (Holds.new w _ _).alloc _
  have Hb1 := Lib.hid hb1; clear hb1 hb0
  have Hbx := Lib.hid hbx; clear hbx
  have Hbu := Lib.hid hbu; clear hbu
  unfold bud at *
  go_enter Try.func5, Try.ntmps5
  go_wp2_with (go_at_call 11; refine (HN.out _).mono ?_; rintro e w1 ⟨rfl, hb⟩; refine Hid.out ?_)
  refine Lib.hid ?_
  generalize (w.alloc (.cells #[.int .i64 f, .int .i64 s, .int .i64 o] 24)).alloc (.cells docZ.toArray 47) = w0 at *
  have Hbx := Lib.hid (show Holds w1 _ _ _ from (hb.block _ Hbx.out.lt).trans Hbx.out)
  have hbu1 : Holds w1 w.heap.size 24 [.int .i64 f, .int .i64 s, .int .i64 o] := (hb.block _ Hbu.out.lt).trans Hbu.out
  have d0 := hbu1.cell (i := 0) rfl
  have d1 := hbu1.cell (i := 1) rfl
  have d2 := hbu1.cell (i := 2) rfl
  have Hb2 := Lib.hid (Hb1.out.trans (hb.mono Hb1.out.size)); clear hb hbu1 Hb1 Hbu
  have Hth := Lib.hid (Hbx.out.there (o := 0) (n := 60) (Nat.le_refl _))
  go_wp2_with (refine wpList_store_mid rfl 47 (.tmp 8) (.tmp 42) rfl (w.heap.size + 1) 0 (docC id lines (.slice ad n cap) f s o).toArray rfl rfl ?_ (by kernel_rfl) (by simp [Value.oneCell']) ?_; exact Hth.out; change wpList _ _ _ _ _ (w1.setCells (w.heap.size + 1) 0 (docC id lines (.slice ad n cap) f s o)))
  have hf : Holds (w1.setCells (w.heap.size + 1) 0 (docC id lines (.slice ad n cap) f s o)) (w.heap.size + 1) 47 (docC id lines (.slice ad n cap) f s o) := Hbx.out.over (docC id lines (.slice ad n cap) f s o) rfl
  exact bodyPost_ret (results_ct rfl rfl (run_loadVar_mid _ _ 0 47 (docC id lines (.slice ad n cap) f s o) _ (holds_full hf) Try.underlying47 rfl (by kernel_rfl)) rfl) rfl ⟨rfl, below_cells (by omega) _ _ _ Hb2.out⟩

set_option maxRecDepth 100000 in
set_option maxHeartbeats 4000000 in
theorem refnew_no {id lines f s o : Int} (ad : Option Addr) (n cap : Nat) (w : World) (h : ¬ (0 ≤ id ∧ id < 4 ∧ n ≤ 1024 ∧ 2 ≤ lines ∧ lines ≤ 64 ∧ MayB f s o)) :
    Calls Try.prog 5 #[.int .i64 id, .slice ad n cap, bud f s o, .int .i64 lines] w fun e w' => e = .returned (.tuple #[docV 0 0 (.slice none 0 0) 0 0 0, .int .i64 2]) ∧ Below w.heap.size w w' := by
  have hb0 : Below w.heap.size w (w.alloc (.cells #[.int .i64 f, .int .i64 s, .int .i64 o] 24)) := (Below.refl _ w).alloc (Nat.le_refl _) _
  have hb1 := hb0.alloc (by simp) (.cells docZ.toArray 47)
  have hbx : Holds ((w.alloc (.cells #[.int .i64 f, .int .i64 s, .int .i64 o] 24)).alloc (.cells docZ.toArray 47)) (w.heap.size + 1) 47 docZ := by
    have := Holds.new (w.alloc (.cells #[.int .i64 f, .int .i64 s, .int .i64 o] 24)) 47 docZ
    rwa [World.size_alloc] at this
  have Hb1 := Lib.hid hb1; clear hb1 hb0
  have Hbx := Lib.hid hbx; clear hbx
  by_cases hm : MayB f s o
  · have HN := Lib.hid (fun V => rmay_yes hm V)
    by_cases h1 : id < 0
    · have g1 : decide (id < 0) = true := by simp; omega
      clear h
      unfold bud at *
      go_enter Try.func5, Try.ntmps5
      go_wp2_with (go_at_call 11; refine (HN.out _).mono ?_; rintro e w1 ⟨rfl, hb⟩; refine Hid.out ?_)
      refine Lib.hid ?_
      generalize (w.alloc (.cells #[.int .i64 f, .int .i64 s, .int .i64 o] 24)).alloc (.cells docZ.toArray 47) = w0 at *
      have Hbx := Lib.hid (show Holds w1 _ _ _ from (hb.block _ Hbx.out.lt).trans Hbx.out)
      have Hb2 := Lib.hid (Hb1.out.trans (hb.mono Hb1.out.size)); clear hb Hb1
      have Hth := Lib.hid (Hbx.out.there (o := 0) (n := 60) (Nat.le_refl _))
      go_wp2_with (refine wpList_store_mid rfl 47 (.tmp 8) (.tmp 36) rfl (w.heap.size + 1) 0 docZ.toArray rfl rfl ?_ (by kernel_rfl) (by simp [Value.oneCell']) ?_; exact Hth.out; change wpList _ _ _ _ _ (w1.setCells (w.heap.size + 1) 0 docZ))
      have hf : Holds (w1.setCells (w.heap.size + 1) 0 docZ) (w.heap.size + 1) 47 docZ := Hbx.out.over docZ rfl
      exact bodyPost_ret (results_ct rfl rfl (run_loadVar_mid _ _ 0 47 docZ _ (holds_full hf) Try.underlying47 rfl (by kernel_rfl)) rfl) rfl ⟨rfl, below_cells (by omega) _ _ _ Hb2.out⟩
    have g1 : decide (id < 0) = false := by simp; omega
    by_cases h2 : 4 ≤ id
    · have g2 : decide (4 ≤ id) = true := by simp; omega
      have g2' : decide (id < 4) = false := by simp; omega
      clear h
      unfold bud at *
      go_enter Try.func5, Try.ntmps5
      go_wp2_with (go_at_call 11; refine (HN.out _).mono ?_; rintro e w1 ⟨rfl, hb⟩; refine Hid.out ?_)
      refine Lib.hid ?_
      generalize (w.alloc (.cells #[.int .i64 f, .int .i64 s, .int .i64 o] 24)).alloc (.cells docZ.toArray 47) = w0 at *
      have Hbx := Lib.hid (show Holds w1 _ _ _ from (hb.block _ Hbx.out.lt).trans Hbx.out)
      have Hb2 := Lib.hid (Hb1.out.trans (hb.mono Hb1.out.size)); clear hb Hb1
      have Hth := Lib.hid (Hbx.out.there (o := 0) (n := 60) (Nat.le_refl _))
      go_wp2_with (refine wpList_store_mid rfl 47 (.tmp 8) (.tmp 36) rfl (w.heap.size + 1) 0 docZ.toArray rfl rfl ?_ (by kernel_rfl) (by simp [Value.oneCell']) ?_; exact Hth.out; change wpList _ _ _ _ _ (w1.setCells (w.heap.size + 1) 0 docZ))
      have hf : Holds (w1.setCells (w.heap.size + 1) 0 docZ) (w.heap.size + 1) 47 docZ := Hbx.out.over docZ rfl
      exact bodyPost_ret (results_ct rfl rfl (run_loadVar_mid _ _ 0 47 docZ _ (holds_full hf) Try.underlying47 rfl (by kernel_rfl)) rfl) rfl ⟨rfl, below_cells (by omega) _ _ _ Hb2.out⟩
    have g2 : decide (4 ≤ id) = false := by simp; omega
    have g2' : decide (id < 4) = true := by simp; omega
    by_cases h3 : 1024 < n
    · have g3 : decide (1024 < (n : Int)) = true := by simp; omega
      clear h
      unfold bud at *
      go_enter Try.func5, Try.ntmps5
      go_wp2_with (go_at_call 11; refine (HN.out _).mono ?_; rintro e w1 ⟨rfl, hb⟩; refine Hid.out ?_)
      refine Lib.hid ?_
      generalize (w.alloc (.cells #[.int .i64 f, .int .i64 s, .int .i64 o] 24)).alloc (.cells docZ.toArray 47) = w0 at *
      have Hbx := Lib.hid (show Holds w1 _ _ _ from (hb.block _ Hbx.out.lt).trans Hbx.out)
      have Hb2 := Lib.hid (Hb1.out.trans (hb.mono Hb1.out.size)); clear hb Hb1
      have Hth := Lib.hid (Hbx.out.there (o := 0) (n := 60) (Nat.le_refl _))
      go_wp2_with (refine wpList_store_mid rfl 47 (.tmp 8) (.tmp 36) rfl (w.heap.size + 1) 0 docZ.toArray rfl rfl ?_ (by kernel_rfl) (by simp [Value.oneCell']) ?_; exact Hth.out; change wpList _ _ _ _ _ (w1.setCells (w.heap.size + 1) 0 docZ))
      have hf : Holds (w1.setCells (w.heap.size + 1) 0 docZ) (w.heap.size + 1) 47 docZ := Hbx.out.over docZ rfl
      exact bodyPost_ret (results_ct rfl rfl (run_loadVar_mid _ _ 0 47 docZ _ (holds_full hf) Try.underlying47 rfl (by kernel_rfl)) rfl) rfl ⟨rfl, below_cells (by omega) _ _ _ Hb2.out⟩
    have g3 : decide (1024 < (n : Int)) = false := by simp; omega
    by_cases h4 : lines < 2
    · have g4 : decide (lines < 2) = true := by simp; omega
      clear h
      unfold bud at *
      go_enter Try.func5, Try.ntmps5
      go_wp2_with (go_at_call 11; refine (HN.out _).mono ?_; rintro e w1 ⟨rfl, hb⟩; refine Hid.out ?_)
      refine Lib.hid ?_
      generalize (w.alloc (.cells #[.int .i64 f, .int .i64 s, .int .i64 o] 24)).alloc (.cells docZ.toArray 47) = w0 at *
      have Hbx := Lib.hid (show Holds w1 _ _ _ from (hb.block _ Hbx.out.lt).trans Hbx.out)
      have Hb2 := Lib.hid (Hb1.out.trans (hb.mono Hb1.out.size)); clear hb Hb1
      have Hth := Lib.hid (Hbx.out.there (o := 0) (n := 60) (Nat.le_refl _))
      go_wp2_with (refine wpList_store_mid rfl 47 (.tmp 8) (.tmp 36) rfl (w.heap.size + 1) 0 docZ.toArray rfl rfl ?_ (by kernel_rfl) (by simp [Value.oneCell']) ?_; exact Hth.out; change wpList _ _ _ _ _ (w1.setCells (w.heap.size + 1) 0 docZ))
      have hf : Holds (w1.setCells (w.heap.size + 1) 0 docZ) (w.heap.size + 1) 47 docZ := Hbx.out.over docZ rfl
      exact bodyPost_ret (results_ct rfl rfl (run_loadVar_mid _ _ 0 47 docZ _ (holds_full hf) Try.underlying47 rfl (by kernel_rfl)) rfl) rfl ⟨rfl, below_cells (by omega) _ _ _ Hb2.out⟩
    have g4 : decide (lines < 2) = false := by simp; omega
    have g5 : decide (64 < lines) = true := by
      have : 64 < lines := by
        rcases Int.lt_or_le 64 lines with h5 | h5
        · exact h5
        · exact absurd ⟨by omega, by omega, by omega, by omega, by omega, hm⟩ h
      simp; omega
    clear h
    unfold bud at *
    go_enter Try.func5, Try.ntmps5
    go_wp2_with (go_at_call 11; refine (HN.out _).mono ?_; rintro e w1 ⟨rfl, hb⟩; refine Hid.out ?_)
    refine Lib.hid ?_
    generalize (w.alloc (.cells #[.int .i64 f, .int .i64 s, .int .i64 o] 24)).alloc (.cells docZ.toArray 47) = w0 at *
    have Hbx := Lib.hid (show Holds w1 _ _ _ from (hb.block _ Hbx.out.lt).trans Hbx.out)
    have Hb2 := Lib.hid (Hb1.out.trans (hb.mono Hb1.out.size)); clear hb Hb1
    have Hth := Lib.hid (Hbx.out.there (o := 0) (n := 60) (Nat.le_refl _))
    go_wp2_with (refine wpList_store_mid rfl 47 (.tmp 8) (.tmp 36) rfl (w.heap.size + 1) 0 docZ.toArray rfl rfl ?_ (by kernel_rfl) (by simp [Value.oneCell']) ?_; exact Hth.out; change wpList _ _ _ _ _ (w1.setCells (w.heap.size + 1) 0 docZ))
    have hf : Holds (w1.setCells (w.heap.size + 1) 0 docZ) (w.heap.size + 1) 47 docZ := Hbx.out.over docZ rfl
    exact bodyPost_ret (results_ct rfl rfl (run_loadVar_mid _ _ 0 47 docZ _ (holds_full hf) Try.underlying47 rfl (by kernel_rfl)) rfl) rfl ⟨rfl, below_cells (by omega) _ _ _ Hb2.out⟩
  · have HN := Lib.hid (fun V => rmay_no hm V)
    clear h
    unfold bud at *
    go_enter Try.func5, Try.ntmps5
    go_wp2_with (go_at_call 11; refine (HN.out _).mono ?_; rintro e w1 ⟨rfl, hb⟩; refine Hid.out ?_)
    refine Lib.hid ?_
    generalize (w.alloc (.cells #[.int .i64 f, .int .i64 s, .int .i64 o] 24)).alloc (.cells docZ.toArray 47) = w0 at *
    have Hbx := Lib.hid (show Holds w1 _ _ _ from (hb.block _ Hbx.out.lt).trans Hbx.out)
    have Hb2 := Lib.hid (Hb1.out.trans (hb.mono Hb1.out.size)); clear hb Hb1
    have Hth := Lib.hid (Hbx.out.there (o := 0) (n := 60) (Nat.le_refl _))
    go_wp2_with (refine wpList_store_mid rfl 47 (.tmp 8) (.tmp 36) rfl (w.heap.size + 1) 0 docZ.toArray rfl rfl ?_ (by kernel_rfl) (by simp [Value.oneCell']) ?_; exact Hth.out; change wpList _ _ _ _ _ (w1.setCells (w.heap.size + 1) 0 docZ))
    have hf : Holds (w1.setCells (w.heap.size + 1) 0 docZ) (w.heap.size + 1) 47 docZ := Hbx.out.over docZ rfl
    exact bodyPost_ret (results_ct rfl rfl (run_loadVar_mid _ _ 0 47 docZ _ (holds_full hf) Try.underlying47 rfl (by kernel_rfl)) rfl) rfl ⟨rfl, below_cells (by omega) _ _ _ Hb2.out⟩

end Go.Proofs.Ytpgfcjfmhgifiaa
