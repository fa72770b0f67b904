/- A core that was made anew: what it tells. Conditions: those stated in each theorem. -/
import Derived.Test.YtpgfcjfmhgifiaaMdC
namespace Go.Proofs.Ytpgfcjfmhgifiaa
open Go.RowKit Go.BigFrame

abbrev z8 : List Value := [.int .u64 0, .int .u64 0, .int .u64 0, .int .u64 0, .int .u64 0, .int .u64 0, .int .u64 0, .int .u64 0]
abbrev z5 : List Value := [.int .i64 0, .int .i64 0, .int .i64 0, .int .i64 0, .int .i64 0]
theorem Try.size8 : (Try.prog.info? 32).map (·.size) = some 8 := by kernel_rfl
theorem Try.size5 : (Try.prog.info? 81).map (·.size) = some 5 := by kernel_rfl

section
variable {w : World} {bc bf bl : Nat} {f s o : Int}
set_option maxHeartbeats 400000 in
theorem fnone_any (h : Holds w bf 90 fileZ) : Calls Try.prog 34 #[.pointer (some ⟨bf, 0, none⟩)] w fun e w' => e = .returned (.bool false) ∧ w = w' := by
  have c := h.cell (i := 10) rfl
  clear h
  go_enter Try.func34, Try.ntmps34
  go_wp2
  go_ret
  exact ⟨rfl, rfl⟩
set_option maxHeartbeats 400000 in
theorem fpointed_any (h : Holds w bf 90 fileZ) : Calls Try.prog 33 #[.pointer (some ⟨bf, 0, none⟩)] w fun e w' => e = .returned (.int .i64 60) ∧ w = w' := by
  have c := h.cell (i := 9) rfl
  have H := Lib.hid h; clear h
  go_enter Try.func33, Try.ntmps33
  go_wp2_with (go_at_call 34; refine (fnone_any H.out).mono ?_; rintro e w1 ⟨rfl, rfl⟩)
  go_ret
  exact ⟨rfl, rfl⟩
set_option maxHeartbeats 400000 in
theorem fpc_any (h : Holds w bf 90 fileZ) : Calls Try.prog 28 #[.pointer (some ⟨bf, 0, none⟩)] w fun e w' => e = .returned (.int .i64 0) ∧ w = w' := by
  have c := h.cell (i := 8) rfl
  clear h
  go_enter Try.func28, Try.ntmps28
  go_wp2
  go_ret
  exact ⟨rfl, rfl⟩
set_option maxRecDepth 100000 in
set_option maxHeartbeats 1000000 in
theorem fpoint_any (h : Holds w bf 90 fileZ) : Calls Try.prog 26 #[.pointer (some ⟨bf, 0, none⟩)] w fun e w' => e = .returned (.tuple #[.agg z8.toArray, .int .i64 0, .bool false]) ∧ Below w.heap.size w w' := by
  have hbx := Holds.new w 32 z8
  have Hb := Lib.hid ((Below.refl _ w).alloc (Nat.le_refl _) (.cells z8.toArray 32))
  have H := Lib.hid (h.alloc (.cells z8.toArray 32)); clear h
  have Hbx := Lib.hid hbx; clear hbx
  go_enter Try.func26, Try.ntmps26
  go_wp2_with (go_at_call 33; refine (fpointed_any H.out).mono ?_; rintro e w1 ⟨rfl, rfl⟩; refine Hid.out ?_)
  refine Lib.hid ?_
  generalize w.alloc (.cells z8.toArray 32) = w1 at *
  have Hth := Lib.hid (Hbx.out.there (o := 0) (n := 8) (Nat.le_refl _))
  go_wp2_with (refine wpList_store_mid rfl 32 (.tmp 2) (.tmp 8) rfl w.heap.size 0 z8.toArray rfl rfl ?_ Try.size8 (by simp [Value.oneCell']) ?_; exact Hth.out; change wpList _ _ _ _ _ (w1.setCells w.heap.size 0 z8))
  have hf := Hbx.out.over z8 rfl
  exact bodyPost_ret (results_ctt rfl rfl (run_loadVar_mid _ _ 0 32 z8 _ (holds_full hf) Try.underlying32 rfl Try.size8) rfl rfl) rfl ⟨rfl, below_cells (Nat.le_refl _) _ _ _ Hb.out⟩
set_option maxRecDepth 100000 in
set_option maxHeartbeats 1000000 in
theorem fall_any (h : Holds w bf 90 fileZ) : Calls Try.prog 27 #[.pointer (some ⟨bf, 0, none⟩)] w fun e w' => e = .returned (.agg z8.toArray) ∧ Below w.heap.size w w' := by
  have hbx := Holds.new w 32 z8
  have Hb := Lib.hid ((Below.refl _ w).alloc (Nat.le_refl _) (.cells z8.toArray 32))
  have hh := h.alloc (.cells z8.toArray 32)
  have hr : (w.alloc (.cells z8.toArray 32)).rangeAt bf 0 z8 := hh.range (fun i v hi => by
    rw [Nat.zero_add]
    match i, hi with
    | 0, hi => exact hi | 1, hi => exact hi | 2, hi => exact hi | 3, hi => exact hi | 4, hi => exact hi | 5, hi => exact hi | 6, hi => exact hi | 7, hi => exact hi)
  have Hr := Lib.hid hr; clear hr hh h
  have Hbx := Lib.hid hbx; clear hbx
  go_enter Try.func27, Try.ntmps27
  have hge : ∀ W : World, W = W := fun _ => rfl
  go_wp2_with (first | (refine wpList_load_mid rfl 32 (.tmp 9) rfl bf 0 rfl z8 _ Hr.out Try.underlying32 rfl Try.size8 ?_) | (refine wpList_store_mid rfl 32 (.tmp 2) (.tmp 10) rfl w.heap.size 0 z8.toArray rfl rfl ?_ Try.size8 (by simp [Value.oneCell']) ?_; exact (Hbx.out.there (o := 0) (n := 8) (Nat.le_refl _)); change wpList _ _ _ _ _ ((w.alloc (.cells z8.toArray 32)).setCells w.heap.size 0 z8)))
  have hf := Hbx.out.over z8 rfl
  exact bodyPost_ret (results_c rfl rfl (run_loadVar_mid _ _ 0 32 z8 _ (holds_full hf) Try.underlying32 rfl Try.size8)) rfl ⟨rfl, below_cells (Nat.le_refl _) _ _ _ Hb.out⟩
set_option maxHeartbeats 400000 in
theorem llane_any (h : CtAt w bl (Ct.new f s o)) : Calls Try.prog 29 #[.pointer (some ⟨bl, 0, none⟩)] w fun e w' => e = .returned (.int .i64 0) ∧ w = w' := by
  have c := h.head.cell (i := 6) rfl
  clear h
  go_enter Try.func29, Try.ntmps29
  go_wp2
  go_ret
  exact ⟨rfl, rfl⟩
set_option maxRecDepth 100000 in
set_option maxHeartbeats 1000000 in
theorem lcounts_any (h : CtAt w bl (Ct.new f s o)) : Calls Try.prog 30 #[.pointer (some ⟨bl, 0, none⟩)] w fun e w' => e = .returned (.agg z5.toArray) ∧ Below w.heap.size w w' := by
  have hbx := Holds.new w 81 z5
  have Hb := Lib.hid ((Below.refl _ w).alloc (Nat.le_refl _) (.cells z5.toArray 81))
  have hh := h.head.alloc (.cells z5.toArray 81)
  have hr : (w.alloc (.cells z5.toArray 81)).rangeAt bl 7 z5 := hh.range (fun i v hi => by
    match i, hi with
    | 0, hi => exact hi | 1, hi => exact hi | 2, hi => exact hi | 3, hi => exact hi | 4, hi => exact hi)
  have Hr := Lib.hid hr; clear hr hh h
  have Hbx := Lib.hid hbx; clear hbx
  go_enter Try.func30, Try.ntmps30
  go_wp2_with (first | (refine wpList_load_mid rfl 81 (.tmp 8) rfl bl 7 rfl z5 _ Hr.out Try.underlying81 rfl Try.size5 ?_) | (refine wpList_store_mid rfl 81 (.tmp 2) (.tmp 9) rfl w.heap.size 0 z5.toArray rfl rfl ?_ Try.size5 (by simp [Value.oneCell']) ?_; exact (Hbx.out.there (o := 0) (n := 5) (Nat.le_refl _)); change wpList _ _ _ _ _ ((w.alloc (.cells z5.toArray 81)).setCells w.heap.size 0 z5)))
  have hf := Hbx.out.over z5 rfl
  exact bodyPost_ret (results_c rfl rfl (run_loadVar_mid _ _ 0 81 z5 _ (holds_full hf) Try.underlying81 rfl Try.size5)) rfl ⟨rfl, below_cells (Nat.le_refl _) _ _ _ Hb.out⟩

end

end Go.Proofs.Ytpgfcjfmhgifiaa
