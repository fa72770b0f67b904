/- RegsNames: the walk. It answers true, and turns nothing that was there. -/
import Derived.Test.YtcammonbhehakaaRegE
namespace Go.Proofs.Ytcammonbhehakaa
open Go.RowKit Go.BigFrame

theorem bare_none {w W : World} {b : Nat} (h : Holds w b 49 (Mo.zero.fcells (.pointer none) false)) (hb : Below w.heap.size w W) : Calls Try.prog 31 #[.pointer (some ⟨b, 0, none⟩)] W fun e w' => e = .returned (.bool true) ∧ W = w' :=
  none_bare ((h.below hb).cell rfl)
set_option maxHeartbeats 400000 in
theorem pc_bare {w W : World} {b : Nat} (h : Holds w b 49 (Mo.zero.fcells (.pointer none) false)) (hb : Below w.heap.size w W) : Calls Try.prog 20 #[.pointer (some ⟨b, 0, none⟩)] W fun e w' => e = .returned (.int .i64 0) ∧ W = w' := by
  have c : W.cell? ⟨b, 8, none⟩ = some (.int .i64 0) := (h.below hb).cell rfl
  clear h
  go_enter Try.func20, Try.ntmps20
  go_wp2
  go_ret
  exact ⟨rfl, rfl⟩

set_option maxRecDepth 100000 in
set_option maxHeartbeats 4000000 in
theorem rnames_ok (w : World) : Calls Try.prog 5 #[] w fun e w' => e = .returned (.bool true) ∧ Below w.heap.size w w' := by
  have H0 := Lib.hid (Below.refl w.heap.size w)
  go_enter Try.func5, Try.ntmps5
  go_wp2_with fail
  refine (new_st H0.out).mono ?_
  rintro e w1 ⟨a, rfl, h⟩
  have H := Lib.hid h; clear h H0
  go_wp2_with fail
  refine (restore_st H.out).mono ?_
  rintro e V ⟨rfl, h⟩
  rw [show Fl.zero.errP = 60 from rfl]
  clear H; have H := Lib.hid h; clear h
  go_wp2_with fail
  refine (drop_st H.out).mono ?_
  rintro e V ⟨rfl, h⟩
  rw [show (Fl.zero.restore).errP = 60 from rfl]
  clear H; have H := Lib.hid h; clear h
  go_wp2_with fail
  refine (point_st H.out).mono ?_
  rintro e V ⟨rfl, h⟩
  rw [show ((Fl.zero.restore).drop).point.r.cells.toArray = L8.zero.cells.toArray from rfl, show ((Fl.zero.restore).drop).point.pc = 0 from rfl, show ((Fl.zero.restore).drop).pt.isSome = false from rfl]
  clear H
  obtain ⟨W, eW, hT, h⟩ := h.box L8.zero
  have HE := Lib.hid eW; clear eW
  have HT := Lib.hid hT; clear hT
  have H := Lib.hid (h.drop [] (by simp)); clear h
  go_wp2_with (refine wpList_store_mid rfl 27 (.tmp 4) (.tmp 30) rfl V.heap.size 0 L8.zero.cells.toArray rfl rfl ?_ Try.sizeRegs (oneL8 _) ?_; exact HT.out; change wpList _ _ _ _ _ ((V.alloc (.cells L8.zero.cells.toArray 27)).setCells V.heap.size 0 L8.zero.cells); rw [← HE.out])
  refine (set_st H.out 8 1).mono ?_
  rintro e V ⟨rfl, h⟩
  rw [show errR 8 = 2 from rfl]
  clear H; have H := Lib.hid h; clear h
  go_wp2_with fail
  refine (get_st H.out (-1)).mono ?_
  rintro e V ⟨rfl, rfl⟩
  rw [show errR (-1) = 2 from rfl, show (((Fl.zero.restore).drop).set 8 1).get (-1) = 0 from rfl]
  go_wp2_with fail
  refine (jump_st H.out (-1)).mono ?_
  rintro e V ⟨rfl, h⟩
  rw [show errJ (-1) = 2 from rfl]
  clear H; have H := Lib.hid h; clear h
  go_wp2_with fail
  refine (save_st H.out).mono ?_
  rintro e V ⟨rfl, h⟩
  clear H; have H := Lib.hid h; clear h
  go_wp2_with fail
  refine (drop_st H.out).mono ?_
  rintro e V ⟨rfl, h⟩
  rw [show (((((Fl.zero.restore).drop).set 8 1).jump (-1)).save).errP = 0 from rfl]
  clear H; have H := Lib.hid h; clear h
  go_wp2_with fail
  refine (restore_st H.out).mono ?_
  rintro e V ⟨rfl, h⟩
  rw [show ((((((Fl.zero.restore).drop).set 8 1).jump (-1)).save).drop).errP = 60 from rfl]
  have HB := Lib.hid (h.below.trans (((Below.refl V.heap.size V).alloc (Nat.le_refl _) (.cells (Mo.zero.fcells (.pointer none) false).toArray 49)).mono h.below.size))
  have HZ := Lib.hid (Holds.new V 49 (Mo.zero.fcells (.pointer none) false))
  obtain ⟨W, eW⟩ : ∃ W, W = V.alloc (.cells (Mo.zero.fcells (.pointer none) false).toArray 49) := ⟨_, rfl⟩
  rw [← eW] at HB HZ
  have HE := Lib.hid eW; clear eW
  clear H h
  have HW := Lib.hid (Below.refl W.heap.size W)
  go_wp2_with (go_at_call 16; change Calls _ _ _ (V.alloc (.cells (Mo.zero.fcells (.pointer none) false).toArray 49)) _; rw [← HE.out]; refine (get_none (none_nil W) 0).mono ?_; rintro e X ⟨rfl, rfl⟩; generalize V.heap.size = b at *)
  refine (set_none (bare_none HZ.out HW.out) 9 1).mono ?_
  rintro e X ⟨rfl, rfl⟩
  go_wp2_with fail
  refine (point_err (er := 1) (fun Y hY => pointed_none (bare_none HZ.out hY)) rfl).mono ?_
  rintro e X ⟨rfl, hx⟩
  obtain ⟨Y, eY, hb, hT, -⟩ := lbox X L8.zero
  have HX := Lib.hid (hx.trans (hb.mono hx.size)); clear hx hb
  have HT := Lib.hid hT; clear hT
  have EY := Lib.hid eY; clear eY
  clear HW
  go_wp2_with (refine wpList_store_mid rfl 27 (.tmp 18) (.tmp 56) rfl X.heap.size 0 L8.zero.cells.toArray rfl rfl ?_ Try.sizeRegs (oneL8 _) ?_; exact HT.out; change wpList _ _ _ _ _ ((X.alloc (.cells L8.zero.cells.toArray 27)).setCells X.heap.size 0 L8.zero.cells); rw [← EY.out])
  refine (jump_none (none_nil Y) (-1)).mono ?_
  rintro e Z ⟨rfl, rfl⟩
  go_wp2_with fail
  refine (save_none (bare_none HZ.out HX.out)).mono ?_
  rintro e Z ⟨rfl, rfl⟩
  go_wp2_with fail
  refine (restore_none (none_nil Y)).mono ?_
  rintro e Z ⟨rfl, rfl⟩
  go_wp2_with fail
  refine (drop_none (bare_none HZ.out HX.out)).mono ?_
  rintro e Z ⟨rfl, rfl⟩
  go_wp2_with fail
  refine (all_nil Y).mono ?_
  rintro e Z ⟨rfl, hz⟩
  rw [show L8.zero.cells.toArray = #[.int .u64 0, .int .u64 0, .int .u64 0, .int .u64 0, .int .u64 0, .int .u64 0, .int .u64 0, .int .u64 0] from rfl]
  have HZ2 := Lib.hid (HX.out.trans (hz.mono HX.out.size)); clear hz
  go_wp2_with fail
  refine (pc_bare HZ.out HZ2.out).mono ?_
  rintro e Z' ⟨rfl, rfl⟩
  go_wp2_with fail
  refine (alive_ok Z).mono ?_
  rintro e Z' ⟨rfl, hz⟩
  have HB2 := Lib.hid (HB.out.trans ((HZ2.out.trans (hz.mono HZ2.out.size)).mono HB.out.size)); clear hz
  go_wp2
  go_ret
  exact ⟨rfl, HB2.out⟩

end Go.Proofs.Ytcammonbhehakaa
