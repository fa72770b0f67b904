/- LanesNames: the walk. It answers true, and turns nothing that was there. -/
import Derived.Test.YtncepiaacadcpaaLanE
namespace Go.Proofs.Ytncepiaacadcpaa
open Go.RowKit Go.BigFrame

theorem zero_range {w : World} {b : Nat} (h : Holds w b 48 (Ct.zero.cells false)) : w.rangeAt b 7 Ct.zero.cts := h.range (fun i v hi => by
  match i, (List.getElem?_eq_some_iff.1 hi).1 with
  | 0, _ => exact hi | 1, _ => exact hi | 2, _ => exact hi | 3, _ => exact hi | 4, _ => exact hi)

set_option maxRecDepth 100000 in
set_option maxHeartbeats 20000000 in
theorem lnames_ok (w : World) : Calls Try.prog 4 #[] w fun e w' => e = .returned (.bool true) ∧ Below w.heap.size w w' := by
  have H := Lib.hid ((Aparts.nil w).box 23 [.int .i64 2, .int .i64 0, .int .i64 1])
  go_enter Try.func4, Try.ntmps4
  go_wp2_with fail
  refine (new_a H.out (f := 2) (s := 0) (o := 1) may_201).mono ?_
  rintro e V ⟨c, rfl, h⟩
  clear H; have H : Hid (Aparts w V [holdP w.heap.size 23 [.int .i64 2, .int .i64 0, .int .i64 1], ctP c ⟨2, 0, 1, 0, 0, 0, 0⟩]) := Lib.hid h; clear h
  go_wp2_with fail
  refine (enter_a H.out 1 rfl (c' := ⟨2, 0, 1, 1, 0, 0, 0⟩) (k := 1) (er := 0) (l' := [holdP w.heap.size 23 [.int .i64 2, .int .i64 0, .int .i64 1], ctP c ⟨2, 0, 1, 1, 0, 0, 0⟩]) rfl rfl rfl rfl).mono ?_
  rintro e V ⟨rfl, h⟩
  clear H; have H : Hid (Aparts w V [holdP w.heap.size 23 [.int .i64 2, .int .i64 0, .int .i64 1], ctP c ⟨2, 0, 1, 1, 0, 0, 0⟩]) := Lib.hid h; clear h
  go_wp2_with fail
  refine (abort_a H.out 1 rfl 1 (c' := ⟨2, 0, 1, 1, 1, 0, 0⟩) (k := 1) (er := 0) (l' := [holdP w.heap.size 23 [.int .i64 2, .int .i64 0, .int .i64 1], ctP c ⟨2, 0, 1, 1, 1, 0, 0⟩]) rfl rfl rfl rfl).mono ?_
  rintro e V ⟨rfl, h⟩
  clear H; have H : Hid (Aparts w V [holdP w.heap.size 23 [.int .i64 2, .int .i64 0, .int .i64 1], ctP c ⟨2, 0, 1, 1, 1, 0, 0⟩]) := Lib.hid h; clear h
  go_wp2_with fail
  refine (abort_a H.out 1 rfl 5 (c' := ⟨2, 0, 1, 3, 2, 0, 0⟩) (k := 3) (er := 0) (l' := [holdP w.heap.size 23 [.int .i64 2, .int .i64 0, .int .i64 1], ctP c ⟨2, 0, 1, 3, 2, 0, 0⟩]) rfl rfl rfl rfl).mono ?_
  rintro e V ⟨rfl, h⟩
  clear H; have H : Hid (Aparts w V [holdP w.heap.size 23 [.int .i64 2, .int .i64 0, .int .i64 1], ctP c ⟨2, 0, 1, 3, 2, 0, 0⟩]) := Lib.hid h; clear h
  go_wp2_with fail
  refine (abort_a H.out 1 rfl 8 (c' := ⟨2, 0, 1, 4, 2, 0, 1⟩) (k := 4) (er := 0) (l' := [holdP w.heap.size 23 [.int .i64 2, .int .i64 0, .int .i64 1], ctP c ⟨2, 0, 1, 4, 2, 0, 1⟩]) rfl rfl rfl rfl).mono ?_
  rintro e V ⟨rfl, h⟩
  clear H; have H : Hid (Aparts w V [holdP w.heap.size 23 [.int .i64 2, .int .i64 0, .int .i64 1], ctP c ⟨2, 0, 1, 4, 2, 0, 1⟩]) := Lib.hid h; clear h
  go_wp2_with fail
  refine (abort_a H.out 1 rfl 1 (c' := ⟨2, 0, 1, 4, 2, 0, 1⟩) (k := 0) (er := 90) (l' := [holdP w.heap.size 23 [.int .i64 2, .int .i64 0, .int .i64 1], ctP c ⟨2, 0, 1, 4, 2, 0, 1⟩]) rfl rfl rfl rfl).mono ?_
  rintro e V ⟨rfl, h⟩
  clear H; have H : Hid (Aparts w V [holdP w.heap.size 23 [.int .i64 2, .int .i64 0, .int .i64 1], ctP c ⟨2, 0, 1, 4, 2, 0, 1⟩]) := Lib.hid h; clear h
  go_wp2_with fail
  refine (counts_a H.out 1 rfl).mono ?_
  rintro e Vn ⟨rfl, h⟩
  clear H; have H : Hid (Aparts w _ [holdP w.heap.size 23 [.int .i64 2, .int .i64 0, .int .i64 1], ctP c ⟨2, 0, 1, 4, 2, 0, 1⟩, holdP Vn.heap.size 42 [.int .i64 0, .int .i64 2, .int .i64 0, .int .i64 1, .int .i64 0]]) := Lib.hid (h.box 42 [.int .i64 0, .int .i64 2, .int .i64 0, .int .i64 1, .int .i64 0]); clear h
  go_wp2_with fail
  refine (leave_a H.out 1 rfl (c' := ⟨2, 0, 1, 0, 0, 0, 0⟩) (er := 0) rfl rfl rfl).mono ?_
  rintro e V ⟨rfl, h⟩
  generalize Vn.heap.size = nb at *
  clear H; have H : Hid (Aparts w V [holdP w.heap.size 23 [.int .i64 2, .int .i64 0, .int .i64 1], ctP c ⟨2, 0, 1, 0, 0, 0, 0⟩, holdP nb 42 [.int .i64 0, .int .i64 2, .int .i64 0, .int .i64 1, .int .i64 0]]) := Lib.hid h; clear h
  go_wp2_with fail
  refine (enter_a H.out 1 rfl (c' := ⟨2, 0, 1, 1, 0, 0, 0⟩) (k := 1) (er := 0) (l' := [holdP w.heap.size 23 [.int .i64 2, .int .i64 0, .int .i64 1], ctP c ⟨2, 0, 1, 1, 0, 0, 0⟩, holdP nb 42 [.int .i64 0, .int .i64 2, .int .i64 0, .int .i64 1, .int .i64 0]]) rfl rfl rfl rfl).mono ?_
  rintro e V ⟨rfl, h⟩
  clear H; have H : Hid (Aparts w V [holdP w.heap.size 23 [.int .i64 2, .int .i64 0, .int .i64 1], ctP c ⟨2, 0, 1, 1, 0, 0, 0⟩, holdP nb 42 [.int .i64 0, .int .i64 2, .int .i64 0, .int .i64 1, .int .i64 0]]) := Lib.hid h; clear h
  go_wp2_with fail
  refine (abort_a H.out 1 rfl 3 (c' := ⟨2, 0, 1, 3, 1, 0, 0⟩) (k := 3) (er := 0) (l' := [holdP w.heap.size 23 [.int .i64 2, .int .i64 0, .int .i64 1], ctP c ⟨2, 0, 1, 3, 1, 0, 0⟩, holdP nb 42 [.int .i64 0, .int .i64 2, .int .i64 0, .int .i64 1, .int .i64 0]]) rfl rfl rfl rfl).mono ?_
  rintro e V ⟨rfl, h⟩
  clear H; have H : Hid (Aparts w V [holdP w.heap.size 23 [.int .i64 2, .int .i64 0, .int .i64 1], ctP c ⟨2, 0, 1, 3, 1, 0, 0⟩, holdP nb 42 [.int .i64 0, .int .i64 2, .int .i64 0, .int .i64 1, .int .i64 0]]) := Lib.hid h; clear h
  have x0 := (H.out.hold (i := 0) rfl).cell (i := 0) rfl
  have x1 := (H.out.hold (i := 0) rfl).cell (i := 1) rfl
  have x2 := (H.out.hold (i := 0) rfl).cell (i := 2) rfl
  go_wp2_with fail
  refine (new_a H.out (f := 2) (s := 0) (o := 1) may_201).mono ?_
  rintro e V ⟨d, rfl, h⟩
  clear x0 x1 x2
  clear H; have H : Hid (Aparts w V [holdP w.heap.size 23 [.int .i64 2, .int .i64 0, .int .i64 1], ctP c ⟨2, 0, 1, 3, 1, 0, 0⟩, holdP nb 42 [.int .i64 0, .int .i64 2, .int .i64 0, .int .i64 1, .int .i64 0], ctP d ⟨2, 0, 1, 0, 0, 0, 0⟩]) := Lib.hid h; clear h
  go_wp2_with fail
  refine (abort_a H.out 3 rfl 1 (c' := ⟨2, 0, 1, 0, 0, 0, 0⟩) (k := 0) (er := 90) (l' := [holdP w.heap.size 23 [.int .i64 2, .int .i64 0, .int .i64 1], ctP c ⟨2, 0, 1, 3, 1, 0, 0⟩, holdP nb 42 [.int .i64 0, .int .i64 2, .int .i64 0, .int .i64 1, .int .i64 0], ctP d ⟨2, 0, 1, 0, 0, 0, 0⟩]) rfl rfl rfl rfl).mono ?_
  rintro e V ⟨rfl, h⟩
  clear H; have H : Hid (Aparts w V [holdP w.heap.size 23 [.int .i64 2, .int .i64 0, .int .i64 1], ctP c ⟨2, 0, 1, 3, 1, 0, 0⟩, holdP nb 42 [.int .i64 0, .int .i64 2, .int .i64 0, .int .i64 1, .int .i64 0], ctP d ⟨2, 0, 1, 0, 0, 0, 0⟩]) := Lib.hid h; clear h
  go_wp2_with fail
  refine (leave_a H.out 3 rfl (c' := ⟨2, 0, 1, 0, 0, 0, 0⟩) (er := 90) (l' := [holdP w.heap.size 23 [.int .i64 2, .int .i64 0, .int .i64 1], ctP c ⟨2, 0, 1, 3, 1, 0, 0⟩, holdP nb 42 [.int .i64 0, .int .i64 2, .int .i64 0, .int .i64 1, .int .i64 0], ctP d ⟨2, 0, 1, 0, 0, 0, 0⟩]) rfl rfl rfl).mono ?_
  rintro e V ⟨rfl, h⟩
  clear H; have H : Hid (Aparts w V [holdP w.heap.size 23 [.int .i64 2, .int .i64 0, .int .i64 1], ctP c ⟨2, 0, 1, 3, 1, 0, 0⟩, holdP nb 42 [.int .i64 0, .int .i64 2, .int .i64 0, .int .i64 1, .int .i64 0], ctP d ⟨2, 0, 1, 0, 0, 0, 0⟩]) := Lib.hid h; clear h
  go_wp2_with fail
  refine (enter_a H.out 3 rfl (c' := ⟨2, 0, 1, 1, 0, 0, 0⟩) (k := 1) (er := 0) (l' := [holdP w.heap.size 23 [.int .i64 2, .int .i64 0, .int .i64 1], ctP c ⟨2, 0, 1, 3, 1, 0, 0⟩, holdP nb 42 [.int .i64 0, .int .i64 2, .int .i64 0, .int .i64 1, .int .i64 0], ctP d ⟨2, 0, 1, 1, 0, 0, 0⟩]) rfl rfl rfl rfl).mono ?_
  rintro e V ⟨rfl, h⟩
  clear H; have H : Hid (Aparts w V [holdP w.heap.size 23 [.int .i64 2, .int .i64 0, .int .i64 1], ctP c ⟨2, 0, 1, 3, 1, 0, 0⟩, holdP nb 42 [.int .i64 0, .int .i64 2, .int .i64 0, .int .i64 1, .int .i64 0], ctP d ⟨2, 0, 1, 1, 0, 0, 0⟩]) := Lib.hid h; clear h
  go_wp2_with fail
  refine (abort_a H.out 3 rfl 7 (c' := ⟨2, 0, 1, 1, 0, 0, 0⟩) (k := 0) (er := 2) (l' := [holdP w.heap.size 23 [.int .i64 2, .int .i64 0, .int .i64 1], ctP c ⟨2, 0, 1, 3, 1, 0, 0⟩, holdP nb 42 [.int .i64 0, .int .i64 2, .int .i64 0, .int .i64 1, .int .i64 0], ctP d ⟨2, 0, 1, 1, 0, 0, 0⟩]) rfl rfl rfl rfl).mono ?_
  rintro e V ⟨rfl, h⟩
  clear H; have H : Hid (Aparts w V [holdP w.heap.size 23 [.int .i64 2, .int .i64 0, .int .i64 1], ctP c ⟨2, 0, 1, 3, 1, 0, 0⟩, holdP nb 42 [.int .i64 0, .int .i64 2, .int .i64 0, .int .i64 1, .int .i64 0], ctP d ⟨2, 0, 1, 1, 0, 0, 0⟩]) := Lib.hid h; clear h
  go_wp2_with fail
  refine (abort_a H.out 3 rfl 0 (c' := ⟨2, 0, 1, 1, 0, 0, 0⟩) (k := 0) (er := 2) (l' := [holdP w.heap.size 23 [.int .i64 2, .int .i64 0, .int .i64 1], ctP c ⟨2, 0, 1, 3, 1, 0, 0⟩, holdP nb 42 [.int .i64 0, .int .i64 2, .int .i64 0, .int .i64 1, .int .i64 0], ctP d ⟨2, 0, 1, 1, 0, 0, 0⟩]) rfl rfl rfl rfl).mono ?_
  rintro e V ⟨rfl, h⟩
  clear H; have H : Hid (Aparts w V [holdP w.heap.size 23 [.int .i64 2, .int .i64 0, .int .i64 1], ctP c ⟨2, 0, 1, 3, 1, 0, 0⟩, holdP nb 42 [.int .i64 0, .int .i64 2, .int .i64 0, .int .i64 1, .int .i64 0], ctP d ⟨2, 0, 1, 1, 0, 0, 0⟩]) := Lib.hid h; clear h
  go_wp2_with fail
  refine (enter_a H.out 3 rfl (c' := ⟨2, 0, 1, 1, 0, 0, 0⟩) (k := 0) (er := 90) (l' := [holdP w.heap.size 23 [.int .i64 2, .int .i64 0, .int .i64 1], ctP c ⟨2, 0, 1, 3, 1, 0, 0⟩, holdP nb 42 [.int .i64 0, .int .i64 2, .int .i64 0, .int .i64 1, .int .i64 0], ctP d ⟨2, 0, 1, 1, 0, 0, 0⟩]) rfl rfl rfl rfl).mono ?_
  rintro e V ⟨rfl, h⟩
  clear H; have H : Hid (Aparts w V [holdP w.heap.size 23 [.int .i64 2, .int .i64 0, .int .i64 1], ctP c ⟨2, 0, 1, 3, 1, 0, 0⟩, holdP nb 42 [.int .i64 0, .int .i64 2, .int .i64 0, .int .i64 1, .int .i64 0], ctP d ⟨2, 0, 1, 1, 0, 0, 0⟩]) := Lib.hid h; clear h
  have x0 := (H.out.hold (i := 0) rfl).cell (i := 0) rfl
  have x1 := (H.out.hold (i := 0) rfl).cell (i := 1) rfl
  have x2 := (H.out.hold (i := 0) rfl).cell (i := 2) rfl
  go_wp2_with fail
  refine (most_a H.out may_201).mono ?_
  rintro e V ⟨rfl, h⟩
  rw [show (2 : Int) + 0 = 2 from rfl]
  clear x0 x1 x2
  clear H; have H : Hid (Aparts w V [holdP w.heap.size 23 [.int .i64 2, .int .i64 0, .int .i64 1], ctP c ⟨2, 0, 1, 3, 1, 0, 0⟩, holdP nb 42 [.int .i64 0, .int .i64 2, .int .i64 0, .int .i64 1, .int .i64 0], ctP d ⟨2, 0, 1, 1, 0, 0, 0⟩]) := Lib.hid h; clear h
  go_wp2_with fail
  refine (newno_a H.out (f := 17) (s := 0) (o := 0) (by decide)).mono ?_
  rintro e V ⟨rfl, h⟩
  clear H; have H : Hid (Aparts w V [holdP w.heap.size 23 [.int .i64 2, .int .i64 0, .int .i64 1], ctP c ⟨2, 0, 1, 3, 1, 0, 0⟩, holdP nb 42 [.int .i64 0, .int .i64 2, .int .i64 0, .int .i64 1, .int .i64 0], ctP d ⟨2, 0, 1, 1, 0, 0, 0⟩]) := Lib.hid h; clear h
  go_wp2_with fail
  refine (new_a H.out (f := 0) (s := 0) (o := 0) (by decide)).mono ?_
  rintro e V ⟨oc, rfl, h⟩
  clear H; have H : Hid (Aparts w V [holdP w.heap.size 23 [.int .i64 2, .int .i64 0, .int .i64 1], ctP c ⟨2, 0, 1, 3, 1, 0, 0⟩, holdP nb 42 [.int .i64 0, .int .i64 2, .int .i64 0, .int .i64 1, .int .i64 0], ctP d ⟨2, 0, 1, 1, 0, 0, 0⟩, ctP oc ⟨0, 0, 0, 0, 0, 0, 0⟩]) := Lib.hid h; clear h
  go_wp2_with fail
  refine (enter_a H.out 4 rfl (c' := ⟨0, 0, 0, 4, 0, 0, 0⟩) (k := 4) (er := 0) (l' := [holdP w.heap.size 23 [.int .i64 2, .int .i64 0, .int .i64 1], ctP c ⟨2, 0, 1, 3, 1, 0, 0⟩, holdP nb 42 [.int .i64 0, .int .i64 2, .int .i64 0, .int .i64 1, .int .i64 0], ctP d ⟨2, 0, 1, 1, 0, 0, 0⟩, ctP oc ⟨0, 0, 0, 4, 0, 0, 0⟩]) rfl rfl rfl rfl).mono ?_
  rintro e Vz ⟨rfl, h⟩
  clear H; have H : Hid (Aparts w (Vz.alloc (.cells (Ct.zero.cells false).toArray 48)) [holdP w.heap.size 23 [.int .i64 2, .int .i64 0, .int .i64 1], ctP c ⟨2, 0, 1, 3, 1, 0, 0⟩, holdP nb 42 [.int .i64 0, .int .i64 2, .int .i64 0, .int .i64 1, .int .i64 0], ctP d ⟨2, 0, 1, 1, 0, 0, 0⟩, ctP oc ⟨0, 0, 0, 4, 0, 0, 0⟩, holdP Vz.heap.size 48 (Ct.zero.cells false)]) := Lib.hid (h.box 48 (Ct.zero.cells false)); clear h
  obtain ⟨W, eW⟩ : ∃ W, W = Vz.alloc (.cells (Ct.zero.cells false).toArray 48) := ⟨_, rfl⟩
  rw [← eW] at H
  have HW := Lib.hid eW; clear eW
  go_wp2_with fail
  refine (show Calls _ _ _ (Vz.alloc (.cells (Ct.zero.cells false).toArray 48)) _ from HW.out ▸ enter_none (none_nil W)).mono ?_
  rintro e V ⟨rfl, rfl⟩
  rw [← HW.out]
  clear HW
  generalize Vz.heap.size = zb at *
  go_wp2_with fail
  refine (abort_none (none_bare ((H.out.hold (i := 5) rfl).cell (i := 0) rfl)) 0).mono ?_
  rintro e V ⟨rfl, rfl⟩
  go_wp2_with fail
  refine (leave_none (none_nil _)).mono ?_
  rintro e V ⟨rfl, rfl⟩
  go_wp2_with fail
  refine (lane_bare ((H.out.hold (i := 5) rfl).cell (i := 6) rfl)).mono ?_
  rintro e V ⟨rfl, rfl⟩
  go_wp2_with fail
  refine (try_nil _).mono ?_
  rintro e V ⟨rfl, hb⟩
  have H0 := H
  clear H; have H : Hid (Aparts w V [holdP w.heap.size 23 [.int .i64 2, .int .i64 0, .int .i64 1], ctP c ⟨2, 0, 1, 3, 1, 0, 0⟩, holdP nb 42 [.int .i64 0, .int .i64 2, .int .i64 0, .int .i64 1, .int .i64 0], ctP d ⟨2, 0, 1, 1, 0, 0, 0⟩, ctP oc ⟨0, 0, 0, 4, 0, 0, 0⟩, holdP zb 48 (Ct.zero.cells false)]) := Lib.hid (H0.out.idle hb); clear H0 hb
  go_wp2_with fail
  refine (counts_r (c := Ct.zero) (zero_range (H.out.hold (i := 5) rfl)) (H.out.hold (i := 5) rfl).lt).mono ?_
  rintro e V ⟨rfl, hb⟩
  have H0 := H
  clear H; have H : Hid (Aparts w V [holdP w.heap.size 23 [.int .i64 2, .int .i64 0, .int .i64 1], ctP c ⟨2, 0, 1, 3, 1, 0, 0⟩, holdP nb 42 [.int .i64 0, .int .i64 2, .int .i64 0, .int .i64 1, .int .i64 0], ctP d ⟨2, 0, 1, 1, 0, 0, 0⟩, ctP oc ⟨0, 0, 0, 4, 0, 0, 0⟩, holdP zb 48 (Ct.zero.cells false)]) := Lib.hid (H0.out.idle hb); clear H0 hb
  rw [show Ct.zero.cts.toArray = #[.int .i64 0, .int .i64 0, .int .i64 0, .int .i64 0, .int .i64 0] from rfl]
  go_wp2_with fail
  refine (hard_nil _).mono ?_
  rintro e V ⟨rfl, rfl⟩
  go_wp2_with fail
  refine (alive_ok _).mono ?_
  rintro e V ⟨rfl, hb⟩
  have H0 := H
  clear H; have H : Hid (Aparts w V [holdP w.heap.size 23 [.int .i64 2, .int .i64 0, .int .i64 1], ctP c ⟨2, 0, 1, 3, 1, 0, 0⟩, holdP nb 42 [.int .i64 0, .int .i64 2, .int .i64 0, .int .i64 1, .int .i64 0], ctP d ⟨2, 0, 1, 1, 0, 0, 0⟩, ctP oc ⟨0, 0, 0, 4, 0, 0, 0⟩, holdP zb 48 (Ct.zero.cells false)]) := Lib.hid (H0.out.idle hb); clear H0 hb
  have n0 := (H.out.hold (i := 2) rfl).cell (i := 0) rfl
  have n1 := (H.out.hold (i := 2) rfl).cell (i := 1) rfl
  have n2 := (H.out.hold (i := 2) rfl).cell (i := 2) rfl
  have n3 := (H.out.hold (i := 2) rfl).cell (i := 3) rfl
  have n4 := (H.out.hold (i := 2) rfl).cell (i := 4) rfl
  have HB := Lib.hid H.out.below
  go_wp2
  go_ret
  exact ⟨rfl, HB.out⟩

end Go.Proofs.Ytncepiaacadcpaa
