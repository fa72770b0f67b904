/- A log: the example alive. Conditions: those stated in each theorem. -/
import Derived.Test.YtfngfphoefpndaaLogH
namespace Go.Proofs.Ytfngfphoefpndaa
open Go.RowKit Go.BigFrame Go.Maps

set_option maxRecDepth 100000 in
set_option maxHeartbeats 1000000 in
theorem alive_ok (w : World) : Calls Try.prog 24 #[] w fun e w' => e = .returned (.bool true) ∧ Below w.heap.size w w' := by
  have H0 := Lib.hid (Below.refl w.heap.size w)
  go_enter Try.func24, Try.ntmps24
  go_wp2_with fail
  refine (new_st H0.out).mono ?_
  rintro e w1 ⟨a, rfl, h⟩
  have H := Lib.hid h; clear h H0
  go_wp2_with fail
  refine (read_st H.out 9 5 (by decide) (by decide)).mono ?_
  rintro e w2 ⟨rfl, h⟩
  rw [show errRead Lg.zero.r 9 = 0 from by decide]
  clear H; have H := Lib.hid h; clear h
  go_wp2_with fail
  refine (read_st H.out 8 6 (by decide) (by decide)).mono ?_
  rintro e w3 ⟨rfl, h⟩
  clear H; have H := Lib.hid h; clear h
  go_wp2_with fail
  refine (read_st H.out 9 7 (by decide) (by decide)).mono ?_
  rintro e w4 ⟨rfl, h⟩
  rw [show errRead ((Lg.zero.read 9 5).read 8 6).r 9 = 0 from by decide]
  clear H; have H := Lib.hid h; clear h
  go_wp2_with fail
  refine (write_st H.out 9 1 (by decide) (by decide)).mono ?_
  rintro e w5 ⟨rfl, h⟩
  rw [show errRead (((Lg.zero.read 9 5).read 8 6).read 9 7).w 9 = 0 from by decide]
  clear H; have H := Lib.hid h; clear h
  go_wp2_with fail
  refine (write_st H.out 9 3 (by decide) (by decide)).mono ?_
  rintro e w6 ⟨rfl, h⟩
  rw [show (((((Lg.zero.read 9 5).read 8 6).read 9 7).write 9 1).write 9 3) = ⟨[⟨9, 5⟩, ⟨8, 6⟩], [⟨9, 3⟩]⟩ from by decide] at h
  clear H; have H := Lib.hid h; clear h
  go_wp2_with fail
  refine (was_st H.out 9 (by decide)).mono ?_
  rintro e w' ⟨rfl, rfl⟩
  rw [show valL [⟨9, 5⟩, ⟨8, 6⟩] 9 = 5 from by decide, show hasL [⟨9, 5⟩, ⟨8, 6⟩] 9 = true from by decide]
  go_wp2_with fail
  refine (look_st H.out 9 (by decide)).mono ?_
  rintro e w' ⟨rfl, rfl⟩
  rw [show valL [⟨9, 3⟩] 9 = 3 from by decide, show hasL [⟨9, 3⟩] 9 = true from by decide]
  go_wp2_with fail
  refine (reads_st H.out).mono ?_
  rintro e w7 ⟨v, rfl, h⟩
  clear H; have H := Lib.hid h; clear h
  have hr : RowL w7 w.heap.size v [⟨9, 5⟩, ⟨8, 6⟩] := H.out.row1
  obtain ⟨g, cap, rfl⟩ := hr.form (by decide)
  obtain ⟨q2, q3⟩ := hr.at (i := 1) rfl
  clear hr
  have HB := Lib.hid H.out.below; clear H
  go_wp2
  go_ret
  exact ⟨rfl, HB.out⟩

end Go.Proofs.Ytfngfphoefpndaa
