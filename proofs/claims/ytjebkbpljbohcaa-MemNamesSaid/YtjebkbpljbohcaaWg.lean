/- MemNames: the walk: it answers true and turns nothing that was there. -/
import Derived.Test.YtjebkbpljbohcaaWe
namespace Go.Proofs.Ytjebkbpljbohcaa
open Go.RowKit

set_option maxHeartbeats 400000 in
theorem copy_nil (w : World) : Calls Try.prog 17 #[.pointer none] w fun e w' => e = .returned (.pointer none) ∧ w = w' := by
  go_enter Try.func17, Try.ntmps17
  go_wp2
  go_ret
  exact ⟨rfl, rfl⟩

set_option maxHeartbeats 400000 in
theorem all_nil (w : World) : Calls Try.prog 18 #[.pointer none] w fun e w' => e = .returned (.slice none 0 0) ∧ w = w' := by
  go_enter Try.func18, Try.ntmps18
  go_wp2
  go_ret
  exact ⟨rfl, rfl⟩

set_option maxHeartbeats 4000000 in
theorem names_walk (w : World) : Calls Try.prog 4 #[] w (Agrees w (.bool true)) := by
  go_enter Try.func4, Try.ntmps4
  go_wp2_with fail
  refine (new_bad 1 _ (by omega)).mono ?_
  rintro e w' ⟨rfl, rfl⟩
  go_wp2_with fail
  refine (new_bad 65 _ (by omega)).mono ?_
  rintro e w' ⟨rfl, rfl⟩
  go_wp2_with fail
  refine (new_int 64 _ (by omega) (by omega)).mono ?_
  rintro e w1 ⟨p, b, rfl, hm, hp, hb, hB1⟩
  have hc : w1.cell? ⟨p, 0, none⟩ = some (.slice (some ⟨b, 0, none⟩) 64 64) := hm.head
  have hlt := World.block_lt_of_cell? _ _ hc
  clear hm
  go_wp2_with fail
  refine (get_big 512 p b 64 _ hc (by omega) (by omega)).mono ?_
  rintro e w' ⟨rfl, rfl⟩
  go_wp2_with fail
  refine (get_neg (-1) p _ (by omega)).mono ?_
  rintro e w' ⟨rfl, rfl⟩
  go_wp2_with fail
  refine (put_big 512 p b 64 1 _ hc (by omega) (by omega)).mono ?_
  rintro e w' ⟨rfl, rfl⟩
  go_wp2_with fail
  refine (lget_big 64 p b 64 _ hc (by omega) (by omega)).mono ?_
  rintro e w2 ⟨rfl, hB2⟩
  go_wp2_with fail
  refine (lset_neg (-1) p 0 0 0 0 0 0 0 0 _ (by omega)).mono ?_
  rintro e w3 ⟨rfl, hB3⟩
  have hT3 : Below w1.heap.size w1 w3 := (hB2.alloc hB2.size _).trans (hB3.mono (by have := hB2.size; simp; omega))
  clear hB2 hB3
  go_wp2_with fail
  refine (get_nil (-1) _).mono ?_
  rintro e w' ⟨rfl, rfl⟩
  go_wp2_with fail
  refine (put_nil 0 1 _).mono ?_
  rintro e w' ⟨rfl, rfl⟩
  go_wp2_with fail
  refine (lget_nil 0 _).mono ?_
  rintro e w4 ⟨rfl, hB4⟩
  have hT4 : Below w1.heap.size w1 w4 := hT3.trans (hB4.mono hT3.size)
  clear hT3 hB4
  go_wp2_with fail
  refine (lset_nil 0 0 0 0 0 0 0 0 0 _).mono ?_
  rintro e w5 ⟨rfl, hB5⟩
  have hT5 : Below w1.heap.size w1 w5 := (hT4.alloc hT4.size _).trans (hB5.mono (by have := hT4.size; simp; omega))
  clear hT4 hB5
  go_wp2_with fail
  refine (copy_nil _).mono ?_
  rintro e w' ⟨rfl, rfl⟩
  go_wp2_with fail
  refine (all_nil _).mono ?_
  rintro e w' ⟨rfl, rfl⟩
  go_wp2_with fail
  refine (alive_any _).mono ?_
  rintro e w6 ⟨rfl, hB6⟩
  have hT6 : Below w1.heap.size w1 w6 := hT5.trans (hB6.mono hT5.size)
  clear hT5 hB6
  have hc6 := (hT6.cell (p := ⟨p, 0, none⟩) hlt).trans hc
  have hB := hB1.trans (hT6.mono hB1.size)
  clear hB1 hT6 hc hlt hp hb
  go_wp2_with fail
  refine (lines_nil _).mono ?_
  rintro e w' ⟨rfl, rfl⟩
  go_wp2_with fail
  refine (lines_ok p b 64 _ hc6).mono ?_
  rintro e w' ⟨rfl, rfl⟩
  go_wp2
  all_goals
    go_ret
    exact ⟨rfl, hB⟩

end Go.Proofs.Ytjebkbpljbohcaa
