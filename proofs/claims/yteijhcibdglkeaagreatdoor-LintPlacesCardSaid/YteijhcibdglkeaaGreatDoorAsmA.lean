/- The library's calls on a text's pieces: Cut at a byte, Trim, CutSuffix, LastIndexByte, Clone, Itoa. Conditions: those stated in each theorem. -/
import Derived.Test.YteijhcibdglkeaaGreatDoorAsmP
import Derived.Test.YteijhcibdglkeaaGreatDoorTxtD
import Derived.Test.YteijhcibdglkeaaGreatDoorOwn0
import Derived.Shelf.Strings.SlTrimAscii
import Derived.Shelf.RegionOpen
import Derived.Lib.LaidTab
namespace Go.Proofs.YteijhcibdglkeaaGreatDoor
open Go.RowKit Go.BigFrame Go.Shelf

theorem slice_take (l : By) (i : Nat) (hi : i ≤ l.length) (W : World) : (Instr.sliceAt 9 (.string ⟨l.toArray⟩) none (some (.int .i64 i)) none).run Tryz.prog W = .ok (.string ⟨(l.take i).toArray⟩) W := by
  have hsz : (⟨l.toArray⟩ : ByteArray).size = l.length := rfl
  have hp : (⟨(l.take i).toArray⟩ : ByteArray) = (⟨l.toArray⟩ : ByteArray).extract 0 i := by
    apply ByteArray.ext
    apply Array.ext'
    rw [ext_to _ _ (by rw [hsz]; exact hi)]
  rw [hp, run_sliceAt_string W 9 _ _ _ _ Tryz.underlying9, run_slice_string_h W 9 ⟨l.toArray⟩ Tryz.underlying9 .i64 i (by omega) (by rw [hsz]; omega)]
  simp
theorem slice_drop (l : By) (i : Nat) (hi : i ≤ l.length) (W : World) : (Instr.sliceAt 9 (.string ⟨l.toArray⟩) (some (.int .i64 i)) none none).run Tryz.prog W = .ok (.string ⟨(l.drop i).toArray⟩) W := by
  have hsz : (⟨l.toArray⟩ : ByteArray).size = l.length := rfl
  rw [run_sliceAt_string W 9 _ _ _ _ Tryz.underlying9, run_slice_string_l W 9 ⟨l.toArray⟩ Tryz.underlying9 .i64 i (by omega) (by rw [hsz]; omega)]
  simp [ext_from]

theorem below_drawn {w w' : World} (h : ∃ n, w' = w.drewN n) : Below w.heap.size w w' := by
  obtain ⟨n, rfl⟩ := h; exact below_drewN (Below.refl _ w) n

set_option maxRecDepth 100000 in
set_option maxHeartbeats 2000000 in
theorem cutl_any (l : By) (c : UInt8) (hl : l.length ≤ 1000000) (w : World) : Calls Tryz.prog 68 #[.string ⟨l.toArray⟩, .string ⟨#[c]⟩] w fun e w' => e = .returned (.tuple #[.string ⟨(bef c l).toArray⟩, .string ⟨(aft c l).toArray⟩, .bool (decide (c ∈ l))]) ∧ Below w.heap.size w w' := by
  have hix : ∀ W, Calls Tryz.prog 88 #[.string ⟨l.toArray⟩, .string ⟨#[c]⟩] W fun e w' => e = .returned (.int .i64 (Lib.indexByte l c)) ∧ w' = W := fun W => Tryz.stringslite_Index_one ⟨l.toArray⟩ c W
  rcases index_bef c l with ⟨h1, h2, h3, h4⟩ | ⟨i, h0, h1, h2, h3, h4⟩
  · rw [h2, h3, decide_eq_false h4]
    rw [h1] at hix
    have Hix := Lib.hid hix; clear hix
    clear h1 h2 h3 h4
    go_enter Tryz.func68, Tryz.ntmps68
    go_wp2_with (go_at_call 88; refine (Hix.out _).mono ?_; rintro e w2 ⟨rfl, rfl⟩)
    go_ret3
    exact ⟨rfl, Below.refl _ _⟩
  · rw [h2, h3, decide_eq_true h4]
    rw [h1] at hix
    have Hix := Lib.hid hix; clear hix
    clear h1 h2 h3 h4
    have hs1 := slice_take l i (by omega)
    have hs2 := slice_drop l (i + 1) (by omega)
    have c1 : (0 : Int) ≤ ↑i := by omega
    rw [show ((i + 1 : Nat) : Int) = (i : Int) + 1 from by omega] at hs2
    go_enter Tryz.func68, Tryz.ntmps68
    go_wp2_with (go_at_call 88; refine (Hix.out _).mono ?_; rintro e w2 ⟨rfl, rfl⟩)
    go_region
    go_wp2
    go_ret3
    exact ⟨rfl, below_drew1 (Below.refl _ _)⟩
theorem cut_any (l : By) (c : UInt8) (hl : l.length ≤ 1000000) (w : World) : Calls Tryz.prog 53 #[.string ⟨l.toArray⟩, .string ⟨#[c]⟩] w fun e w' => e = .returned (.tuple #[.string ⟨(bef c l).toArray⟩, .string ⟨(aft c l).toArray⟩, .bool (decide (c ∈ l))]) ∧ Below w.heap.size w w' := by
  have h := cutl_any l c hl
  have H := Lib.hid h; clear h
  go_enter Tryz.func53, Tryz.ntmps53
  go_wp2_with (go_at_call 68; refine (H.out _).mono ?_; rintro e w2 ⟨rfl, hb⟩)
  go_ret3
  exact ⟨rfl, hb⟩

theorem trim_any (l : By) (hl : l.length ≤ 1000000) (w : World) : Calls Tryz.prog 54 #[.string ⟨l.toArray⟩, .string ⟨#[32, 9]⟩] w fun e w' => e = .returned (.string ⟨(Lib.trimS l [32, 9]).toArray⟩) ∧ Below w.heap.size w w' :=
  Any.strings_Trim_laid Tryz.lays160 (by kernel_rfl) ⟨l.toArray⟩ ⟨#[32, 9]⟩ w (by have : (⟨l.toArray⟩ : ByteArray).size = l.length := rfl; rw [this]; omega) (by decide) (ascii_of_all (by decide))

theorem suffix_any (l : By) (hl : l.length ≤ 1000000) (w : World) : Calls Tryz.prog 50 #[.string ⟨l.toArray⟩, .string ⟨#[58]⟩] w fun e w' => e = .returned (.tuple #[.string ⟨((colonP l).getD l).toArray⟩, .bool (colonP l).isSome]) ∧ w' = w := by
  have h := Tryz.strings_CutSuffix ⟨l.toArray⟩ ⟨#[58]⟩ w (by have : (⟨l.toArray⟩ : ByteArray).size = l.length := rfl; rw [this]; omega)
  have e1 : (Lib.trimSuffix l [58]) = (colonP l).getD l := by
    unfold colonP
    by_cases hs : Lib.hasSuffix l [58] = true
    · rw [if_pos hs]; rfl
    · rw [if_neg hs]; unfold Lib.trimSuffix; rw [if_neg hs]; rfl
  have e2 : Lib.hasSuffix l [58] = (colonP l).isSome := by
    unfold colonP
    by_cases hs : Lib.hasSuffix l [58] = true
    · rw [if_pos hs, hs]; rfl
    · rw [if_neg hs]; simpa using hs
  rw [← e1, ← e2]
  exact h

theorem last_index (l : By) : Lib.lastIndexByte ⟨l.toArray⟩ 32 + 1 = lastP l := by
  have hsz : (⟨l.toArray⟩ : ByteArray).size = l.length := rfl
  have hget : ∀ j, j < l.length → ((⟨l.toArray⟩ : ByteArray).data[j]!) = l[j]! := fun j hj => by simp [hj]
  unfold lastP
  rcases Lib.lastIndexByte_spec ⟨l.toArray⟩ 32 with ⟨h1, h2⟩ | ⟨i, h0, h1, h2, h3⟩
  · have hall : ∀ b ∈ l.reverse, (b != 32) = true := by
      intro b hb
      rw [List.mem_reverse] at hb
      obtain ⟨j, hj, rfl⟩ := List.mem_iff_getElem.1 hb
      have := h2 j (by rw [hsz]; exact hj)
      rw [hget j hj, getElem!_pos l j hj] at this
      simp only [bne_iff_ne, ne_eq]
      intro e; apply this; rw [e]; rfl
    have ht := List.takeWhile_append_of_pos (l₂ := []) hall
    rw [List.append_nil] at ht
    rw [h1, ht]
    simp
  · rw [hsz] at h0
    rw [hget i h0, getElem!_pos l i h0] at h2
    have e32 : l[i] = 32 := by apply UInt8.toNat_inj.1; simp only [UInt8.reduceToNat]; omega
    have hsp : l = l.take i ++ 32 :: l.drop (i + 1) := by
      rw [← e32, List.getElem_cons_drop, List.take_append_drop]
    have hr : l.reverse = (l.drop (i + 1)).reverse ++ 32 :: (l.take i).reverse := by
      conv => lhs; rw [hsp]
      simp
    have hall : ∀ b ∈ (l.drop (i + 1)).reverse, (b != 32) = true := by
      intro b hb
      rw [List.mem_reverse] at hb
      obtain ⟨j, hj, rfl⟩ := List.mem_iff_getElem.1 hb
      rw [List.length_drop] at hj
      have := h3 (i + 1 + j) (by omega) (by rw [hsz]; omega)
      rw [hget _ (by omega), getElem!_pos l _ (by omega)] at this
      rw [List.getElem_drop]
      simp only [bne_iff_ne, ne_eq]
      intro e; apply this; rw [e]; rfl
    rw [h1, hr, List.takeWhile_append_of_pos hall]
    simp
    omega
theorem last_le (l : By) : lastP l ≤ l.length := Nat.sub_le _ _
theorem lastb_any (l : By) (hl : l.length ≤ 1000000) (w : World) : Calls Tryz.prog 97 #[.string ⟨l.toArray⟩, .int .u8 32] w fun e w' => e = .returned (.int .i64 ((lastP l : Int) - 1)) ∧ w' = w := by
  rw [← last_index, Int.add_sub_cancel]
  exact Tryz.strings_LastIndexByte ⟨l.toArray⟩ 32 (by have : (⟨l.toArray⟩ : ByteArray).size = l.length := rfl; rw [this]; omega) w

theorem clone_any (l : By) (hl : l.length ≤ 1000000) (w : World) : Calls Tryz.prog 76 #[.string ⟨l.toArray⟩] w fun e w' => e = .returned (.string ⟨l.toArray⟩) ∧ Below w.heap.size w w' := by
  have h := Tryz.stringslite_Clone ⟨l.toArray⟩ w (by have : (⟨l.toArray⟩ : ByteArray).size = l.length := rfl; rw [this]; omega)
  have H := Lib.hid h; clear h
  go_enter Tryz.func76, Tryz.ntmps76
  go_wp2_with (go_at_call 93; refine H.out.mono ?_; rintro e w2 ⟨rfl, hb⟩)
  go_ret
  exact ⟨rfl, hb⟩

theorem below_grow {w : World} (k : Nat) (os : Array Obj) : Below w.heap.size w (Go.Sort.grow (w.drewN k) os) :=
  ⟨rfl, rfl, rfl, by simp [Go.Sort.grow, World.drewN], fun b hb => by
    show (w.heap ++ os)[b]? = w.heap[b]?
    exact Array.getElem?_append_left hb⟩
theorem itoa_any (n : Int) (hn : I64 n) (w : World) (htab : Lib.TabBelow Tryz.prog w.heap.size w "internal/strconv.uint64pow10" .u64 Lib.pow10Tab) : Calls Tryz.prog 19 #[.int .i64 n] w fun e w' => e = .returned (.string ⟨(Lib.itoa n).toArray⟩) ∧ Below w.heap.size w w' := by
  refine (Tryz.strconv_Itoa n hn.1 hn.2 w (htab w (Below.refl _ _))).mono ?_
  rintro e w' ⟨rfl, k, os, rfl⟩
  exact ⟨rfl, below_grow k os⟩

end Go.Proofs.YteijhcibdglkeaaGreatDoor
