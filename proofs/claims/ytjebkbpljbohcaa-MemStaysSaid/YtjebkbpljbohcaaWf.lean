/- MemStays: the walk. For any pairs that can be read, and any two addresses, it answers true and turns nothing that was there. -/
import Derived.Test.YtjebkbpljbohcaaWe
import Derived.StillTailTactics
namespace Go.Proofs.Ytjebkbpljbohcaa
open Go.RowKit

set_option maxHeartbeats 1000000 in
theorem stays_long (a : Option Addr) (len cap : Nat) (A B : Int) (w : World) (hl : 500 < len) : Calls Try.prog 5 #[.slice a len cap, .int .i64 A, .int .i64 B] w (Agrees w (.bool true)) := by
  go_enter Try.func5, Try.ntmps5
  go_wp2_with (go_at_call 21; refine (alive_any _).mono ?_; rintro e w1 ⟨rfl, hB⟩)
  all_goals
    go_ret
    exact ⟨rfl, hB⟩

set_option maxHeartbeats 2000000 in
theorem stays_short (a : Option Addr) (bx off len cap : Nat) (z : List (Int × Int)) (A B : Int) (w : World) (hl : ¬ 500 < len) (hA0 : A ≤ 9223372036854775807) (hB0 : B ≤ 9223372036854775807)
    (ha : 0 < len → a = some ⟨bx, off, none⟩)
    (hcell : ∀ i, i < len → w.cell? ⟨bx, off + i * 2, none⟩ = some (.int .i64 (z.getD i (0, 0)).1) ∧ w.cell? ⟨bx, off + i * 2 + 1, none⟩ = some (.int .u64 (z.getD i (0, 0)).2) ∧ (z.getD i (0, 0)).1 ≤ 9223372036854775807) :
    Calls Try.prog 5 #[.slice a len cap, .int .i64 A, .int .i64 B] w (Agrees w (.bool true)) := by
  have ha := Lib.hid ha
  have hcell := Lib.hid hcell
  go_enter Try.func5, Try.ntmps5
  go_wp2_with (first | (go_at_call 21; refine (alive_any _).mono ?_; rintro e w1 ⟨rfl, hB1⟩) | (go_at_call 7; refine (new_int 64 _ (by omega) (by omega)).mono ?_; rintro e w2 ⟨p, b, rfl, hm, hp, hb, hB2⟩))
  have hB := hB1.trans (hB2.mono hB1.size)
  have hpb : w.heap.size ≤ p ∧ w.heap.size ≤ b := ⟨Nat.le_trans hB1.size hp, Nat.le_trans hB1.size hb⟩
  clear hB1 hB2 hp hb
  go_loopw [10] (fun i wr => ∃ k xs, k ≤ len ∧ i = .int .i64 (k : Nat) ∧ MemAt wr p b 64 xs ∧ Below w.heap.size w wr) (fun i _ => len - (intOf i).toNat)
  case atStart => exact ⟨0, _, Nat.zero_le _, rfl, hm, hB⟩
  case round =>
    obtain ⟨k, xs, hk, rfl, hm, hB⟩ := hrel
    by_cases hlt : k < len
    · obtain rfl := ha.out (by omega)
      clear ha
      obtain ⟨h1, h2, h3⟩ := hcell.out k hlt
      have hlb := World.block_lt_of_cell? _ _ h1
      have r1 := (hB.cell (p := ⟨bx, off + k * 2, none⟩) hlb).trans h1
      have r2 := (hB.cell (p := ⟨bx, off + k * 2 + 1, none⟩) hlb).trans h2
      clear h1 h2 hcell
      generalize (z.getD k (0, 0)).1 = za at *
      generalize (z.getD k (0, 0)).2 = zv at *
      go_wp2_with fail
      go_still_tail 11, (by kernel_rfl)
      change wpList _ _ _ _ _ wr.drew
      have hm2 : MemAt wr.drew p b 64 xs := ⟨hm.head, hm.apart, hm.len, hm.row⟩
      have hB2 : Below w.heap.size w wr.drew := hB.drew
      clear r1 r2 hm hB
      generalize wr.drew = wd at *
      go_wp2_with fail
      refine (put_any za zv p b 64 xs wd hm2 (by omega) h3).mono ?_
      rintro e w3 ⟨rfl, hm3, hs3, hB3⟩
      have hB4 := hB2.trans (hB3 w.heap.size hpb.2)
      clear hB2 hB3 hs3 hm2
      go_wp2_with fail
      go_roundw
      case rel => exact ⟨k + 1, _, by omega, by go_num, hm3, hB4⟩
      case measure => simp [intOf]; omega
    · have hke : len ≤ k := by omega
      have hlx := hm.len
      have hmv : MemAt wr p b 64 xs := hm
      clear hcell ha
      go_wp2_with fail
      refine (get_any B p b 64 xs wr hm (by omega) (by omega)).mono ?_
      rintro e w1 ⟨rfl, rfl⟩
      go_wp2_with fail
      refine (put_any A 7777 p b 64 xs wr hm (by omega) (by omega)).mono ?_
      rintro e w2 ⟨rfl, hm2, hs2, hB2⟩
      have hB3 := hB.trans (hB2 w.heap.size hpb.2)
      clear hB hB2 hs2
      go_wp2_with fail
      refine (get_any A p b 64 _ w2 hm2 (by omega) (by omega)).mono ?_
      rintro e w3 ⟨rfl, rfl⟩
      go_wp2_with fail
      refine (get_any B p b 64 _ w2 hm2 (by omega) (by omega)).mono ?_
      rintro e w3 ⟨rfl, rfl⟩
      clear hm hm2 hmv
      by_cases hA : 0 ≤ A ∧ A < 8 * (64 : Nat)
      · have h1 : errS 64 A = 0 := by rw [errS, if_pos hA]
        have h2 : getS 64 (putS 64 xs A 7777) A = 7777 := by
          rw [getS, if_pos hA, putS, if_pos hA, List.getD_eq_getElem?_getD, List.getElem?_set_self (by omega)]; rfl
        rw [h1, h2]
        clear h1 h2
        by_cases hAB : A = B
        · subst hAB
          go_wp2
          all_goals
            go_ret
            exact ⟨rfl, hB3⟩
        · have h3 : getS 64 (putS 64 xs A 7777) B = getS 64 xs B := by
            unfold getS
            split
            · rename_i hb
              rw [putS, if_pos hA, List.getD_eq_getElem?_getD, List.getElem?_set_ne (by omega), ← List.getD_eq_getElem?_getD]
            · rfl
          rw [h3]
          clear h3
          have hAB' : (A == B) = false := by simpa using hAB
          clear hAB
          go_wp2
          all_goals
            go_ret
            exact ⟨by simp, hB3⟩
      · have h1 : errS 64 A = 2 := by rw [errS, if_neg hA]
        have h2 : putS 64 xs A 7777 = xs := by rw [putS, if_neg hA]
        rw [h1, h2]
        clear h1 h2
        go_wp2
        all_goals
          go_ret
          exact ⟨by simp, hB3⟩

end Go.Proofs.Ytjebkbpljbohcaa
