/- IsaNames: the law's walk. Conditions: those stated in each theorem. -/
import Derived.Test.YtpjgiecljjfdiaaDoorNamA
import Derived.Deep.RegionHeld3
namespace Go.Proofs.YtpjgiecljjfdiaaDoor
open Go.RowKit Go.BigFrame

@[local go_sem ↓ high] theorem fld_kind (k n r v a : Int) (w : World) : (Instr.field 27 (.agg #[.int .i64 k, .int .i64 n, .int .i64 r, .int .u64 v, .int .u64 a]) 0).run Tryd.prog w = .ok (.int .i64 k) w := by kernel_rfl
@[local go_sem ↓ high] theorem fld_next (k n r v a : Int) (w : World) : (Instr.field 27 (.agg #[.int .i64 k, .int .i64 n, .int .i64 r, .int .u64 v, .int .u64 a]) 1).run Tryd.prog w = .ok (.int .i64 n) w := by kernel_rfl
@[local go_sem ↓ high] theorem fld_val (k n r v a : Int) (w : World) : (Instr.field 27 (.agg #[.int .i64 k, .int .i64 n, .int .i64 r, .int .u64 v, .int .u64 a]) 3).run Tryd.prog w = .ok (.int .u64 v) w := by kernel_rfl
@[local go_sem ↓ high] theorem eq_a (w : World) : (Op.equalIn 10000 27 (.agg #[.int .i64 3, .int .i64 4, .int .i64 4, .int .u64 0, .int .u64 3]) (.agg #[.int .i64 3, .int .i64 4, .int .i64 4, .int .u64 0, .int .u64 3])).run Tryd.prog w = .ok true w := by
  rw [same_ef]; simp
@[local go_sem ↓ high] theorem eq_b (w : World) : (Op.equalIn 10000 27 (.agg #[.int .i64 4, .int .i64 4, .int .i64 0, .int .u64 18446744073709551615, .int .u64 9]) (.agg #[.int .i64 4, .int .i64 4, .int .i64 0, .int .u64 18446744073709551615, .int .u64 9])).run Tryd.prog w = .ok true w := by
  rw [same_ef]; simp
@[local go_sem ↓ high] theorem eq_0 (w : World) : (Op.equalIn 10000 27 (.agg #[.int .i64 0, .int .i64 0, .int .i64 0, .int .u64 0, .int .u64 0]) (.agg #[.int .i64 0, .int .i64 0, .int .i64 0, .int .u64 0, .int .u64 0])).run Tryd.prog w = .ok true w := by
  rw [same_ef]; simp
@[local go_sem ↓ high] theorem eq_c (w : World) : (Op.equalIn 10000 27 (.agg #[.int .i64 2, .int .i64 4, .int .i64 0, .int .u64 0, .int .u64 0]) (.agg #[.int .i64 2, .int .i64 4, .int .i64 0, .int .u64 0, .int .u64 0])).run Tryd.prog w = .ok true w := by
  rw [same_ef]; simp
@[local go_sem ↓ high] theorem eq_d (w : World) : (Op.equalIn 10000 27 (.agg #[.int .i64 7, .int .i64 4, .int .i64 0, .int .u64 0, .int .u64 0]) (.agg #[.int .i64 7, .int .i64 4, .int .i64 0, .int .u64 0, .int .u64 0])).run Tryd.prog w = .ok true w := by
  rw [same_ef]; simp

/-- Where the walk stands: the registers lie in q, nothing in q1. -/
structure NSt (w : World) (q q1 : Nat) (V : World) : Prop where
  std : Std V
  below : Below w.heap.size w V
  regs : Holds V q 25 [.int .u64 0, .int .u64 5, .int .u64 18446744073709551615, .int .u64 0, .int .u64 0, .int .u64 0, .int .u64 0, .int .u64 0]
  zeros : Holds V q1 27 [.int .i64 0, .int .i64 0, .int .i64 0, .int .u64 0, .int .u64 0]
theorem NSt.next {w V V' : World} {q q1 : Nat} (h : NSt w q q1 V) (hb : Below V.heap.size V V') : NSt w q q1 V' := ⟨h.std.below hb, h.below.trans (hb.mono h.below.size), h.regs.below hb, h.zeros.below hb⟩
theorem NSt.zero {w V : World} {q q1 : Nat} (h : NSt w q q1 V) : V.cell? ⟨q1, 0, none⟩ = some (.int .i64 0) ∧ V.cell? ⟨q1, 1, none⟩ = some (.int .i64 0) ∧ V.cell? ⟨q1, 2, none⟩ = some (.int .i64 0) ∧ V.cell? ⟨q1, 3, none⟩ = some (.int .u64 0) ∧ V.cell? ⟨q1, 4, none⟩ = some (.int .u64 0) := ⟨h.zeros.cell (i := 0) rfl, h.zeros.cell (i := 1) rfl, h.zeros.cell (i := 2) rfl, h.zeros.cell (i := 3) rfl, h.zeros.cell (i := 4) rfl⟩
theorem NSt.file {w V : World} {q q1 : Nat} (h : NSt w q q1 V) : V.cell? ⟨q, 0, none⟩ = some (.int .u64 0) ∧ V.cell? ⟨q, 1, none⟩ = some (.int .u64 5) ∧ V.cell? ⟨q, 2, none⟩ = some (.int .u64 18446744073709551615) ∧ V.cell? ⟨q, 3, none⟩ = some (.int .u64 0) ∧ V.cell? ⟨q, 4, none⟩ = some (.int .u64 0) ∧ V.cell? ⟨q, 5, none⟩ = some (.int .u64 0) ∧ V.cell? ⟨q, 6, none⟩ = some (.int .u64 0) ∧ V.cell? ⟨q, 7, none⟩ = some (.int .u64 0) := ⟨h.regs.cell (i := 0) rfl, h.regs.cell (i := 1) rfl, h.regs.cell (i := 2) rfl, h.regs.cell (i := 3) rfl, h.regs.cell (i := 4) rfl, h.regs.cell (i := 5) rfl, h.regs.cell (i := 6) rfl, h.regs.cell (i := 7) rfl⟩
theorem NSt.start {w : World} (h : Std w) : NSt w w.heap.size (w.heap.size + 1) ((w.alloc (.cells #[.int .u64 0, .int .u64 5, .int .u64 18446744073709551615, .int .u64 0, .int .u64 0, .int .u64 0, .int .u64 0, .int .u64 0] 25)).alloc (.cells #[.int .i64 0, .int .i64 0, .int .i64 0, .int .u64 0, .int .u64 0] 27)) where
  std := h.below (((Below.refl _ w).alloc (Nat.le_refl _) _).alloc (by simp) _)
  below := ((Below.refl _ w).alloc (Nat.le_refl _) _).alloc (by simp) _
  regs := (Holds.new w 25 [.int .u64 0, .int .u64 5, .int .u64 18446744073709551615, .int .u64 0, .int .u64 0, .int .u64 0, .int .u64 0, .int .u64 0]).alloc _
  zeros := newAt (by simp) 27 [.int .i64 0, .int .i64 0, .int .i64 0, .int .u64 0, .int .u64 0]


@[local go_sem ↓ high] theorem eq_i0 (w : World) : (Op.equalIn 10000 23 (.agg #[.int .i64 0, .int .i64 0, .int .i64 0, .int .i64 0, .int .i64 0]) (.agg #[.int .i64 0, .int .i64 0, .int .i64 0, .int .i64 0, .int .i64 0])).run Tryd.prog w = .ok true w := by
  exact (same_in ⟨0, 0, 0, 0, 0⟩ ⟨0, 0, 0, 0, 0⟩ w).trans (by simp)
@[local go_sem ↓ high] theorem eq_i1 (w : World) : (Op.equalIn 10000 23 (.agg #[.int .i64 2, .int .i64 3, .int .i64 0, .int .i64 0, .int .i64 (-2)]) (.agg #[.int .i64 2, .int .i64 3, .int .i64 0, .int .i64 0, .int .i64 (-2)])).run Tryd.prog w = .ok true w := by
  exact (same_in ⟨2, 3, 0, 0, -2⟩ ⟨2, 3, 0, 0, -2⟩ w).trans (by simp)

set_option maxRecDepth 100000 in
set_option maxHeartbeats 8000000 in
theorem names_any (w : World) (hs : Std w) : Calls Tryd.prog 5 #[] w fun e w' => e = .returned (.bool true) ∧ Below w.heap.size w w' := by
  have HN := Lib.hid (NSt.start hs); clear hs
  go_enter Tryd.func5, Tryd.ntmps5
  go_upto_region 6 with (go_at_call 18; refine (ask_any (by first | with_reducible exact e0 | with_reducible exact e1 | with_reducible exact e2 | with_reducible exact e3 | with_reducible exact e4 | with_reducible exact e5 | with_reducible exact e6 | with_reducible exact e7 | with_reducible exact e8 | with_reducible exact e9 | with_reducible exact e10 | with_reducible exact e11 | with_reducible exact e12 | with_reducible exact e13 | with_reducible exact e14 | with_reducible exact e15) HN.out.std HN.out.regs).mono ?_; rintro e w2 ⟨rfl, hb2⟩; have hn := HN.out.next hb2; clear HN hb2; have HN := Lib.hid hn; clear hn)
  generalize hq : w.heap.size = q at *
  generalize hq1 : q + 1 = q1 at *
  go_cut [4] from 50 to 80 (fun o wx => o = .bool true ∧ NSt w q q1 wx)
  case first =>
    have hP := HN.out.next (below_drew1 (Below.refl _ _))
    clear HN
    have HK : Hid (∀ V, NSt w q q1 V → V.cell? ⟨q1, 0, none⟩ = some (.int .i64 0) ∧ V.cell? ⟨q1, 1, none⟩ = some (.int .i64 0) ∧ V.cell? ⟨q1, 2, none⟩ = some (.int .i64 0) ∧ V.cell? ⟨q1, 3, none⟩ = some (.int .u64 0) ∧ V.cell? ⟨q1, 4, none⟩ = some (.int .u64 0)) := Lib.hid (fun V h => h.zero)
    go_region_held3 (fun V => V.cell? ⟨q1, 0, none⟩ = some (.int .i64 0) ∧ V.cell? ⟨q1, 1, none⟩ = some (.int .i64 0) ∧ V.cell? ⟨q1, 2, none⟩ = some (.int .i64 0) ∧ V.cell? ⟨q1, 3, none⟩ = some (.int .u64 0) ∧ V.cell? ⟨q1, 4, none⟩ = some (.int .u64 0)) (first | with_reducible exact HK.out _ hP) (first | (go_at_call 18; refine (ask_any (by first | with_reducible exact e0 | with_reducible exact e1 | with_reducible exact e2 | with_reducible exact e3 | with_reducible exact e4 | with_reducible exact e5 | with_reducible exact e6 | with_reducible exact e7 | with_reducible exact e8 | with_reducible exact e9 | with_reducible exact e10 | with_reducible exact e11 | with_reducible exact e12 | with_reducible exact e13 | with_reducible exact e14 | with_reducible exact e15) hP.std hP.regs).mono ?_; rintro e V ⟨rfl, hb⟩; replace hP := hP.next hb; clear hb))
    go_wp2_with fail
    go_meet
    case rel => exact ⟨rfl, hP⟩
  case rest =>
  obtain ⟨rfl, hn⟩ := hcut
  clear HN; have HN := Lib.hid hn; clear hn
  go_upto_region 7 with (fail)
  go_cut [4] from 81 to 111 (fun o wx => o = .bool true ∧ NSt w q q1 wx)
  case first =>
    have hP := HN.out.next (below_drew1 (Below.refl _ _))
    clear HN
    have HK : Hid (∀ V, NSt w q q1 V → V.cell? ⟨q1, 0, none⟩ = some (.int .i64 0) ∧ V.cell? ⟨q1, 1, none⟩ = some (.int .i64 0) ∧ V.cell? ⟨q1, 2, none⟩ = some (.int .i64 0) ∧ V.cell? ⟨q1, 3, none⟩ = some (.int .u64 0) ∧ V.cell? ⟨q1, 4, none⟩ = some (.int .u64 0)) := Lib.hid (fun V h => h.zero)
    go_region_held3 (fun V => V.cell? ⟨q1, 0, none⟩ = some (.int .i64 0) ∧ V.cell? ⟨q1, 1, none⟩ = some (.int .i64 0) ∧ V.cell? ⟨q1, 2, none⟩ = some (.int .i64 0) ∧ V.cell? ⟨q1, 3, none⟩ = some (.int .u64 0) ∧ V.cell? ⟨q1, 4, none⟩ = some (.int .u64 0)) (first | with_reducible exact HK.out _ hP) (first | (go_at_call 18; refine (ask_any (by first | with_reducible exact e0 | with_reducible exact e1 | with_reducible exact e2 | with_reducible exact e3 | with_reducible exact e4 | with_reducible exact e5 | with_reducible exact e6 | with_reducible exact e7 | with_reducible exact e8 | with_reducible exact e9 | with_reducible exact e10 | with_reducible exact e11 | with_reducible exact e12 | with_reducible exact e13 | with_reducible exact e14 | with_reducible exact e15) hP.std hP.regs).mono ?_; rintro e V ⟨rfl, hb⟩; replace hP := hP.next hb; clear hb))
    go_wp2_with fail
    go_meet
    case rel => exact ⟨rfl, hP⟩
  case rest =>
  obtain ⟨rfl, hn⟩ := hcut
  clear HN; have HN := Lib.hid hn; clear hn
  go_upto_region 8 with (fail)
  go_cut [4] from 112 to 133 (fun o wx => o = .bool true ∧ NSt w q q1 wx)
  case first =>
    have hP := HN.out.next (below_drew1 (Below.refl _ _))
    clear HN
    have HK2 : Hid (∀ V, NSt w q q1 V → V.cell? ⟨q, 0, none⟩ = some (.int .u64 0) ∧ V.cell? ⟨q, 1, none⟩ = some (.int .u64 5) ∧ V.cell? ⟨q, 2, none⟩ = some (.int .u64 18446744073709551615) ∧ V.cell? ⟨q, 3, none⟩ = some (.int .u64 0) ∧ V.cell? ⟨q, 4, none⟩ = some (.int .u64 0) ∧ V.cell? ⟨q, 5, none⟩ = some (.int .u64 0) ∧ V.cell? ⟨q, 6, none⟩ = some (.int .u64 0) ∧ V.cell? ⟨q, 7, none⟩ = some (.int .u64 0) ∧ V.cell? ⟨q1, 0, none⟩ = some (.int .i64 0) ∧ V.cell? ⟨q1, 1, none⟩ = some (.int .i64 0) ∧ V.cell? ⟨q1, 2, none⟩ = some (.int .i64 0) ∧ V.cell? ⟨q1, 3, none⟩ = some (.int .u64 0) ∧ V.cell? ⟨q1, 4, none⟩ = some (.int .u64 0)) := Lib.hid (fun V h => by obtain ⟨a0, a1, a2, a3, a4, a5, a6, a7⟩ := h.file; exact ⟨a0, a1, a2, a3, a4, a5, a6, a7, h.zero⟩)
    go_region_held3 (fun V => V.cell? ⟨q, 0, none⟩ = some (.int .u64 0) ∧ V.cell? ⟨q, 1, none⟩ = some (.int .u64 5) ∧ V.cell? ⟨q, 2, none⟩ = some (.int .u64 18446744073709551615) ∧ V.cell? ⟨q, 3, none⟩ = some (.int .u64 0) ∧ V.cell? ⟨q, 4, none⟩ = some (.int .u64 0) ∧ V.cell? ⟨q, 5, none⟩ = some (.int .u64 0) ∧ V.cell? ⟨q, 6, none⟩ = some (.int .u64 0) ∧ V.cell? ⟨q, 7, none⟩ = some (.int .u64 0) ∧ V.cell? ⟨q1, 0, none⟩ = some (.int .i64 0) ∧ V.cell? ⟨q1, 1, none⟩ = some (.int .i64 0) ∧ V.cell? ⟨q1, 2, none⟩ = some (.int .i64 0) ∧ V.cell? ⟨q1, 3, none⟩ = some (.int .u64 0) ∧ V.cell? ⟨q1, 4, none⟩ = some (.int .u64 0)) (first | with_reducible exact HK2.out _ hP) (first | (go_at_call 10; refine (do_at ⟨1, 0, 0, 0, 0⟩ _ (by first | with_reducible exact x0 | with_reducible exact x1 | with_reducible exact x2) hP.std).mono ?_; rintro e V ⟨rfl, hb⟩; replace hP := hP.next hb; clear hb))
    go_wp2_with fail
    go_meet
    case rel => exact ⟨rfl, hP⟩
  case rest =>
  obtain ⟨rfl, hn⟩ := hcut
  clear HN; have HN := Lib.hid hn; clear hn
  go_upto_region 9 with (fail)
  go_upto_region 11 with (go_at_call 16; first | (with_reducible refine (a_textA HN.out.std).mono ?_; rintro e w5 ⟨rfl, hb5⟩; have hp5 := HN.out.next hb5; clear HN hb5; have HN := Lib.hid hp5; clear hp5) | (with_reducible refine (a_textB HN.out.std).mono ?_; rintro e w6 ⟨rfl, hb6⟩; have hp6 := HN.out.next hb6; clear HN hb6; have HN := Lib.hid hp6; clear hp6))
  have hn := HN.out.next ((Below.refl _ w6).alloc (Nat.le_refl _) (.cells #[.string ⟨#[109, 111, 118, 32, 56, 32, 48]⟩, .string ⟨#[109, 111, 118, 32, 49, 32, 50, 32, 48]⟩, .string ⟨#[114, 97, 119, 32, 51, 32, 49, 32, 50, 32, 48, 32, 48]⟩, .string ⟨#[115, 101, 116, 32, 49, 32, 48, 49]⟩, .string ⟨#[]⟩, .string ⟨#[109, 111, 118, 32, 49, 32, 32, 50]⟩, .string ⟨#[104, 97, 108, 116, 32]⟩, .string ⟨#[114, 97, 119, 32, 49, 32, 50, 32, 51, 32, 52]⟩, .string ⟨#[97, 100, 100, 32, 49, 32, 50]⟩] 9))
  have hl : Holds (w6.alloc (.cells #[.string ⟨#[109, 111, 118, 32, 56, 32, 48]⟩, .string ⟨#[109, 111, 118, 32, 49, 32, 50, 32, 48]⟩, .string ⟨#[114, 97, 119, 32, 51, 32, 49, 32, 50, 32, 48, 32, 48]⟩, .string ⟨#[115, 101, 116, 32, 49, 32, 48, 49]⟩, .string ⟨#[]⟩, .string ⟨#[109, 111, 118, 32, 49, 32, 32, 50]⟩, .string ⟨#[104, 97, 108, 116, 32]⟩, .string ⟨#[114, 97, 119, 32, 49, 32, 50, 32, 51, 32, 52]⟩, .string ⟨#[97, 100, 100, 32, 49, 32, 50]⟩] 9)) w6.heap.size 9 [.string ⟨#[109, 111, 118, 32, 56, 32, 48]⟩, .string ⟨#[109, 111, 118, 32, 49, 32, 50, 32, 48]⟩, .string ⟨#[114, 97, 119, 32, 51, 32, 49, 32, 50, 32, 48, 32, 48]⟩, .string ⟨#[115, 101, 116, 32, 49, 32, 48, 49]⟩, .string ⟨#[]⟩, .string ⟨#[109, 111, 118, 32, 49, 32, 32, 50]⟩, .string ⟨#[104, 97, 108, 116, 32]⟩, .string ⟨#[114, 97, 119, 32, 49, 32, 50, 32, 51, 32, 52]⟩, .string ⟨#[97, 100, 100, 32, 49, 32, 50]⟩] := Holds.new w6 9 [.string ⟨#[109, 111, 118, 32, 56, 32, 48]⟩, .string ⟨#[109, 111, 118, 32, 49, 32, 50, 32, 48]⟩, .string ⟨#[114, 97, 119, 32, 51, 32, 49, 32, 50, 32, 48, 32, 48]⟩, .string ⟨#[115, 101, 116, 32, 49, 32, 48, 49]⟩, .string ⟨#[]⟩, .string ⟨#[109, 111, 118, 32, 49, 32, 32, 50]⟩, .string ⟨#[104, 97, 108, 116, 32]⟩, .string ⟨#[114, 97, 119, 32, 49, 32, 50, 32, 51, 32, 52]⟩, .string ⟨#[97, 100, 100, 32, 49, 32, 50]⟩]
  clear HN
  generalize w6.alloc (.cells #[.string ⟨#[109, 111, 118, 32, 56, 32, 48]⟩, .string ⟨#[109, 111, 118, 32, 49, 32, 50, 32, 48]⟩, .string ⟨#[114, 97, 119, 32, 51, 32, 49, 32, 50, 32, 48, 32, 48]⟩, .string ⟨#[115, 101, 116, 32, 49, 32, 48, 49]⟩, .string ⟨#[]⟩, .string ⟨#[109, 111, 118, 32, 49, 32, 32, 50]⟩, .string ⟨#[104, 97, 108, 116, 32]⟩, .string ⟨#[114, 97, 119, 32, 49, 32, 50, 32, 51, 32, 52]⟩, .string ⟨#[97, 100, 100, 32, 49, 32, 50]⟩] 9) = W6 at *
  generalize w6.heap.size = qs at *
  have HN := Lib.hid hn; clear hn
  have HL := Lib.hid hl; clear hl
  go_loopw [4, 147] (fun o i wr => ∃ k : Nat, k ≤ 9 ∧ i = .int .i64 k ∧ o = .bool true ∧ NSt w q q1 wr ∧ Holds wr qs 9 [.string ⟨#[109, 111, 118, 32, 56, 32, 48]⟩, .string ⟨#[109, 111, 118, 32, 49, 32, 50, 32, 48]⟩, .string ⟨#[114, 97, 119, 32, 51, 32, 49, 32, 50, 32, 48, 32, 48]⟩, .string ⟨#[115, 101, 116, 32, 49, 32, 48, 49]⟩, .string ⟨#[]⟩, .string ⟨#[109, 111, 118, 32, 49, 32, 32, 50]⟩, .string ⟨#[104, 97, 108, 116, 32]⟩, .string ⟨#[114, 97, 119, 32, 49, 32, 50, 32, 51, 32, 52]⟩, .string ⟨#[97, 100, 100, 32, 49, 32, 50]⟩]) (fun _ i _ => 9 - (intOf i).toNat)
  case atStart => exact ⟨0, by omega, by simp, rfl, HN.out, HL.out⟩
  case round =>
    obtain ⟨k, hk, rfl, rfl, hn, hl⟩ := hrel
    clear HN HL
    by_cases hlt : k < 9
    · obtain ⟨s, hs⟩ : ∃ s, badL[k]? = some s := ⟨_, List.getElem?_eq_getElem (show k < badL.length from hlt)⟩
      have hc : wr.cell? ⟨qs, k, none⟩ = some (.string ⟨s.toArray⟩) := hl.cell (i := k) (by
        show (badL.map fun s => Value.string ⟨s.toArray⟩)[k]? = _
        rw [List.getElem?_map, hs]; rfl)
      have hbad := @a_bad s (List.mem_of_getElem? hs)
      have HB := Lib.hid (fun W => @hbad W); clear hbad hs
      have hki : (0 : Int) ≤ k ∧ (k : Int) < 9 := by omega
      have HN := Lib.hid hn; clear hn
      have HL := Lib.hid hl; clear hl
      go_wp2_with (go_at_call 14; with_reducible refine (HB.out _ HN.out.std).mono ?_; rintro e w7 ⟨rfl, hb⟩; have hn := HN.out.next hb; have hl := HL.out.below hb; clear HN HL hb; have HN := Lib.hid hn; have HL := Lib.hid hl; clear hn hl)
      go_roundw
      case rel => exact ⟨k + 1, by omega, by simp, rfl, HN.out.next ((Below.refl _ _).alloc (Nat.le_refl _) _), HL.out.alloc _⟩
      case measure => simp [intOf]; omega
    · obtain rfl : k = 9 := by omega
      have HN := Lib.hid hn; clear hn hl
      go_wp2_with (first
        | (go_at_call 19; refine (a_dec (newAt rfl 5 [.int .u8 2, .int .u8 3, .int .u8 0, .int .u8 0, .int .u8 255, .int .u8 255, .int .u8 255, .int .u8 254, .int .u8 1, .int .u8 1])).mono ?_; rintro e w8 ⟨g, c, cap, rfl, hd, hb⟩; have hn := HN.out.next (((Below.refl _ wr).alloc (Nat.le_refl _) _).trans (hb.mono (by simp))); have HD := Lib.hid hd; clear HN hb hd; have HN := Lib.hid hn; clear hn)
        | (go_at_call 20; refine (a_encbad (newAt rfl 23 [.int .i64 256, .int .i64 0, .int .i64 0, .int .i64 0, .int .i64 0])).mono ?_; rintro e w9 ⟨rfl, hb⟩; have hb' := ((Below.refl _ w8).alloc (Nat.le_refl _) (.cells #[.int .i64 256, .int .i64 0, .int .i64 0, .int .i64 0, .int .i64 0] 23)).trans (hb.mono (by simp)); have hn := HN.out.next hb'; have HB9 := Lib.hid hb'; clear HN hb hb'; have HN := Lib.hid hn; clear hn)
        | (go_at_call 21; refine (alive_any _ HN.out.std).mono ?_; rintro e w10 ⟨rfl, hb⟩; have hn := HN.out.next hb; obtain ⟨d0, d1, d2, d3, d4⟩ := HD.out w10 (HB9.out.trans (hb.mono HB9.out.size)); clear HN hb; have HN := Lib.hid hn; clear hn))
      exact bodyPost_ret (results_tmp rfl _ _ _) rfl ⟨rfl, HN.out.below⟩

end Go.Proofs.YtpjgiecljjfdiaaDoor
