/- DirNames: its helpers. Conditions: those stated in each theorem. -/
import Derived.Test.YtnhainjdaafmiaaDoorDirZ
namespace Go.Proofs.YtnhainjdaafmiaaDoor
open Go.RowKit Go.BigFrame

theorem eq_msg_same (a b c d0 d1 d2 d3 d4 d5 d6 d7 : Int) (w : World) : (Op.equalIn 10000 45 (.agg #[.int .i64 a, .int .i64 b, .int .i64 c, .int .u64 d0, .int .u64 d1, .int .u64 d2, .int .u64 d3, .int .u64 d4, .int .u64 d5, .int .u64 d6, .int .u64 d7]) (.agg #[.int .i64 a, .int .i64 b, .int .i64 c, .int .u64 d0, .int .u64 d1, .int .u64 d2, .int .u64 d3, .int .u64 d4, .int .u64 d5, .int .u64 d6, .int .u64 d7])).run Tryd.prog w = .ok true w :=
  (eq_msgs ⟨a, b, c, ⟨d0, d1, d2, d3, d4, d5, d6, d7⟩⟩ ⟨a, b, c, ⟨d0, d1, d2, d3, d4, d5, d6, d7⟩⟩ w).trans (by simp)
attribute [local go_sem ↓ high] eq_msg_same

section
variable {w0 w w' : World} {p m b L : Nat} {d d' : Dv} {G : List (Nat × List Value)} {v : Value} {ms : List MsgV}
theorem DOut.view {lo : Nat} {W : World} {v : Value} {ms : List MsgV} (h : DOut lo W v ms) : (∃ c, v = .slice none 0 c ∧ ms = []) ∨ ∃ g c, v = .slice (some ⟨g, 0, none⟩) ms.length c ∧ g < W.heap.size ∧ ∀ k x, ms[k]? = some x → W.rangeAt g (k * 11) x.cells := by
  rcases owns_form h with ⟨rfl, h0, -⟩ | ⟨g, cap, rfl, hg⟩
  · exact .inl ⟨0, rfl, List.eq_nil_of_length_eq_zero h0⟩
  · refine .inr ⟨g, cap, rfl, (owns_lt h hg).2, fun i m hm j u hu => ?_⟩
    have hj : j < 11 := (List.getElem?_eq_some_iff.1 hu).1
    exact (owns_cell h hg (by rw [flat_get MsgV.cells 11 MsgV.len ms i j m hm hj]; exact hu)).1

set_option maxRecDepth 100000 in
set_option maxHeartbeats 1000000 in
theorem hears_none (h : DSt w0 w p m b L d G) (x : MsgV) (hx : d.hear x = (d', [], 0)) :
    Calls Tryd.prog 14 #[.pointer (some ⟨p, 0, none⟩), .agg x.cells.toArray, .slice none 0 0] w fun e w' => e = .returned (.bool true) ∧ DSt w0 w' p m b L d' G := by
  have HB := Lib.hid (mbox_new w x)
  have HR := Lib.hid HB.out.row
  have HH := Lib.hid (hear_st (h.idle HB.out.below) x)
  rw [hx] at HH
  clear h HB hx
  go_enter Tryd.func14, Tryd.ntmps14
  go_wp2_with (first | (refine wpList_load_mid rfl 45 (.tmp 4) rfl w.heap.size 0 rfl x.cells _ ?_ Tryd.underlying45 rfl Tryd.size52 ?_; exact HR.out) | fail)
  refine HH.out.mono ?_
  rintro e w1 ⟨v, rfl, h1, h2⟩
  have H1 := Lib.hid h1; clear h1
  rcases h2.view with ⟨c, rfl, -⟩ | ⟨g, c, rfl, -, -⟩
  all_goals
    clear h2
    try simp only [List.length_nil]
    go_wp2
    refine wp_loop_rounds 1 ?_
    rw [rounds_succ]
    go_wp2
    go_ret
    exact ⟨rfl, H1.out⟩

set_option maxRecDepth 100000 in
set_option maxHeartbeats 2000000 in
theorem hears_some (h : DSt w0 w p m b L d G) (x : MsgV) (hx : d.hear x = (d', ms, 0)) (g c : Nat) (hg : (g, ms.flatMap MsgV.cells) ∈ G) (hm : ms ≠ []) (hl : ms.length ≤ 1000) :
    Calls Tryd.prog 14 #[.pointer (some ⟨p, 0, none⟩), .agg x.cells.toArray, .slice (some ⟨g, 0, none⟩) ms.length c] w fun e w' => e = .returned (.bool true) ∧ DSt w0 w' p m b L d' G := by
  have HB := Lib.hid (mbox_new w x)
  have HR := Lib.hid HB.out.row
  have HH := Lib.hid (hear_st (h.idle HB.out.below) x)
  rw [hx] at HH
  have Hg := Lib.hid hg; clear hg
  have Hm := Lib.hid hm; clear hm
  clear h HB hx
  go_enter Tryd.func14, Tryd.ntmps14
  go_wp2_with (first | (refine wpList_load_mid rfl 45 (.tmp 4) rfl w.heap.size 0 rfl x.cells _ ?_ Tryd.underlying45 rfl Tryd.size52 ?_; exact HR.out) | fail)
  refine HH.out.mono ?_
  rintro e w1 ⟨v, rfl, h1, h2⟩
  have hrow := (h1.rows _ Hg.out)
  have Hw := Lib.hid (fun (k : Nat) (y : MsgV) (hy : ms[k]? = some y) => show w1.rangeAt g (k * 11) y.cells from fun j u hu => by
    have hj : j < 11 := (List.getElem?_eq_some_iff.1 hu).1
    have := hrow.2 (k * 11 + j) u (by rw [flat_get MsgV.cells 11 MsgV.len ms k j y hy hj]; exact hu)
    rwa [Nat.zero_add] at this)
  have hgl := hrow.1
  have H1 := Lib.hid h1; clear h1 hrow
  rcases h2.view with ⟨c, rfl, he⟩ | ⟨g', c', rfl, hgl', hv⟩
  · exact absurd he Hm.out
  have Hv := Lib.hid hv; clear hv h2
  go_wp2
  go_loopw [9] (fun i wr => ∃ k : Nat, k ≤ ms.length ∧ i = .int .i64 k ∧ Below w1.heap.size w1 wr) (fun i _ => ms.length - (intOf i).toNat)
  case atStart => exact ⟨0, by omega, rfl, Below.refl _ _⟩
  case round =>
    obtain ⟨k, hk, rfl, hb⟩ := hrel
    by_cases hlt : k < ms.length
    · obtain ⟨⟨kd, co, ln, dd⟩, hy⟩ : ∃ y, ms[k]? = some y := ⟨ms[k], List.getElem?_eq_getElem hlt⟩
      have r1 : wr.rangeAt g (k * 11) (MsgV.cells ⟨kd, co, ln, dd⟩) := fun i u hi => by rw [hb.cell (p := ⟨g, k * 11 + i, none⟩) hgl]; exact Hw.out k _ hy i u hi
      have r2 : wr.rangeAt g' (k * 11) (MsgV.cells ⟨kd, co, ln, dd⟩) := fun i u hi => by rw [hb.cell (p := ⟨g', k * 11 + i, none⟩) hgl']; exact Hv.out k _ hy i u hi
      have a0 := r1 0 _ rfl
      have a1 := r1 1 _ rfl
      have a2 := r1 2 _ rfl
      have a3 := r1 3 _ rfl
      have a4 := r1 4 _ rfl
      have a5 := r1 5 _ rfl
      have a6 := r1 6 _ rfl
      have a7 := r1 7 _ rfl
      have a8 := r1 8 _ rfl
      have a9 := r1 9 _ rfl
      have a10 := r1 10 _ rfl
      have b0 := r2 0 _ rfl
      have b1 := r2 1 _ rfl
      have b2 := r2 2 _ rfl
      have b3 := r2 3 _ rfl
      have b4 := r2 4 _ rfl
      have b5 := r2 5 _ rfl
      have b6 := r2 6 _ rfl
      have b7 := r2 7 _ rfl
      have b8 := r2 8 _ rfl
      have b9 := r2 9 _ rfl
      have b10 := r2 10 _ rfl
      simp only [Nat.add_zero] at a0 b0
      have HBl := Lib.hid hb; clear hb
      clear r1 r2 hy
      go_wp2
      go_quiet (fail)
      go_wp2
      go_roundw
      case rel => exact ⟨k + 1, by omega, by go_num, below_drewN HBl.out _⟩
      case measure => simp [intOf]; omega
    · obtain rfl : k = ms.length := by omega
      have HBl := Lib.hid (H1.out.idle hb); clear hb
      go_wp2
      go_ret
      exact ⟨rfl, HBl.out⟩

set_option maxRecDepth 100000 in
set_option maxHeartbeats 1000000 in
theorem refuses_st (h : DSt w0 w p m b L d G) (x : MsgV) (e0 : Int) (hx : d.hear x = (d', [], e0)) :
    Calls Tryd.prog 17 #[.pointer (some ⟨p, 0, none⟩), .agg x.cells.toArray, .int .i64 e0] w fun e w' => e = .returned (.bool true) ∧ DSt w0 w' p m b L d' G := by
  have HB := Lib.hid (mbox_new w x)
  have HR := Lib.hid HB.out.row
  have HH := Lib.hid (hear_st (h.idle HB.out.below) x)
  rw [hx] at HH
  clear h HB hx
  go_enter Tryd.func17, Tryd.ntmps17
  go_wp2_with (first | (refine wpList_load_mid rfl 45 (.tmp 4) rfl w.heap.size 0 rfl x.cells _ ?_ Tryd.underlying45 rfl Tryd.size52 ?_; exact HR.out) | fail)
  refine HH.out.mono ?_
  rintro e w1 ⟨v, rfl, h1, h2⟩
  have H1 := Lib.hid h1; clear h1
  rcases h2.view with ⟨c, rfl, -⟩ | ⟨g, c, rfl, -, -⟩
  all_goals
    clear h2
    try simp only [List.length_nil]
    go_wp2
    go_ret
    exact ⟨rfl, H1.out⟩
end

end Go.Proofs.YtnhainjdaafmiaaDoor
