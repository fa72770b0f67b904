/- SoftPlays: the walk. Conditions: those stated in each theorem. -/
import Derived.Test.YtjdmbiljaoiphaaSoftR4
namespace Go.Proofs.Ytjdmbiljaoiphaa
open Go.RowKit Go.BigFrame Go.Maps

theorem Try.sizeOp : (Try.prog.info? 36).map (·.size) = some 4 := by kernel_rfl
def RW.zero : RW := ⟨0, 0, 0, 0, 0, 0, 0, 0, 0, 0, false, false, 0, 0⟩
/-- At the beginning. -/
theorem start_a {w0 w : World} {p : Nat} (h : Aparts w0 w [pathP p PV.zero]) : Aparts w0 ((w.alloc (.cells #[.int .i64 0, .int .u64 0, .int .i64 0, .int .u64 0, .int .u64 0, .int .i64 0, .int .i64 0, .int .i64 0, .int .u64 0, .int .u64 0, .slice none 0 0, .slice none 0 0, .bool false, .bool false, .int .i64 0, .int .i64 0] 31)).alloc (.map #[] 0)) [pathP p PV.zero, refP w.heap.size PV.zero, memP (w.heap.size + 1) 0 (fun _ => 0)] := by
  have hb1 : Below w.heap.size w (w.alloc (.cells #[.int .i64 0, .int .u64 0, .int .i64 0, .int .u64 0, .int .u64 0, .int .i64 0, .int .i64 0, .int .i64 0, .int .u64 0, .int .u64 0, .slice none 0 0, .slice none 0 0, .bool false, .bool false, .int .i64 0, .int .i64 0] 31)) := (Below.refl _ w).alloc (Nat.le_refl _) _
  have h1 : Aparts w0 (w.alloc (.cells #[.int .i64 0, .int .u64 0, .int .i64 0, .int .u64 0, .int .u64 0, .int .i64 0, .int .i64 0, .int .i64 0, .int .u64 0, .int .u64 0, .slice none 0 0, .slice none 0 0, .bool false, .bool false, .int .i64 0, .int .i64 0] 31)) [pathP p PV.zero, refP w.heap.size PV.zero] := h.push (P := refP w.heap.size PV.zero) hb1
    ⟨RW.zero, .slice none 0 0, .slice none 0 0, ⟨Holds.new w 31 (RW.zero.cells (.slice none 0 0) (.slice none 0 0)), rowL_nil _ _, rowL_nil _ _⟩, ⟨rfl, rfl, rfl, rfl, rfl, rfl, rfl⟩, ⟨Nat.le_refl _, by simp⟩, fun g e => (by cases e), fun g e => (by cases e), by decide, by decide⟩
  have hs : (w.alloc (.cells #[.int .i64 0, .int .u64 0, .int .i64 0, .int .u64 0, .int .u64 0, .int .i64 0, .int .i64 0, .int .i64 0, .int .u64 0, .int .u64 0, .slice none 0 0, .slice none 0 0, .bool false, .bool false, .int .i64 0, .int .i64 0] 31)).heap.size = w.heap.size + 1 := by simp
  have h2 := h1.push (P := memP (w.heap.size + 1) 0 (fun _ => 0)) ((Below.refl _ _).alloc (Nat.le_refl _) (.map #[] 0)) ⟨⟨by omega, by simp⟩, by
    have := MmAt.made (w.alloc (.cells #[.int .i64 0, .int .u64 0, .int .i64 0, .int .u64 0, .int .u64 0, .int .i64 0, .int .i64 0, .int .i64 0, .int .u64 0, .int .u64 0, .slice none 0 0, .slice none 0 0, .bool false, .bool false, .int .i64 0, .int .i64 0] 31))
    rwa [hs] at this⟩
  exact h2

theorem op_row {w0 w : World} {ad : Option Addr} {xs : List OpQ} (h : RowsIn w0 ad 4 OpQ.cells xs) (hb : Below w0.heap.size w0 w) {k : Nat} {x : OpQ} (hx : xs[k]? = some x) : ∃ q c, ad = some ⟨q, c, none⟩ ∧ w.rangeAt q (c + k * 4) x.cells := by
  obtain ⟨q, c, e, hq, hr⟩ := h.row hx
  exact ⟨q, c, e, fun i v hi => (World.cell?_of_block (a := ⟨q, c + k * 4 + i, none⟩) (hb.block q hq)).trans (hr i v hi)⟩

set_option maxRecDepth 100000 in
set_option maxHeartbeats 1000000 in
theorem splays_long (a0 : Option Addr) (l0 c0 : Nat) (w : World) (hl : 2000 < l0) :
    Calls Try.prog 3 #[.slice a0 l0 c0] w fun e w' => e = .returned (.bool true) ∧ Below w.heap.size w w' := by
  have d0 : decide ((2000 : Int) < (l0 : Int)) = true := by simp; omega
  go_enter Try.func3, Try.ntmps3
  go_wp2
  go_ret
  exact ⟨rfl, Below.refl _ _⟩

set_option maxRecDepth 100000 in
set_option maxHeartbeats 4000000 in
theorem splays_ok (a0 : Option Addr) (xs : List OpQ) (c0 : Nat) (w : World) (hx : RowsIn w a0 4 OpQ.cells xs) (hg : ∀ x ∈ xs, x.good) (hl0 : xs.length ≤ 2000) :
    Calls Try.prog 3 #[.slice a0 xs.length c0] w fun e w' => e = .returned (.bool true) ∧ Below w.heap.size w w' := by
  have HX := Lib.hid hx; clear hx
  have HG := Lib.hid hg; clear hg
  have d0 : decide ((2000 : Int) < (xs.length : Int)) = false := by simp; omega
  have hmm := @run_makeMap Try.prog
  go_enter Try.func3, Try.ntmps3
  go_wp2_with fail
  refine (new_a (Aparts.nil w)).mono ?_
  rintro e w1 ⟨p, rfl, h⟩
  have HP := Lib.hid (start_a h)
  clear h d0
  go_wp2
  generalize (w1.alloc (.cells #[.int .i64 0, .int .u64 0, .int .i64 0, .int .u64 0, .int .u64 0, .int .i64 0, .int .i64 0, .int .i64 0, .int .u64 0, .int .u64 0, .slice none 0 0, .slice none 0 0, .bool false, .bool false, .int .i64 0, .int .i64 0] 31)).alloc (.map #[] 0) = w2 at *
  generalize w1.heap.size + 1 = b at *
  generalize w1.heap.size = q at *
  go_loopw [6] (fun i wr => ∃ (k c : Nat) (y : PV) (m : Int → Int), k ≤ xs.length ∧ c ≤ k ∧ y.ok ∧ 0 ≤ y.pts ∧ y.pts ≤ k ∧ i = .int .i64 k ∧ Aparts w wr [pathP p y, refP q y, memP b c m]) (fun i _ => xs.length - (intOf i).toNat)
  case atStart => exact ⟨0, 0, PV.zero, fun _ => 0, by omega, by omega, PV.ok_zero, by decide, by decide, rfl, HP.out⟩
  case round =>
    clear HP
    obtain ⟨k, c, y, m, hk, hck, ho, p0, p9, rfl, hs⟩ := hrel
    have HS := Lib.hid hs; clear hs
    have HO := Lib.hid ho; clear ho
    by_cases hlt : k < xs.length
    · obtain ⟨x, hxk⟩ : ∃ x, xs[k]? = some x := ⟨xs[k], List.getElem?_eq_getElem hlt⟩
      obtain ⟨q0, c1, rfl, hr⟩ := op_row HX.out HS.out.below hxk
      have Hr := Lib.hid hr; clear hr
      have HD := Lib.hid (do_any HS.out HO.out p0 (by omega) (by omega) x (HG.out x (List.mem_of_getElem? hxk)))
      clear hxk
      go_wp2_with (first | (refine wpList_load_mid rfl 36 (.tmp 24) rfl q0 (c1 + k * 4) rfl x.cells _ ?_ Try.underlying36 rfl Try.sizeOp ?_; exact Hr.out) | (go_at_call 11; refine HD.out.mono ?_; rintro e V ⟨rfl, y', c', m', e1, e2, e3, e4, h1⟩; have HV := Lib.hid h1; have HE := Lib.hid (And.intro e1 (And.intro e2 (And.intro e3 e4))); clear h1 e1 e2 e3 e4))
      obtain ⟨e1, e2, e3, e4⟩ := HE.out
      go_roundw
      case rel => exact ⟨k + 1, c', y', m', by omega, by omega, e2, by omega, by omega, by go_num, HV.out⟩
      case measure => simp [intOf]; omega
    · have : k = xs.length := by omega
      subst this
      have HZ := Lib.hid (same_any HS.out)
      have HB := Lib.hid HS.out.below
      go_wp2_with (go_at_call 12; refine HZ.out.mono ?_; rintro e V ⟨rfl, hb⟩; have HV := Lib.hid (HB.out.trans (hb.mono HB.out.size)); clear hb)
      go_ret
      exact ⟨rfl, HV.out⟩

theorem splays_any (a0 : Option Addr) (len0 cap0 : Nat) (w : World) (hx : Came w a0 len0 opKinds) :
    Calls Try.prog 3 #[.slice a0 len0 cap0] w fun e w' => e = .returned (.bool true) ∧ Below w.heap.size w w' := by
  by_cases hl : 2000 < len0
  · exact splays_long a0 len0 cap0 w hl
  · obtain ⟨xs, rfl, h1, h2⟩ := ops_in hx
    exact splays_ok a0 xs cap0 w h1 h2 (by omega)

end Go.Proofs.Ytjdmbiljaoiphaa
