/- Encode: a list of instructions as bytes, or none. Conditions: those stated in each theorem. -/
import Derived.Test.YtfeemchdhbimhaaDoorEncA
namespace Go.Proofs.YtfeemchdhbimhaaDoor
open Go.RowKit Go.BigFrame

theorem all_take {l : List In} {k : Nat} {x : In} (h : l[k]? = some x) (ha : (l.take k).all fitsP = true) (hx : fitsP x = true) : (l.take (k + 1)).all fitsP = true := by
  rw [List.take_add_one, List.all_append, ha, h]; simp [hx]
theorem flat_take {l : List In} {k : Nat} {x : In} (h : l[k]? = some x) : (l.take (k + 1)).flatMap putP = (l.take k).flatMap putP ++ putP x := by
  rw [List.take_add_one, List.flatMap_append, h]; simp
theorem flat_len : ∀ (l : List In), (l.flatMap putP).length = 8 * l.length
  | [] => rfl
  | x :: r => by rw [List.flatMap_cons, List.length_append, putP_len, flat_len r, List.length_cons]; omega
theorem not_all {l : List In} {k : Nat} {x : In} (h : l[k]? = some x) (hx : fitsP x = false) : l.all fitsP = false := by
  rw [List.all_eq_false]
  exact ⟨x, List.mem_of_getElem? h, by simp [hx]⟩

/-- What Encode answers. -/
def EncOut (w : World) (o : Option (List UInt8)) (e : Ending) (w' : World) : Prop :=
  match o with
  | none => e = .returned (.tuple #[.slice none 0 0, .int .i64 2]) ∧ Below w.heap.size w w'
  | some bs => ∃ v, e = .returned (.tuple #[v, .int .i64 0]) ∧ w'.ownsRow w.heap.size 5 1 v bs.length (Lib.byteCells bs) ∧ Below w.heap.size w w'

set_option maxRecDepth 100000 in
set_option maxHeartbeats 2000000 in
theorem encode_any (a : Option Addr) (cap : Nat) (l : List In) (w : World) (hr : RowsIn w a 5 In.cells l) (hl : l.length ≤ 1000000) :
    Calls Tryd.prog 20 #[.slice a l.length cap] w fun e w' => EncOut w (encP l) e w' := by
  have Hr := Lib.hid hr; clear hr
  by_cases hlen : l.length ≤ 1024
  · obtain ⟨i0, z0, hi, hz0, hz1, hz2, hz3⟩ := info8
    have h8 : IntKind.i64.wrap ((l.length : Int) * 8) = ((l.length * 8 : Nat) : Int) := by rw [IntKind.wrap_i64]; omega
    obtain ⟨w1, hmk, hown, hgr⟩ := run_make_own w w.heap.size 42 5 i0 z0 1 Tryd.underlying42 hi hz0 hz1 .i64 .i64 (l.length * 8) (by rw [hz2]; omega) (by unfold maxLen; omega) (Nat.le_refl _)
    have hb1 : Below w.heap.size w w1 := (Below.refl _ w).grown hgr (Nat.le_refl _) (fun k e => by cases e)
    have hmk' : (Instr.makeSlice 42 (.int .i64 0) (.int .i64 ((l.length : Int) * 8))).run Tryd.prog w = .ok (.slice (some ⟨w.heap.size, 0, none⟩) 0 (l.length * 8)) w1 := by simpa using hmk
    clear hmk
    have Hown := Lib.hid hown; clear hown
    have Hb1 := Lib.hid hb1; clear hb1 hgr hi hz0 hz1 hz2 hz3 h8
    go_enter Tryd.func20, Tryd.ntmps20
    go_wp2_with fail
    clear hmk'
    go_loopw [4, 16] (fun v i wr => ∃ k : Nat, k ≤ l.length ∧ i = .int .i64 k ∧ (l.take k).all fitsP = true ∧ wr.ownsRow w.heap.size 5 1 v ((l.take k).flatMap putP).length (Lib.byteCells ((l.take k).flatMap putP)) ∧ Below w.heap.size w wr)
      (fun _ i _ => l.length - (intOf i).toNat)
    case atStart => exact ⟨0, by omega, by simp, by simp, Hown.out, Hb1.out⟩
    case round =>
      obtain ⟨k, hk, rfl, hall, hown, hbw⟩ := hrel
      have Hall := Lib.hid hall; clear hall
      have Hown := Lib.hid hown; clear hown
      have Hbw := Lib.hid hbw; clear hbw Hb1
      by_cases hlt : k < l.length
      · obtain ⟨x, hx⟩ : ∃ x, l[k]? = some x := ⟨l[k], List.getElem?_eq_getElem hlt⟩
        have hrw := Hr.out.below (Hbw.out.mono (Nat.le_refl _))
        obtain ⟨q, c, rfl, hq, hrr⟩ := hrw.row hx
        have HX := Lib.hid hx; clear hx
        have Hrr := Lib.hid hrr; clear hrr hrw
        have hfx := fun W => fits_any x W
        have hput := fun W v' (h1 : W.ownsRow w.heap.size 5 1 v' ((l.take k).flatMap putP).length (Lib.byteCells ((l.take k).flatMap putP))) (h2 : w.heap.size ≤ W.heap.size) => put_any x W w.heap.size v' ((l.take k).flatMap putP) h1 h2 (by rw [flat_len, List.length_take]; omega)
        obtain ⟨op, xa, xb, xc, imm⟩ := x
        have hbk : (0 : Int) ≤ k ∧ (k : Int) < l.length := by omega
        have hone : wr.heap.size < wr.heap.size + 1 := by omega
        cases hft : fitsP ⟨op, xa, xb, xc, imm⟩ with
        | false =>
          rw [hft] at hfx
          have Hfx := Lib.hid hfx; clear hfx hput
          have He := Lib.hid (show encP l = none by simp [encP, not_all HX.out hft])
          have HB2 := Lib.hid (Hbw.out.alloc Hbw.out.size (.cells #[.int .i64 op, .int .i64 xa, .int .i64 xb, .int .i64 xc, .int .i64 imm] 23))
          clear hft
          go_wp2_with (first | (refine wpList_load_mid rfl 23 (.tmp 18) rfl q (c + k * 5) rfl [.int .i64 op, .int .i64 xa, .int .i64 xb, .int .i64 xc, .int .i64 imm] _ ?_ Tryd.underlying23 rfl (by kernel_rfl) ?_; exact Hrr.out) | (go_at_call 42; refine (Hfx.out _).mono ?_; rintro e w3 ⟨rfl, hb3⟩))
          go_ret2
          rw [He.out]
          exact ⟨rfl, HB2.out.trans (hb3.mono HB2.out.size)⟩
        | true =>
          rw [hft] at hfx
          have Hfx := Lib.hid hfx; clear hfx
          have Hput := Lib.hid hput; clear hput
          have Hft := Lib.hid hft; clear hft
          go_wp2_with (first | (refine wpList_load_mid rfl 23 (.tmp 18) rfl q (c + k * 5) rfl [.int .i64 op, .int .i64 xa, .int .i64 xb, .int .i64 xc, .int .i64 imm] _ ?_ Tryd.underlying23 rfl (by kernel_rfl) ?_; exact Hrr.out) | (go_at_call 42; refine (Hfx.out _).mono ?_; rintro e w3 ⟨rfl, hb3⟩; refine Hid.out ?_))
          refine Lib.hid ?_
          have hbx : Holds w3 wr.heap.size 23 [.int .i64 op, .int .i64 xa, .int .i64 xb, .int .i64 xc, .int .i64 imm] := (Holds.new wr 23 [.int .i64 op, .int .i64 xa, .int .i64 xb, .int .i64 xc, .int .i64 imm]).below hb3
          have ho3 : w3.ownsRow w.heap.size 5 1 u4 ((l.take k).flatMap putP).length (Lib.byteCells ((l.take k).flatMap putP)) := owns_same (World.ownsRow.alloc Hown.out _) (fun g e => hb3.block g (by have := (owns_lt Hown.out e).2; simp; omega))
          have hw3 : Below w.heap.size w w3 := (Hbw.out.alloc Hbw.out.size _).trans (hb3.mono (by have := Hbw.out.size; simp; omega))
          have c0 := hbx.cell (i := 0) rfl
          have c1 := hbx.cell (i := 1) rfl
          have c2 := hbx.cell (i := 2) rfl
          have c3 := hbx.cell (i := 3) rfl
          have c4 := hbx.cell (i := 4) rfl
          have Ho3 := Lib.hid ho3; clear ho3
          have Hw3 := Lib.hid hw3; clear hw3 hb3 hbx
          go_wp2_with (go_at_call 43; refine (Hput.out _ _ Ho3.out Hw3.out.size).mono ?_; rintro e w4 ⟨v4, rfl, ho4, hb4, hn4⟩)
          go_roundw
          case rel => exact ⟨k + 1, by omega, by simp, all_take HX.out Hall.out Hft.out, by rw [flat_take HX.out]; exact ho4, Hw3.out.trans hb4⟩
          case measure => simp [intOf]; omega
      · obtain rfl : k = l.length := by omega
        have he : encP l = some (l.flatMap putP) := by
          have := Hall.out; rw [List.take_length] at this
          simp [encP, hlen, this]
        have He := Lib.hid he
        have ho := Hown.out
        rw [List.take_length] at ho
        have Ho := Lib.hid ho; clear ho he Hown Hall
        go_wp2
        go_ret2
        rw [He.out]
        exact ⟨_, rfl, Ho.out, Hbw.out⟩
  · have he : encP l = none := by simp [encP, hlen]
    rw [he]
    have h1 : (1024 : Int) < l.length := by omega
    go_enter Tryd.func20, Tryd.ntmps20
    go_wp2
    go_ret2
    exact ⟨rfl, Below.refl _ _⟩

end Go.Proofs.YtfeemchdhbimhaaDoor
