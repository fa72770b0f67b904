/- The document's own Encode. Conditions: those stated in each theorem. -/
import Derived.Test.YtlppmjbfgclkgaaEncB
namespace Go.Proofs.Ytlppmjbfgclkgaa
open Go.RowKit Go.BigFrame

/-- The first bytes. -/
def preP (i : In) (j : Nat) : List UInt8 := [byP i.op, byP i.a, byP i.b, byP i.c].take j
theorem byteR_no {z : Int} (h : ¬ (0 ≤ z ∧ z ≤ 255)) : byteR z = false := by simp [byteR]; omega
theorem fits_no {i : In} {k : Nat} (hk : k < 4) (h : byteR (i.get k) = false) : fitsP i = false := by
  match k, hk with
  | 0, _ => simp only [In.get] at h; simp [fitsP, h]
  | 1, _ => simp only [In.get] at h; simp [fitsP, h]
  | 2, _ => simp only [In.get] at h; simp [fitsP, h]
  | 3, _ => simp only [In.get] at h; simp [fitsP, h]

set_option maxRecDepth 100000 in
set_option maxHeartbeats 4000000 in
theorem rencode_any (a : Option Addr) (cap : Nat) (l : List In) (w : World) (hr : RowsIn w a 5 In.cells l) (hl : l.length ≤ 1000000) :
    Calls Try.prog 8 #[.slice a l.length cap] w fun e w' => EncOut w (encP l) e w' := by
  have Hr := Lib.hid hr; clear hr
  by_cases hlen : l.length ≤ 1024
  · obtain ⟨i0, z0, hi, hz0, hz1, hz2, hz3⟩ := info8
    have HI := Lib.hid hi; clear hi
    have HZ0 := Lib.hid hz0; clear hz0
    have HZ1 := Lib.hid hz1; clear hz1
    have HZ2 := Lib.hid hz2; clear hz2
    have HZ3 := Lib.hid hz3; clear hz3
    go_enter Try.func8, Try.ntmps8
    go_wp2_with fail
    go_loopw [4, 5] (fun v i wr => ∃ k : Nat, k ≤ l.length ∧ i = .int .i64 k ∧ (l.take k).all fitsP = true ∧ wr.ownsRow w.heap.size 5 1 v ((l.take k).flatMap putP).length (Lib.byteCells ((l.take k).flatMap putP)) ∧ Below w.heap.size w wr)
      (fun _ i _ => l.length - (intOf i).toNat)
    case atStart => exact ⟨0, by omega, by simp, by simp, World.ownsRow_nil _ _ _ _, Below.refl _ _⟩
    case round =>
      obtain ⟨k, hk, rfl, hall, hown, hbw⟩ := hrel
      have Hall := Lib.hid hall; clear hall
      have Hown := Lib.hid hown; clear hown
      have Hbw := Lib.hid hbw; clear hbw
      by_cases hlt : k < l.length
      · obtain ⟨x, hx⟩ : ∃ x, l[k]? = some x := ⟨l[k], List.getElem?_eq_getElem hlt⟩
        have hrw := Hr.out.below (Hbw.out.mono (Nat.le_refl _))
        obtain ⟨q, c, rfl, hq, hrr⟩ := hrw.row hx
        have HX := Lib.hid hx; clear hx
        have Hrr := Lib.hid hrr; clear hrr hrw
        have hplen : ((l.take k).flatMap putP).length ≤ 8192 := by rw [flat_len, List.length_take]; omega
        obtain ⟨op, xa, xb, xc, imm⟩ := x
        have hbk : (0 : Int) ≤ k ∧ (k : Int) < l.length := by omega
        go_wp2_with (refine wpList_load_mid rfl 27 (.tmp 21) rfl q (c + k * 5) rfl [.int .i64 op, .int .i64 xa, .int .i64 xb, .int .i64 xc, .int .i64 imm] _ ?_ Try.underlying27 rfl (by kernel_rfl) ?_; exact Hrr.out)
        have b0 : Holds ((wr.alloc (.cells #[.int .i64 op, .int .i64 xa, .int .i64 xb, .int .i64 xc, .int .i64 imm] 27)).alloc (.cells #[.int .i64 op, .int .i64 xa, .int .i64 xb, .int .i64 xc] 3)) wr.heap.size 27 [.int .i64 op, .int .i64 xa, .int .i64 xb, .int .i64 xc, .int .i64 imm] := (Holds.new wr 27 [.int .i64 op, .int .i64 xa, .int .i64 xb, .int .i64 xc, .int .i64 imm]).alloc _
        have b1 : Holds ((wr.alloc (.cells #[.int .i64 op, .int .i64 xa, .int .i64 xb, .int .i64 xc, .int .i64 imm] 27)).alloc (.cells #[.int .i64 op, .int .i64 xa, .int .i64 xb, .int .i64 xc] 3)) (wr.heap.size + 1) 3 [.int .i64 op, .int .i64 xa, .int .i64 xb, .int .i64 xc] := newAt (by simp) _ _
        have hw1 : Below w.heap.size w ((wr.alloc (.cells #[.int .i64 op, .int .i64 xa, .int .i64 xb, .int .i64 xc, .int .i64 imm] 27)).alloc (.cells #[.int .i64 op, .int .i64 xa, .int .i64 xb, .int .i64 xc] 3)) := (Hbw.out.alloc Hbw.out.size _).alloc (by have := Hbw.out.size; simp; omega) _
        have ho1 : ((wr.alloc (.cells #[.int .i64 op, .int .i64 xa, .int .i64 xb, .int .i64 xc, .int .i64 imm] 27)).alloc (.cells #[.int .i64 op, .int .i64 xa, .int .i64 xb, .int .i64 xc] 3)).ownsRow w.heap.size 5 1 u4 ((l.take k).flatMap putP).length (Lib.byteCells ((l.take k).flatMap putP)) := (World.ownsRow.alloc Hown.out _).alloc _
        have hg4 : True := trivial
        generalize ((wr.alloc (.cells #[.int .i64 op, .int .i64 xa, .int .i64 xb, .int .i64 xc, .int .i64 imm] 27)).alloc (.cells #[.int .i64 op, .int .i64 xa, .int .i64 xb, .int .i64 xc] 3)) = W1 at *
        have hnb0 : w.heap.size ≤ wr.heap.size := Hbw.out.size
        clear Hbw Hown hg4
        generalize wr.heap.size = nb at *
        generalize hpre : (l.take k).flatMap putP = pre at *
        have Hpre := Lib.hid hpre; clear hpre
        have B0 := Lib.hid b0; clear b0
        have B1 := Lib.hid b1; clear b1
        have Hw1 := Lib.hid hw1; clear hw1
        have Ho1 := Lib.hid ho1; clear ho1
        go_loopw [4, 8] (fun v i wr2 => ∃ j : Nat, j ≤ 4 ∧ i = .int .i64 j ∧ (∀ m, m < j → byteR ((In.mk op xa xb xc imm).get m) = true) ∧ wr2.ownsRow w.heap.size 5 1 v (pre ++ preP ⟨op, xa, xb, xc, imm⟩ j).length (Lib.byteCells (pre ++ preP ⟨op, xa, xb, xc, imm⟩ j)) ∧ Holds wr2 nb 27 [.int .i64 op, .int .i64 xa, .int .i64 xb, .int .i64 xc, .int .i64 imm] ∧ Holds wr2 (nb + 1) 3 [.int .i64 op, .int .i64 xa, .int .i64 xb, .int .i64 xc] ∧ Below w.heap.size w wr2)
          (fun _ i _ => 4 - (intOf i).toNat)
        case atStart => exact ⟨0, by omega, rfl, fun m h => by omega, by simpa [preP] using Ho1.out, B0.out, B1.out, Hw1.out⟩
        case round =>
          obtain ⟨j, hj, rfl, hbt, ho2, b0, b1, hw2⟩ := hrel
          have Hbt := Lib.hid hbt; clear hbt
          have Ho2 := Lib.hid ho2; clear ho2
          have Hw2 := Lib.hid hw2; clear hw2
          have d0 := b1.cell (i := 0) rfl
          have d1 := b1.cell (i := 1) rfl
          have d2 := b1.cell (i := 2) rfl
          have d3 := b1.cell (i := 3) rfl
          have C0 := Lib.hid b0; clear b0
          have C1 := Lib.hid b1; clear b1
          clear B0 B1 Hw1 Ho1
          rcases (by omega : j = 0 ∨ j = 1 ∨ j = 2 ∨ j = 3 ∨ j = 4) with rfl | rfl | rfl | rfl | rfl
          · by_cases h0 : 0 ≤ op
            · by_cases h1 : op ≤ 255
              · have hpl : (pre ++ preP ⟨op, xa, xb, xc, imm⟩ 0).length ≤ 8196 := by rw [List.length_append]; simp [preP]; omega
                have Hn : Hid (([.int .u8 op] : List Value) = Lib.byteCells [byP op]) := Lib.hid (by simp only [Lib.byteCells, List.map_cons, List.map_nil, u8_val]; congr 3; omega)
                have Hst : Hid (preP ⟨op, xa, xb, xc, imm⟩ 0 ++ [byP op] = preP ⟨op, xa, xb, xc, imm⟩ 1) := Lib.hid rfl
                have HW2 := Lib.hid Hw2.out.size
                go_wp2_with (at_builtin; refine wpList_append_own_at _ rfl _ _ 22 rfl w.heap.size 5 i0 z0 1 1 Try.underlying22 HI.out HZ0.out HZ1.out HZ2.out HZ3.out (by decide) u4 (pre ++ preP ⟨op, xa, xb, xc, imm⟩ 0).length (Lib.byteCells (pre ++ preP ⟨op, xa, xb, xc, imm⟩ 0)) rfl (World.ownsRow.alloc Ho2.out _) ⟨wr.heap.size, 0, none⟩ 1 1 [.int .u8 op] rfl rfl (World.news_of_block (t := 5) (fr := (0, 0)) (new_block wr _)) (by simp [Value.oneCell']) (by unfold maxLen; omega) (by omega) (by have := Hw2.out.size; simp; omega) ?_; intro v5 w5 hown5 hgrow5 hnil5 hat5; refine Hid.out ?_)
                refine Lib.hid ?_
                have hb5 : Below w.heap.size w w5 := (Hw2.out.alloc Hw2.out.size _).grown hgrow5 (by have := Hw2.out.size; simp; omega) (fun g hg => (owns_lt Ho2.out hg).1)
                have e0 : Holds w5 nb 27 _ := (C0.out.alloc _).same (hgrow5.block nb (by have := C0.out.lt; simp; omega) (fun e => (owns_kind Ho2.out e.symm).elim (fun cc hcc => by have := C0.out; unfold Holds at this; rw [this] at hcc; cases hcc)))
                have e1 : Holds w5 (nb + 1) 3 _ := (C1.out.alloc _).same (hgrow5.block (nb + 1) (by have := C1.out.lt; simp; omega) (fun e => (owns_kind Ho2.out e.symm).elim (fun cc hcc => by have := C1.out; unfold Holds at this; rw [this] at hcc; cases hcc)))
                rw [Hn.out, ← Lib.byteCells_append, List.append_assoc, Hst.out] at hown5
                have hll : (pre ++ preP ⟨op, xa, xb, xc, imm⟩ 0).length + 1 = (pre ++ preP ⟨op, xa, xb, xc, imm⟩ 1).length := by simp only [List.length_append]; simp [preP]
                rw [hll] at hown5
                have H5 := Lib.hid hown5; clear hown5 hgrow5 hnil5 hat5 hll
                have E0 := Lib.hid e0; clear e0
                have E1 := Lib.hid e1; clear e1
                have B5 := Lib.hid hb5; clear hb5
                clear d0 d1 d2 d3
                go_wp2
                go_roundw
                case rel => exact ⟨1, by omega, rfl, fun m hm => (by
                  by_cases hj : m < 0
                  · exact Hbt.out m hj
                  · have e : m = 0 := by omega
                    subst e; simp [byteR, In.get, h0, h1]), H5.out, E0.out, E1.out, B5.out⟩
                case measure => simp [intOf]
              · have He := Lib.hid (show encP l = none by simp [encP, not_all HX.out (fits_no (k := 0) (by omega) (byteR_no (z := op) (fun h => h1 h.2)))])
                go_wp2
                go_ret2
                rw [He.out]
                exact ⟨rfl, Hw2.out⟩
            · have He := Lib.hid (show encP l = none by simp [encP, not_all HX.out (fits_no (k := 0) (by omega) (byteR_no (z := op) (fun h => h0 h.1)))])
              go_wp2
              go_ret2
              rw [He.out]
              exact ⟨rfl, Hw2.out⟩
          · by_cases h0 : 0 ≤ xa
            · by_cases h1 : xa ≤ 255
              · have hpl : (pre ++ preP ⟨op, xa, xb, xc, imm⟩ 1).length ≤ 8196 := by rw [List.length_append]; simp [preP]; omega
                have Hn : Hid (([.int .u8 xa] : List Value) = Lib.byteCells [byP xa]) := Lib.hid (by simp only [Lib.byteCells, List.map_cons, List.map_nil, u8_val]; congr 3; omega)
                have Hst : Hid (preP ⟨op, xa, xb, xc, imm⟩ 1 ++ [byP xa] = preP ⟨op, xa, xb, xc, imm⟩ 2) := Lib.hid rfl
                have HW2 := Lib.hid Hw2.out.size
                go_wp2_with (at_builtin; refine wpList_append_own_at _ rfl _ _ 22 rfl w.heap.size 5 i0 z0 1 1 Try.underlying22 HI.out HZ0.out HZ1.out HZ2.out HZ3.out (by decide) u4 (pre ++ preP ⟨op, xa, xb, xc, imm⟩ 1).length (Lib.byteCells (pre ++ preP ⟨op, xa, xb, xc, imm⟩ 1)) rfl (World.ownsRow.alloc Ho2.out _) ⟨wr.heap.size, 0, none⟩ 1 1 [.int .u8 xa] rfl rfl (World.news_of_block (t := 5) (fr := (0, 0)) (new_block wr _)) (by simp [Value.oneCell']) (by unfold maxLen; omega) (by omega) (by have := Hw2.out.size; simp; omega) ?_; intro v5 w5 hown5 hgrow5 hnil5 hat5; refine Hid.out ?_)
                refine Lib.hid ?_
                have hb5 : Below w.heap.size w w5 := (Hw2.out.alloc Hw2.out.size _).grown hgrow5 (by have := Hw2.out.size; simp; omega) (fun g hg => (owns_lt Ho2.out hg).1)
                have e0 : Holds w5 nb 27 _ := (C0.out.alloc _).same (hgrow5.block nb (by have := C0.out.lt; simp; omega) (fun e => (owns_kind Ho2.out e.symm).elim (fun cc hcc => by have := C0.out; unfold Holds at this; rw [this] at hcc; cases hcc)))
                have e1 : Holds w5 (nb + 1) 3 _ := (C1.out.alloc _).same (hgrow5.block (nb + 1) (by have := C1.out.lt; simp; omega) (fun e => (owns_kind Ho2.out e.symm).elim (fun cc hcc => by have := C1.out; unfold Holds at this; rw [this] at hcc; cases hcc)))
                rw [Hn.out, ← Lib.byteCells_append, List.append_assoc, Hst.out] at hown5
                have hll : (pre ++ preP ⟨op, xa, xb, xc, imm⟩ 1).length + 1 = (pre ++ preP ⟨op, xa, xb, xc, imm⟩ 2).length := by simp only [List.length_append]; simp [preP]
                rw [hll] at hown5
                have H5 := Lib.hid hown5; clear hown5 hgrow5 hnil5 hat5 hll
                have E0 := Lib.hid e0; clear e0
                have E1 := Lib.hid e1; clear e1
                have B5 := Lib.hid hb5; clear hb5
                clear d0 d1 d2 d3
                go_wp2
                go_roundw
                case rel => exact ⟨2, by omega, rfl, fun m hm => (by
                  by_cases hj : m < 1
                  · exact Hbt.out m hj
                  · have e : m = 1 := by omega
                    subst e; simp [byteR, In.get, h0, h1]), H5.out, E0.out, E1.out, B5.out⟩
                case measure => simp [intOf]
              · have He := Lib.hid (show encP l = none by simp [encP, not_all HX.out (fits_no (k := 1) (by omega) (byteR_no (z := xa) (fun h => h1 h.2)))])
                go_wp2
                go_ret2
                rw [He.out]
                exact ⟨rfl, Hw2.out⟩
            · have He := Lib.hid (show encP l = none by simp [encP, not_all HX.out (fits_no (k := 1) (by omega) (byteR_no (z := xa) (fun h => h0 h.1)))])
              go_wp2
              go_ret2
              rw [He.out]
              exact ⟨rfl, Hw2.out⟩
          · by_cases h0 : 0 ≤ xb
            · by_cases h1 : xb ≤ 255
              · have hpl : (pre ++ preP ⟨op, xa, xb, xc, imm⟩ 2).length ≤ 8196 := by rw [List.length_append]; simp [preP]; omega
                have Hn : Hid (([.int .u8 xb] : List Value) = Lib.byteCells [byP xb]) := Lib.hid (by simp only [Lib.byteCells, List.map_cons, List.map_nil, u8_val]; congr 3; omega)
                have Hst : Hid (preP ⟨op, xa, xb, xc, imm⟩ 2 ++ [byP xb] = preP ⟨op, xa, xb, xc, imm⟩ 3) := Lib.hid rfl
                have HW2 := Lib.hid Hw2.out.size
                go_wp2_with (at_builtin; refine wpList_append_own_at _ rfl _ _ 22 rfl w.heap.size 5 i0 z0 1 1 Try.underlying22 HI.out HZ0.out HZ1.out HZ2.out HZ3.out (by decide) u4 (pre ++ preP ⟨op, xa, xb, xc, imm⟩ 2).length (Lib.byteCells (pre ++ preP ⟨op, xa, xb, xc, imm⟩ 2)) rfl (World.ownsRow.alloc Ho2.out _) ⟨wr.heap.size, 0, none⟩ 1 1 [.int .u8 xb] rfl rfl (World.news_of_block (t := 5) (fr := (0, 0)) (new_block wr _)) (by simp [Value.oneCell']) (by unfold maxLen; omega) (by omega) (by have := Hw2.out.size; simp; omega) ?_; intro v5 w5 hown5 hgrow5 hnil5 hat5; refine Hid.out ?_)
                refine Lib.hid ?_
                have hb5 : Below w.heap.size w w5 := (Hw2.out.alloc Hw2.out.size _).grown hgrow5 (by have := Hw2.out.size; simp; omega) (fun g hg => (owns_lt Ho2.out hg).1)
                have e0 : Holds w5 nb 27 _ := (C0.out.alloc _).same (hgrow5.block nb (by have := C0.out.lt; simp; omega) (fun e => (owns_kind Ho2.out e.symm).elim (fun cc hcc => by have := C0.out; unfold Holds at this; rw [this] at hcc; cases hcc)))
                have e1 : Holds w5 (nb + 1) 3 _ := (C1.out.alloc _).same (hgrow5.block (nb + 1) (by have := C1.out.lt; simp; omega) (fun e => (owns_kind Ho2.out e.symm).elim (fun cc hcc => by have := C1.out; unfold Holds at this; rw [this] at hcc; cases hcc)))
                rw [Hn.out, ← Lib.byteCells_append, List.append_assoc, Hst.out] at hown5
                have hll : (pre ++ preP ⟨op, xa, xb, xc, imm⟩ 2).length + 1 = (pre ++ preP ⟨op, xa, xb, xc, imm⟩ 3).length := by simp only [List.length_append]; simp [preP]
                rw [hll] at hown5
                have H5 := Lib.hid hown5; clear hown5 hgrow5 hnil5 hat5 hll
                have E0 := Lib.hid e0; clear e0
                have E1 := Lib.hid e1; clear e1
                have B5 := Lib.hid hb5; clear hb5
                clear d0 d1 d2 d3
                go_wp2
                go_roundw
                case rel => exact ⟨3, by omega, rfl, fun m hm => (by
                  by_cases hj : m < 2
                  · exact Hbt.out m hj
                  · have e : m = 2 := by omega
                    subst e; simp [byteR, In.get, h0, h1]), H5.out, E0.out, E1.out, B5.out⟩
                case measure => simp [intOf]
              · have He := Lib.hid (show encP l = none by simp [encP, not_all HX.out (fits_no (k := 2) (by omega) (byteR_no (z := xb) (fun h => h1 h.2)))])
                go_wp2
                go_ret2
                rw [He.out]
                exact ⟨rfl, Hw2.out⟩
            · have He := Lib.hid (show encP l = none by simp [encP, not_all HX.out (fits_no (k := 2) (by omega) (byteR_no (z := xb) (fun h => h0 h.1)))])
              go_wp2
              go_ret2
              rw [He.out]
              exact ⟨rfl, Hw2.out⟩
          · by_cases h0 : 0 ≤ xc
            · by_cases h1 : xc ≤ 255
              · have hpl : (pre ++ preP ⟨op, xa, xb, xc, imm⟩ 3).length ≤ 8196 := by rw [List.length_append]; simp [preP]; omega
                have Hn : Hid (([.int .u8 xc] : List Value) = Lib.byteCells [byP xc]) := Lib.hid (by simp only [Lib.byteCells, List.map_cons, List.map_nil, u8_val]; congr 3; omega)
                have Hst : Hid (preP ⟨op, xa, xb, xc, imm⟩ 3 ++ [byP xc] = preP ⟨op, xa, xb, xc, imm⟩ 4) := Lib.hid rfl
                have HW2 := Lib.hid Hw2.out.size
                go_wp2_with (at_builtin; refine wpList_append_own_at _ rfl _ _ 22 rfl w.heap.size 5 i0 z0 1 1 Try.underlying22 HI.out HZ0.out HZ1.out HZ2.out HZ3.out (by decide) u4 (pre ++ preP ⟨op, xa, xb, xc, imm⟩ 3).length (Lib.byteCells (pre ++ preP ⟨op, xa, xb, xc, imm⟩ 3)) rfl (World.ownsRow.alloc Ho2.out _) ⟨wr.heap.size, 0, none⟩ 1 1 [.int .u8 xc] rfl rfl (World.news_of_block (t := 5) (fr := (0, 0)) (new_block wr _)) (by simp [Value.oneCell']) (by unfold maxLen; omega) (by omega) (by have := Hw2.out.size; simp; omega) ?_; intro v5 w5 hown5 hgrow5 hnil5 hat5; refine Hid.out ?_)
                refine Lib.hid ?_
                have hb5 : Below w.heap.size w w5 := (Hw2.out.alloc Hw2.out.size _).grown hgrow5 (by have := Hw2.out.size; simp; omega) (fun g hg => (owns_lt Ho2.out hg).1)
                have e0 : Holds w5 nb 27 _ := (C0.out.alloc _).same (hgrow5.block nb (by have := C0.out.lt; simp; omega) (fun e => (owns_kind Ho2.out e.symm).elim (fun cc hcc => by have := C0.out; unfold Holds at this; rw [this] at hcc; cases hcc)))
                have e1 : Holds w5 (nb + 1) 3 _ := (C1.out.alloc _).same (hgrow5.block (nb + 1) (by have := C1.out.lt; simp; omega) (fun e => (owns_kind Ho2.out e.symm).elim (fun cc hcc => by have := C1.out; unfold Holds at this; rw [this] at hcc; cases hcc)))
                rw [Hn.out, ← Lib.byteCells_append, List.append_assoc, Hst.out] at hown5
                have hll : (pre ++ preP ⟨op, xa, xb, xc, imm⟩ 3).length + 1 = (pre ++ preP ⟨op, xa, xb, xc, imm⟩ 4).length := by simp only [List.length_append]; simp [preP]
                rw [hll] at hown5
                have H5 := Lib.hid hown5; clear hown5 hgrow5 hnil5 hat5 hll
                have E0 := Lib.hid e0; clear e0
                have E1 := Lib.hid e1; clear e1
                have B5 := Lib.hid hb5; clear hb5
                clear d0 d1 d2 d3
                go_wp2
                go_roundw
                case rel => exact ⟨4, by omega, rfl, fun m hm => (by
                  by_cases hj : m < 3
                  · exact Hbt.out m hj
                  · have e : m = 3 := by omega
                    subst e; simp [byteR, In.get, h0, h1]), H5.out, E0.out, E1.out, B5.out⟩
                case measure => simp [intOf]
              · have He := Lib.hid (show encP l = none by simp [encP, not_all HX.out (fits_no (k := 3) (by omega) (byteR_no (z := xc) (fun h => h1 h.2)))])
                go_wp2
                go_ret2
                rw [He.out]
                exact ⟨rfl, Hw2.out⟩
            · have He := Lib.hid (show encP l = none by simp [encP, not_all HX.out (fits_no (k := 3) (by omega) (byteR_no (z := xc) (fun h => h0 h.1)))])
              go_wp2
              go_ret2
              rw [He.out]
              exact ⟨rfl, Hw2.out⟩
          · have c4 := C0.out.cell (i := 4) rfl
            clear d0 d1 d2 d3
            by_cases h0 : -2147483648 ≤ imm
            · by_cases h1 : imm ≤ 2147483647
              · have hpl : (pre ++ preP ⟨op, xa, xb, xc, imm⟩ 4).length ≤ 8196 := by rw [List.length_append]; simp [preP]; omega
                by_cases hn : imm < 0
                · have hm : imm % 4294967296 = (imm + 4294967296) := by omega
                  have Hn : Hid (([.int .u8 ((imm + 4294967296) / 16777216), .int .u8 ((imm + 4294967296) / 65536 % 256), .int .u8 ((imm + 4294967296) / 256 % 256), .int .u8 ((imm + 4294967296) % 256)] : List Value) = Lib.byteCells [byP (imm % 4294967296 / 16777216), byP (imm % 4294967296 / 65536), byP (imm % 4294967296 / 256), byP (imm % 4294967296)]) := Lib.hid (by
                    rw [hm]
                    simp only [Lib.byteCells, List.map_cons, List.map_nil, u8_val, List.cons.injEq, Value.int.injEq, true_and, and_true]
                    omega)
                  clear hm
                  have Hst : Hid (preP ⟨op, xa, xb, xc, imm⟩ 4 ++ [byP (imm % 4294967296 / 16777216), byP (imm % 4294967296 / 65536), byP (imm % 4294967296 / 256), byP (imm % 4294967296)] = putP ⟨op, xa, xb, xc, imm⟩) := Lib.hid rfl
                  have Hft : Hid (fitsP ⟨op, xa, xb, xc, imm⟩ = true) := Lib.hid (by
                    have g0 := Hbt.out 0 (by omega)
                    have g1 := Hbt.out 1 (by omega)
                    have g2 := Hbt.out 2 (by omega)
                    have g3 := Hbt.out 3 (by omega)
                    simp only [In.get] at g0 g1 g2 g3
                    simp [fitsP, g0, g1, g2, g3, immR, h0, h1])
                  go_wp2_with (at_builtin; refine wpList_append_own_at _ rfl _ _ 22 rfl w.heap.size 5 i0 z0 1 1 Try.underlying22 HI.out HZ0.out HZ1.out HZ2.out HZ3.out (by decide) u4 (pre ++ preP ⟨op, xa, xb, xc, imm⟩ 4).length (Lib.byteCells (pre ++ preP ⟨op, xa, xb, xc, imm⟩ 4)) rfl (World.ownsRow.alloc Ho2.out _) ⟨wr.heap.size, 0, none⟩ 4 4 [.int .u8 ((imm + 4294967296) / 16777216), .int .u8 ((imm + 4294967296) / 65536 % 256), .int .u8 ((imm + 4294967296) / 256 % 256), .int .u8 ((imm + 4294967296) % 256)] rfl rfl (World.news_of_block (t := 5) (fr := (0, 0)) (new_block wr _)) (by simp [Value.oneCell']) (by unfold maxLen; omega) (by omega) (by have := Hw2.out.size; simp; omega) ?_; intro v5 w5 hown5 hgrow5 hnil5 hat5; refine Hid.out ?_)
                  refine Lib.hid ?_
                  have hb5 : Below w.heap.size w w5 := (Hw2.out.alloc Hw2.out.size _).grown hgrow5 (by have := Hw2.out.size; simp; omega) (fun g hg => (owns_lt Ho2.out hg).1)
                  rw [Hn.out, ← Lib.byteCells_append, List.append_assoc, Hst.out] at hown5
                  have hll : (pre ++ preP ⟨op, xa, xb, xc, imm⟩ 4).length + 4 = (pre ++ putP ⟨op, xa, xb, xc, imm⟩).length := by simp only [List.length_append, putP_len]; simp [preP]
                  rw [hll] at hown5
                  have H5 := Lib.hid hown5; clear hown5 hgrow5 hnil5 hat5 hll
                  have B5 := Lib.hid hb5; clear hb5
                  clear c4
                  go_wp2
                  go_roundw
                  case rel => exact ⟨k + 1, by omega, by simp, all_take HX.out Hall.out Hft.out, by rw [flat_take HX.out, Hpre.out]; exact H5.out, B5.out⟩
                  case measure => simp [intOf]; omega
                · have hm : imm % 4294967296 = imm := by omega
                  have Hn : Hid (([.int .u8 (imm / 16777216), .int .u8 (imm / 65536 % 256), .int .u8 (imm / 256 % 256), .int .u8 (imm % 256)] : List Value) = Lib.byteCells [byP (imm % 4294967296 / 16777216), byP (imm % 4294967296 / 65536), byP (imm % 4294967296 / 256), byP (imm % 4294967296)]) := Lib.hid (by
                    rw [hm]
                    simp only [Lib.byteCells, List.map_cons, List.map_nil, u8_val, List.cons.injEq, Value.int.injEq, true_and, and_true]
                    omega)
                  clear hm
                  have Hst : Hid (preP ⟨op, xa, xb, xc, imm⟩ 4 ++ [byP (imm % 4294967296 / 16777216), byP (imm % 4294967296 / 65536), byP (imm % 4294967296 / 256), byP (imm % 4294967296)] = putP ⟨op, xa, xb, xc, imm⟩) := Lib.hid rfl
                  have Hft : Hid (fitsP ⟨op, xa, xb, xc, imm⟩ = true) := Lib.hid (by
                    have g0 := Hbt.out 0 (by omega)
                    have g1 := Hbt.out 1 (by omega)
                    have g2 := Hbt.out 2 (by omega)
                    have g3 := Hbt.out 3 (by omega)
                    simp only [In.get] at g0 g1 g2 g3
                    simp [fitsP, g0, g1, g2, g3, immR, h0, h1])
                  go_wp2_with (at_builtin; refine wpList_append_own_at _ rfl _ _ 22 rfl w.heap.size 5 i0 z0 1 1 Try.underlying22 HI.out HZ0.out HZ1.out HZ2.out HZ3.out (by decide) u4 (pre ++ preP ⟨op, xa, xb, xc, imm⟩ 4).length (Lib.byteCells (pre ++ preP ⟨op, xa, xb, xc, imm⟩ 4)) rfl (World.ownsRow.alloc Ho2.out _) ⟨wr.heap.size, 0, none⟩ 4 4 [.int .u8 (imm / 16777216), .int .u8 (imm / 65536 % 256), .int .u8 (imm / 256 % 256), .int .u8 (imm % 256)] rfl rfl (World.news_of_block (t := 5) (fr := (0, 0)) (new_block wr _)) (by simp [Value.oneCell']) (by unfold maxLen; omega) (by omega) (by have := Hw2.out.size; simp; omega) ?_; intro v5 w5 hown5 hgrow5 hnil5 hat5; refine Hid.out ?_)
                  refine Lib.hid ?_
                  have hb5 : Below w.heap.size w w5 := (Hw2.out.alloc Hw2.out.size _).grown hgrow5 (by have := Hw2.out.size; simp; omega) (fun g hg => (owns_lt Ho2.out hg).1)
                  rw [Hn.out, ← Lib.byteCells_append, List.append_assoc, Hst.out] at hown5
                  have hll : (pre ++ preP ⟨op, xa, xb, xc, imm⟩ 4).length + 4 = (pre ++ putP ⟨op, xa, xb, xc, imm⟩).length := by simp only [List.length_append, putP_len]; simp [preP]
                  rw [hll] at hown5
                  have H5 := Lib.hid hown5; clear hown5 hgrow5 hnil5 hat5 hll
                  have B5 := Lib.hid hb5; clear hb5
                  clear c4
                  go_wp2
                  go_roundw
                  case rel => exact ⟨k + 1, by omega, by simp, all_take HX.out Hall.out Hft.out, by rw [flat_take HX.out, Hpre.out]; exact H5.out, B5.out⟩
                  case measure => simp [intOf]; omega
              · have He := Lib.hid (show encP l = none by simp [encP, not_all HX.out (show fitsP ⟨op, xa, xb, xc, imm⟩ = false by simp [fitsP, immR]; omega)])
                go_wp2
                go_ret2
                rw [He.out]
                exact ⟨rfl, Hw2.out⟩
            · have He := Lib.hid (show encP l = none by simp [encP, not_all HX.out (show fitsP ⟨op, xa, xb, xc, imm⟩ = false by simp [fitsP, immR]; omega)])
              go_wp2
              go_ret2
              rw [He.out]
              exact ⟨rfl, Hw2.out⟩
      · obtain rfl : k = l.length := by omega
        have he : encP l = some (l.flatMap putP) := by
          have := Hall.out; rw [List.take_length] at this
          simp [encP, hlen, this]
        have He := Lib.hid he
        have ho := Hown.out
        rw [List.take_length] at ho
        have Ho := Lib.hid ho; clear ho he Hown Hall
        go_wp2
        go_ret2
        rw [He.out]
        exact ⟨_, rfl, Ho.out, Hbw.out⟩
  · have he : encP l = none := by simp [encP, hlen]
    rw [he]
    have h1 : (1024 : Int) < l.length := by omega
    go_enter Try.func8, Try.ntmps8
    go_wp2
    go_ret2
    exact ⟨rfl, Below.refl _ _⟩

end Go.Proofs.Ytlppmjbfgclkgaa
