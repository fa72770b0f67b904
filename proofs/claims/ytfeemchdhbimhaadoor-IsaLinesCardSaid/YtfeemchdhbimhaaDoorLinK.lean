/- IsaLines: the law's walk. Conditions: those stated in each theorem. -/
import Derived.Test.YtfeemchdhbimhaaDoorLinJ
import Derived.Test.YtfeemchdhbimhaaDoorAlx
import Derived.Deep.RegionHeld3
namespace Go.Proofs.YtfeemchdhbimhaaDoor
open Go.RowKit Go.BigFrame

@[local go_sem ↓ high] theorem same_inw (a b c e f : Int) (w : World) : (Op.equalIn 10000 23 (.agg #[.int .i64 a, .int .i64 b, .int .i64 c, .int .i64 e, .int .i64 f]) (.agg #[.int .i64 a, .int .i64 b, .int .i64 c, .int .i64 e, .int .i64 f])).run Tryd.prog w = .ok true w := by
  rw [same_in ⟨a, b, c, e, f⟩ ⟨a, b, c, e, f⟩]; simp
theorem parseVal_form (p : Option In) : ∃ o a b c m e, parseVal p = .tuple #[.agg #[.int .i64 o, .int .i64 a, .int .i64 b, .int .i64 c, .int .i64 m], .int .i64 e] := by
  cases p with
  | none => exact ⟨0, 0, 0, 0, 0, 2, rfl⟩
  | some x => exact ⟨x.op, x.a, x.b, x.c, x.imm, 0, rfl⟩
/-- Where the law's three boxes lie. -/
structure LnS (w V : World) (p5 p7 : Nat) (L X : List Value) : Prop where
  below : Below w.heap.size w V
  bi : Holds V w.heap.size 23 L
  bx : Holds V p5 23 X
  by_ : Holds V p7 23 X
theorem LnS.idle {w V V' : World} {p5 p7 : Nat} {L X : List Value} (h : LnS w V p5 p7 L X) (hb : Below V.heap.size V V') : LnS w V' p5 p7 L X :=
  ⟨h.below.trans (hb.mono h.below.size), h.bi.below hb, h.bx.below hb, h.by_.below hb⟩

set_option maxRecDepth 100000 in
set_option maxHeartbeats 4000000 in
theorem lines_any (i : In) (hi : i.Ok) (s : ByteArray) (w : World) (h : Std w) : Calls Tryd.prog 4 #[i.val, .string s] w fun e w' => e = .returned (.bool true) ∧ Below w.heap.size w w' := by
  obtain ⟨l, rfl⟩ : ∃ l : List UInt8, s = ⟨l.toArray⟩ := ⟨s.data.toList, by simp⟩
  have hsz : ((⟨l.toArray⟩ : ByteArray).size : Int) = l.length := by simp [ByteArray.size]
  have hbel : Below w.heap.size w (w.alloc (.cells i.cells.toArray 23)) := (Below.refl _ w).alloc (Nat.le_refl _) _
  have hbi : Holds (w.alloc (.cells i.cells.toArray 23)) w.heap.size 23 i.cells := Holds.new w _ _
  by_cases hlong : 1000 < l.length
  · have d1 : decide (1000 < (l.length : Int)) = true := decide_eq_true (by omega)
    obtain ⟨op, a, b, c, imm⟩ := i
    go_enter Tryd.func4, Tryd.ntmps4
    unfold In.val
    go_wp2_with fail
    go_ret
    exact ⟨rfl, hbel⟩
  have d1 : decide (1000 < (l.length : Int)) = false := decide_eq_false (by omega)
  have hp1 := fun (W : World) (hb : Below w.heap.size w W) => parse_std l (by omega) (h.below hb)
  have hp2 := fun (W : World) => rparse_any l (by omega) W
  rw [parseR_eq] at hp2
  obtain ⟨xo, xa, xb, xc, xm, xe, hx⟩ := parseVal_form (parseP l)
  rw [hx] at hp1 hp2
  have ht1 := fun (W : World) (hb : Below w.heap.size w W) => text_std i hi (h.below hb)
  have ht2 := fun (W : World) => rtext_any i hi W
  obtain ⟨T, hT⟩ : ∃ T, textP i = T := ⟨_, rfl⟩
  rw [hT] at ht1 ht2
  have P1 := Lib.hid hp1
  have P2 := Lib.hid hp2
  clear hp1 hp2 hx hT
  obtain ⟨op, a, b, c, imm⟩ := i
  simp only [In.val] at ht1 ht2
  simp only [In.cells] at hbel hbi
  have T1 := Lib.hid ht1
  have T2 := Lib.hid ht2
  have HBel := Lib.hid hbel
  have HBi := Lib.hid hbi
  clear ht1 ht2 hbel hbi h hi
  go_enter Tryd.func4, Tryd.ntmps4
  unfold In.val
  go_upto_region 1 with fail
  generalize w.alloc (.cells #[.int .i64 op, .int .i64 a, .int .i64 b, .int .i64 c, .int .i64 imm] 23) = w1 at *
  go_upto_region 4 with (go_at_call 14; refine (P1.out _ HBel.out).mono ?_; rintro e w2 ⟨rfl, hb2⟩; have HBel2 := Lib.hid (HBel.out.trans (hb2.mono HBel.out.size)); have HBi2 := Lib.hid (HBi.out.below hb2); clear hb2)
  have HX3 : Hid (Holds (w2.alloc (.cells #[.int .i64 xo, .int .i64 xa, .int .i64 xb, .int .i64 xc, .int .i64 xm] 23)) w2.heap.size 23 [.int .i64 xo, .int .i64 xa, .int .i64 xb, .int .i64 xc, .int .i64 xm]) := Lib.hid (Holds.new w2 _ _)
  have HBel3 := Lib.hid (HBel2.out.alloc HBel2.out.size (.cells #[.int .i64 xo, .int .i64 xa, .int .i64 xb, .int .i64 xc, .int .i64 xm] 23))
  have HBi3 := Lib.hid (HBi2.out.alloc (.cells #[.int .i64 xo, .int .i64 xa, .int .i64 xb, .int .i64 xc, .int .i64 xm] 23))
  clear HBel HBi HBel2 HBi2
  generalize w2.alloc (.cells #[.int .i64 xo, .int .i64 xa, .int .i64 xb, .int .i64 xc, .int .i64 xm] 23) = w3 at *
  generalize w2.heap.size = p5 at *
  go_upto_region 5 with (go_at_call 15; refine (P2.out _).mono ?_; rintro e w4 ⟨rfl, hb4⟩; have HBel4 := Lib.hid (HBel3.out.trans (hb4.mono HBel3.out.size)); have HBi4 := Lib.hid (HBi3.out.below hb4); have HX4 := Lib.hid (HX3.out.below hb4); clear hb4)
  have hls : LnS w (w4.alloc (.cells #[.int .i64 xo, .int .i64 xa, .int .i64 xb, .int .i64 xc, .int .i64 xm] 23)) p5 w4.heap.size [.int .i64 op, .int .i64 a, .int .i64 b, .int .i64 c, .int .i64 imm] [.int .i64 xo, .int .i64 xa, .int .i64 xb, .int .i64 xc, .int .i64 xm] := ⟨HBel4.out.alloc HBel4.out.size _, HBi4.out.alloc _, HX4.out.alloc _, Holds.new w4 _ _⟩
  have HLs := Lib.hid hls
  clear hls HBel3 HBi3 HX3 HBel4 HBi4 HX4 P1 P2
  generalize w4.alloc (.cells #[.int .i64 xo, .int .i64 xa, .int .i64 xb, .int .i64 xc, .int .i64 xm] 23) = w5 at *
  generalize w4.heap.size = p7 at *
  have HK : Hid (∀ V, LnS w V p5 p7 [.int .i64 op, .int .i64 a, .int .i64 b, .int .i64 c, .int .i64 imm] [.int .i64 xo, .int .i64 xa, .int .i64 xb, .int .i64 xc, .int .i64 xm] → V.cell? ⟨w.heap.size, 0, none⟩ = some (.int .i64 op) ∧ V.cell? ⟨w.heap.size, 1, none⟩ = some (.int .i64 a) ∧ V.cell? ⟨w.heap.size, 2, none⟩ = some (.int .i64 b) ∧ V.cell? ⟨w.heap.size, 3, none⟩ = some (.int .i64 c) ∧ V.cell? ⟨w.heap.size, 4, none⟩ = some (.int .i64 imm) ∧ V.cell? ⟨p5, 0, none⟩ = some (.int .i64 xo) ∧ V.cell? ⟨p5, 1, none⟩ = some (.int .i64 xa) ∧ V.cell? ⟨p5, 2, none⟩ = some (.int .i64 xb) ∧ V.cell? ⟨p5, 3, none⟩ = some (.int .i64 xc) ∧ V.cell? ⟨p5, 4, none⟩ = some (.int .i64 xm) ∧ V.cell? ⟨p7, 0, none⟩ = some (.int .i64 xo) ∧ V.cell? ⟨p7, 1, none⟩ = some (.int .i64 xa) ∧ V.cell? ⟨p7, 2, none⟩ = some (.int .i64 xb) ∧ V.cell? ⟨p7, 3, none⟩ = some (.int .i64 xc) ∧ V.cell? ⟨p7, 4, none⟩ = some (.int .i64 xm)) := Lib.hid (fun V h => ⟨h.bi.cell (i := 0) rfl, h.bi.cell (i := 1) rfl, h.bi.cell (i := 2) rfl, h.bi.cell (i := 3) rfl, h.bi.cell (i := 4) rfl, h.bx.cell (i := 0) rfl, h.bx.cell (i := 1) rfl, h.bx.cell (i := 2) rfl, h.bx.cell (i := 3) rfl, h.bx.cell (i := 4) rfl, h.by_.cell (i := 0) rfl, h.by_.cell (i := 1) rfl, h.by_.cell (i := 2) rfl, h.by_.cell (i := 3) rfl, h.by_.cell (i := 4) rfl⟩)
  have hD : LnS w w5.drew p5 p7 [.int .i64 op, .int .i64 a, .int .i64 b, .int .i64 c, .int .i64 imm] [.int .i64 xo, .int .i64 xa, .int .i64 xb, .int .i64 xc, .int .i64 xm] := HLs.out.idle (below_drew1 (Below.refl _ w5))
  clear HLs
  go_region_held3 (fun V => V.cell? ⟨w.heap.size, 0, none⟩ = some (.int .i64 op) ∧ V.cell? ⟨w.heap.size, 1, none⟩ = some (.int .i64 a) ∧ V.cell? ⟨w.heap.size, 2, none⟩ = some (.int .i64 b) ∧ V.cell? ⟨w.heap.size, 3, none⟩ = some (.int .i64 c) ∧ V.cell? ⟨w.heap.size, 4, none⟩ = some (.int .i64 imm) ∧ V.cell? ⟨p5, 0, none⟩ = some (.int .i64 xo) ∧ V.cell? ⟨p5, 1, none⟩ = some (.int .i64 xa) ∧ V.cell? ⟨p5, 2, none⟩ = some (.int .i64 xb) ∧ V.cell? ⟨p5, 3, none⟩ = some (.int .i64 xc) ∧ V.cell? ⟨p5, 4, none⟩ = some (.int .i64 xm) ∧ V.cell? ⟨p7, 0, none⟩ = some (.int .i64 xo) ∧ V.cell? ⟨p7, 1, none⟩ = some (.int .i64 xa) ∧ V.cell? ⟨p7, 2, none⟩ = some (.int .i64 xb) ∧ V.cell? ⟨p7, 3, none⟩ = some (.int .i64 xc) ∧ V.cell? ⟨p7, 4, none⟩ = some (.int .i64 xm)) (first | with_reducible exact HK.out _ hD) (first | (go_at_call 16; (with_reducible refine (T1.out _ hD.below).mono ?_); rintro e V ⟨rfl, hE⟩; replace hD := hD.idle hE) | (go_at_call 17; (with_reducible refine (T2.out _).mono ?_); rintro e V ⟨rfl, hE⟩; replace hD := hD.idle hE))
  have HD := Lib.hid hD
  clear hD
  go_wp2
  refine bodyPost_ret (results_tmp rfl _ _ _) rfl ⟨?_, HD.out.below⟩
  first | rfl | simp

end Go.Proofs.YtfeemchdhbimhaaDoor
