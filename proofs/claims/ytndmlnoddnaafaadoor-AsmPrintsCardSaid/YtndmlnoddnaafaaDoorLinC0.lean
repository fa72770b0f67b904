/- The document's Text. Conditions: those stated in each theorem. -/
import Derived.Test.YtndmlnoddnaafaaDoorLinB
import Derived.Test.YtndmlnoddnaafaaDoorIsaS0
import Derived.Deep.CutBlock
import Derived.Deep.RegionHeld3
namespace Go.Proofs.YtndmlnoddnaafaaDoor
open Go.RowKit Go.BigFrame

/-- Is a number's place said, or is it nought? -/
def rawB (is lg A B C I : Bool) (a b c imm : Int) : Bool := !is || !lg || (!A && a != 0) || (!B && b != 0) || (!C && c != 0) || (!I && imm != 0)
def saidIf (A : Bool) (a : Int) : List UInt8 := if A then 32 :: Lib.itoa a else []
def textG (is lg A B C I : Bool) (wd : List UInt8) (op a b c imm : Int) : List UInt8 :=
  if rawB is lg A B C I a b c imm then [114, 97, 119, 32] ++ Lib.itoa op ++ [32] ++ Lib.itoa a ++ [32] ++ Lib.itoa b ++ [32] ++ Lib.itoa c ++ [32] ++ Lib.itoa imm
  else wd ++ saidIf A a ++ saidIf B b ++ saidIf C c ++ saidIf I imm
def shapeC (wd : List UInt8) (A B C I : Bool) : List Value := [.string ⟨wd.toArray⟩, .bool A, .bool B, .bool C, .bool I]

/-- Where Text's boxes lie. -/
def TxS (w : World) (p3 : Nat) (op a b c imm : Int) (A B C I : Bool) (wd : List UInt8) (V : World) : Prop := Holds V w.heap.size 44 [.int .i64 op, .int .i64 a, .int .i64 b, .int .i64 c, .int .i64 imm] ∧ Holds V p3 83 (shapeC wd A B C I) ∧ Below w.heap.size w V
theorem TxS.digits {w V : World} {p3 : Nat} {op a b c imm : Int} {A B C I : Bool} {wd : List UInt8} (n : Int) (hn : I64 n) (h : TxS w p3 op a b c imm A B C I wd V) : Calls Tryd.prog 19 #[.int .i64 n] V fun e w' => e = .returned (.string ⟨(Lib.itoa n).toArray⟩) ∧ TxS w p3 op a b c imm A B C I wd w' :=
  (digits_any n hn V).mono (by
    rintro e w' ⟨he, hb⟩
    exact ⟨he, h.1.below hb, h.2.1.below hb, h.2.2.trans (hb.mono h.2.2.size)⟩)

set_option maxRecDepth 100000 in
set_option maxHeartbeats 4000000 in
theorem rtext_of (op a b c imm : Int) (is lg A B C I : Bool) (wd : List UInt8) (w : World) (hi : In.Ok ⟨op, a, b, c, imm⟩) (hwd : wd.length ≤ 10)
    (hS : ∀ W, Calls Tryd.prog 32 #[.int .i64 op] W fun e w' => e = .returned (.tuple #[.agg #[.string ⟨wd.toArray⟩, .bool A, .bool B, .bool C, .bool I], .bool is]) ∧ Below W.heap.size W w')
    (hL : ∀ W, Calls Tryd.prog 31 #[.agg #[.int .i64 op, .int .i64 a, .int .i64 b, .int .i64 c, .int .i64 imm]] W fun e w' => e = .returned (.bool lg) ∧ Below W.heap.size W w') :
    Calls Tryd.prog 20 #[.agg #[.int .i64 op, .int .i64 a, .int .i64 b, .int .i64 c, .int .i64 imm]] w fun e w' => e = .returned (.string ⟨(textG is lg A B C I wd op a b c imm).toArray⟩) ∧ Below w.heap.size w w' := by
  obtain ⟨ho, ha, hb, hc, hm⟩ := hi
  have Dop := Lib.hid (fun p3 V => TxS.digits (w := w) (V := V) (p3 := p3) (op := op) (a := a) (b := b) (c := c) (imm := imm) (A := A) (B := B) (C := C) (I := I) (wd := wd) op ho)
  have Da := Lib.hid (fun p3 V => TxS.digits (w := w) (V := V) (p3 := p3) (op := op) (a := a) (b := b) (c := c) (imm := imm) (A := A) (B := B) (C := C) (I := I) (wd := wd) a ha)
  have Db := Lib.hid (fun p3 V => TxS.digits (w := w) (V := V) (p3 := p3) (op := op) (a := a) (b := b) (c := c) (imm := imm) (A := A) (B := B) (C := C) (I := I) (wd := wd) b hb)
  have Dc := Lib.hid (fun p3 V => TxS.digits (w := w) (V := V) (p3 := p3) (op := op) (a := a) (b := b) (c := c) (imm := imm) (A := A) (B := B) (C := C) (I := I) (wd := wd) c hc)
  have Di := Lib.hid (fun p3 V => TxS.digits (w := w) (V := V) (p3 := p3) (op := op) (a := a) (b := b) (c := c) (imm := imm) (A := A) (B := B) (C := C) (I := I) (wd := wd) imm hm)
  have lo := itoa21 ho
  have la := itoa21 ha
  have lb := itoa21 hb
  have lc := itoa21 hc
  have lm := itoa21 hm
  have HS := Lib.hid hS
  have HL := Lib.hid hL
  clear hS hL ho ha hb hc hm
  go_enter Tryd.func20, Tryd.ntmps20
  go_upto_region 2 with (go_at_call 32; refine (HS.out _).mono ?_; rintro e w2 ⟨rfl, hb2⟩; refine Hid.out ?_)
  refine Lib.hid ?_
  have b1 : Holds (w2.alloc (.cells #[.string ⟨wd.toArray⟩, .bool A, .bool B, .bool C, .bool I] 83)) w.heap.size 44 [.int .i64 op, .int .i64 a, .int .i64 b, .int .i64 c, .int .i64 imm] := ((Holds.new w 44 [.int .i64 op, .int .i64 a, .int .i64 b, .int .i64 c, .int .i64 imm]).below hb2).alloc _
  have b3 : Holds (w2.alloc (.cells #[.string ⟨wd.toArray⟩, .bool A, .bool B, .bool C, .bool I] 83)) w2.heap.size 83 (shapeC wd A B C I) := Holds.new w2 _ _
  have hb : Below w.heap.size w (w2.alloc (.cells #[.string ⟨wd.toArray⟩, .bool A, .bool B, .bool C, .bool I] 83)) := (((Below.refl _ w).alloc (Nat.le_refl _) _).trans (hb2.mono (by simp))).alloc (by have := hb2.size; simp at this; omega) _
  clear hb2
  go_upto_region 2 with fail
  have HB := Lib.hid hb
  have B1 := Lib.hid b1
  have B3 := Lib.hid b3
  clear hb b1 b3
  generalize w2.alloc (.cells #[.string ⟨wd.toArray⟩, .bool A, .bool B, .bool C, .bool I] 83) = w4 at *
  generalize w2.heap.size = p3 at *
  go_cut [58] from 6 to 117 (fun s wx => s = .bool (rawB is lg A B C I a b c imm) ∧ Holds wx w.heap.size 44 [.int .i64 op, .int .i64 a, .int .i64 b, .int .i64 c, .int .i64 imm] ∧ Holds wx p3 83 (shapeC wd A B C I) ∧ Below w.heap.size w wx)
  case first =>
    have c0 := B1.out.cell (i := 0) rfl
    have c1 := B1.out.cell (i := 1) rfl
    have c2 := B1.out.cell (i := 2) rfl
    have c3 := B1.out.cell (i := 3) rfl
    have c4 := B1.out.cell (i := 4) rfl
    have HLs := Lib.hid (HL.out w4)
    obtain ⟨za, hza⟩ : ∃ z, (a != 0) = z := ⟨_, rfl⟩
    obtain ⟨zb, hzb⟩ : ∃ z, (b != 0) = z := ⟨_, rfl⟩
    obtain ⟨zc, hzc⟩ : ∃ z, (c != 0) = z := ⟨_, rfl⟩
    obtain ⟨zi, hzi⟩ : ∃ z, (imm != 0) = z := ⟨_, rfl⟩
    have hraw : rawB is lg A B C I a b c imm = (!is || !lg || (!A && za) || (!B && zb) || (!C && zc) || (!I && zi)) := by unfold rawB; rw [hza, hzb, hzc, hzi]
    have HRAW := Lib.hid hraw; clear hraw
    cases is
    · have s1 := B3.out.cell (i := 1) rfl
      go_wp2_with fail
      go_meet
      case rel => exact ⟨by rw [HRAW.out]; rfl, B1.out, B3.out, HB.out⟩
    · have hcall : Calls Tryd.prog 31 #[.agg #[.int .i64 op, .int .i64 a, .int .i64 b, .int .i64 c, .int .i64 imm]] w4 fun e w' => e = .returned (.bool lg) ∧ Holds w' w.heap.size 44 [.int .i64 op, .int .i64 a, .int .i64 b, .int .i64 c, .int .i64 imm] ∧ Holds w' p3 83 (shapeC wd A B C I) ∧ Below w.heap.size w w' := HLs.out.mono (by
        rintro e w' ⟨he, hb⟩
        exact ⟨he, B1.out.below hb, B3.out.below hb, HB.out.trans (hb.mono HB.out.size)⟩)
      have HCALL := Lib.hid hcall; clear hcall HLs
      cases lg
      · go_wp2_with (go_at_call 31; refine HCALL.out.mono ?_; rintro e w3 ⟨rfl, h1, h3, hb⟩; have e1 := h1.cell (i := 1) rfl; have e2 := h1.cell (i := 2) rfl; have e3 := h1.cell (i := 3) rfl; have e4 := h1.cell (i := 4) rfl; have f1 := h3.cell (i := 1) rfl; have f2 := h3.cell (i := 2) rfl; have f3 := h3.cell (i := 3) rfl; have f4 := h3.cell (i := 4) rfl; have H1 := Lib.hid h1; have H3 := Lib.hid h3; have HBx := Lib.hid hb; clear h1 h3 hb)
        go_meet
        case rel => exact ⟨by rw [HRAW.out]; rfl, H1.out, H3.out, HBx.out⟩
      · cases A
        · cases za
          · cases B
            · cases zb
              · cases C
                · cases zc
                  · cases I
                    · cases zi
                      · go_wp2_with (go_at_call 31; refine HCALL.out.mono ?_; rintro e w3 ⟨rfl, h1, h3, hb⟩; have e1 := h1.cell (i := 1) rfl; have e2 := h1.cell (i := 2) rfl; have e3 := h1.cell (i := 3) rfl; have e4 := h1.cell (i := 4) rfl; have f1 := h3.cell (i := 1) rfl; have f2 := h3.cell (i := 2) rfl; have f3 := h3.cell (i := 3) rfl; have f4 := h3.cell (i := 4) rfl; have H1 := Lib.hid h1; have H3 := Lib.hid h3; have HBx := Lib.hid hb; clear h1 h3 hb)
                        go_meet
                        case rel => exact ⟨by rw [HRAW.out]; rfl, H1.out, H3.out, HBx.out⟩
                      · go_wp2_with (go_at_call 31; refine HCALL.out.mono ?_; rintro e w3 ⟨rfl, h1, h3, hb⟩; have e1 := h1.cell (i := 1) rfl; have e2 := h1.cell (i := 2) rfl; have e3 := h1.cell (i := 3) rfl; have e4 := h1.cell (i := 4) rfl; have f1 := h3.cell (i := 1) rfl; have f2 := h3.cell (i := 2) rfl; have f3 := h3.cell (i := 3) rfl; have f4 := h3.cell (i := 4) rfl; have H1 := Lib.hid h1; have H3 := Lib.hid h3; have HBx := Lib.hid hb; clear h1 h3 hb)
                        go_meet
                        case rel => exact ⟨by rw [HRAW.out]; rfl, H1.out, H3.out, HBx.out⟩
                    · go_wp2_with (go_at_call 31; refine HCALL.out.mono ?_; rintro e w3 ⟨rfl, h1, h3, hb⟩; have e1 := h1.cell (i := 1) rfl; have e2 := h1.cell (i := 2) rfl; have e3 := h1.cell (i := 3) rfl; have e4 := h1.cell (i := 4) rfl; have f1 := h3.cell (i := 1) rfl; have f2 := h3.cell (i := 2) rfl; have f3 := h3.cell (i := 3) rfl; have f4 := h3.cell (i := 4) rfl; have H1 := Lib.hid h1; have H3 := Lib.hid h3; have HBx := Lib.hid hb; clear h1 h3 hb)
                      go_meet
                      case rel => exact ⟨by rw [HRAW.out]; rfl, H1.out, H3.out, HBx.out⟩
                  · go_wp2_with (go_at_call 31; refine HCALL.out.mono ?_; rintro e w3 ⟨rfl, h1, h3, hb⟩; have e1 := h1.cell (i := 1) rfl; have e2 := h1.cell (i := 2) rfl; have e3 := h1.cell (i := 3) rfl; have e4 := h1.cell (i := 4) rfl; have f1 := h3.cell (i := 1) rfl; have f2 := h3.cell (i := 2) rfl; have f3 := h3.cell (i := 3) rfl; have f4 := h3.cell (i := 4) rfl; have H1 := Lib.hid h1; have H3 := Lib.hid h3; have HBx := Lib.hid hb; clear h1 h3 hb)
                    go_meet
                    case rel => exact ⟨by rw [HRAW.out]; rfl, H1.out, H3.out, HBx.out⟩
                · cases I
                  · cases zi
                    · go_wp2_with (go_at_call 31; refine HCALL.out.mono ?_; rintro e w3 ⟨rfl, h1, h3, hb⟩; have e1 := h1.cell (i := 1) rfl; have e2 := h1.cell (i := 2) rfl; have e3 := h1.cell (i := 3) rfl; have e4 := h1.cell (i := 4) rfl; have f1 := h3.cell (i := 1) rfl; have f2 := h3.cell (i := 2) rfl; have f3 := h3.cell (i := 3) rfl; have f4 := h3.cell (i := 4) rfl; have H1 := Lib.hid h1; have H3 := Lib.hid h3; have HBx := Lib.hid hb; clear h1 h3 hb)
                      go_meet
                      case rel => exact ⟨by rw [HRAW.out]; rfl, H1.out, H3.out, HBx.out⟩
                    · go_wp2_with (go_at_call 31; refine HCALL.out.mono ?_; rintro e w3 ⟨rfl, h1, h3, hb⟩; have e1 := h1.cell (i := 1) rfl; have e2 := h1.cell (i := 2) rfl; have e3 := h1.cell (i := 3) rfl; have e4 := h1.cell (i := 4) rfl; have f1 := h3.cell (i := 1) rfl; have f2 := h3.cell (i := 2) rfl; have f3 := h3.cell (i := 3) rfl; have f4 := h3.cell (i := 4) rfl; have H1 := Lib.hid h1; have H3 := Lib.hid h3; have HBx := Lib.hid hb; clear h1 h3 hb)
                      go_meet
                      case rel => exact ⟨by rw [HRAW.out]; rfl, H1.out, H3.out, HBx.out⟩
                  · go_wp2_with (go_at_call 31; refine HCALL.out.mono ?_; rintro e w3 ⟨rfl, h1, h3, hb⟩; have e1 := h1.cell (i := 1) rfl; have e2 := h1.cell (i := 2) rfl; have e3 := h1.cell (i := 3) rfl; have e4 := h1.cell (i := 4) rfl; have f1 := h3.cell (i := 1) rfl; have f2 := h3.cell (i := 2) rfl; have f3 := h3.cell (i := 3) rfl; have f4 := h3.cell (i := 4) rfl; have H1 := Lib.hid h1; have H3 := Lib.hid h3; have HBx := Lib.hid hb; clear h1 h3 hb)
                    go_meet
                    case rel => exact ⟨by rw [HRAW.out]; rfl, H1.out, H3.out, HBx.out⟩
              · go_wp2_with (go_at_call 31; refine HCALL.out.mono ?_; rintro e w3 ⟨rfl, h1, h3, hb⟩; have e1 := h1.cell (i := 1) rfl; have e2 := h1.cell (i := 2) rfl; have e3 := h1.cell (i := 3) rfl; have e4 := h1.cell (i := 4) rfl; have f1 := h3.cell (i := 1) rfl; have f2 := h3.cell (i := 2) rfl; have f3 := h3.cell (i := 3) rfl; have f4 := h3.cell (i := 4) rfl; have H1 := Lib.hid h1; have H3 := Lib.hid h3; have HBx := Lib.hid hb; clear h1 h3 hb)
                go_meet
                case rel => exact ⟨by rw [HRAW.out]; rfl, H1.out, H3.out, HBx.out⟩
            · cases C
              · cases zc
                · cases I
                  · cases zi
                    · go_wp2_with (go_at_call 31; refine HCALL.out.mono ?_; rintro e w3 ⟨rfl, h1, h3, hb⟩; have e1 := h1.cell (i := 1) rfl; have e2 := h1.cell (i := 2) rfl; have e3 := h1.cell (i := 3) rfl; have e4 := h1.cell (i := 4) rfl; have f1 := h3.cell (i := 1) rfl; have f2 := h3.cell (i := 2) rfl; have f3 := h3.cell (i := 3) rfl; have f4 := h3.cell (i := 4) rfl; have H1 := Lib.hid h1; have H3 := Lib.hid h3; have HBx := Lib.hid hb; clear h1 h3 hb)
                      go_meet
                      case rel => exact ⟨by rw [HRAW.out]; rfl, H1.out, H3.out, HBx.out⟩
                    · go_wp2_with (go_at_call 31; refine HCALL.out.mono ?_; rintro e w3 ⟨rfl, h1, h3, hb⟩; have e1 := h1.cell (i := 1) rfl; have e2 := h1.cell (i := 2) rfl; have e3 := h1.cell (i := 3) rfl; have e4 := h1.cell (i := 4) rfl; have f1 := h3.cell (i := 1) rfl; have f2 := h3.cell (i := 2) rfl; have f3 := h3.cell (i := 3) rfl; have f4 := h3.cell (i := 4) rfl; have H1 := Lib.hid h1; have H3 := Lib.hid h3; have HBx := Lib.hid hb; clear h1 h3 hb)
                      go_meet
                      case rel => exact ⟨by rw [HRAW.out]; rfl, H1.out, H3.out, HBx.out⟩
                  · go_wp2_with (go_at_call 31; refine HCALL.out.mono ?_; rintro e w3 ⟨rfl, h1, h3, hb⟩; have e1 := h1.cell (i := 1) rfl; have e2 := h1.cell (i := 2) rfl; have e3 := h1.cell (i := 3) rfl; have e4 := h1.cell (i := 4) rfl; have f1 := h3.cell (i := 1) rfl; have f2 := h3.cell (i := 2) rfl; have f3 := h3.cell (i := 3) rfl; have f4 := h3.cell (i := 4) rfl; have H1 := Lib.hid h1; have H3 := Lib.hid h3; have HBx := Lib.hid hb; clear h1 h3 hb)
                    go_meet
                    case rel => exact ⟨by rw [HRAW.out]; rfl, H1.out, H3.out, HBx.out⟩
                · go_wp2_with (go_at_call 31; refine HCALL.out.mono ?_; rintro e w3 ⟨rfl, h1, h3, hb⟩; have e1 := h1.cell (i := 1) rfl; have e2 := h1.cell (i := 2) rfl; have e3 := h1.cell (i := 3) rfl; have e4 := h1.cell (i := 4) rfl; have f1 := h3.cell (i := 1) rfl; have f2 := h3.cell (i := 2) rfl; have f3 := h3.cell (i := 3) rfl; have f4 := h3.cell (i := 4) rfl; have H1 := Lib.hid h1; have H3 := Lib.hid h3; have HBx := Lib.hid hb; clear h1 h3 hb)
                  go_meet
                  case rel => exact ⟨by rw [HRAW.out]; rfl, H1.out, H3.out, HBx.out⟩
              · cases I
                · cases zi
                  · go_wp2_with (go_at_call 31; refine HCALL.out.mono ?_; rintro e w3 ⟨rfl, h1, h3, hb⟩; have e1 := h1.cell (i := 1) rfl; have e2 := h1.cell (i := 2) rfl; have e3 := h1.cell (i := 3) rfl; have e4 := h1.cell (i := 4) rfl; have f1 := h3.cell (i := 1) rfl; have f2 := h3.cell (i := 2) rfl; have f3 := h3.cell (i := 3) rfl; have f4 := h3.cell (i := 4) rfl; have H1 := Lib.hid h1; have H3 := Lib.hid h3; have HBx := Lib.hid hb; clear h1 h3 hb)
                    go_meet
                    case rel => exact ⟨by rw [HRAW.out]; rfl, H1.out, H3.out, HBx.out⟩
                  · go_wp2_with (go_at_call 31; refine HCALL.out.mono ?_; rintro e w3 ⟨rfl, h1, h3, hb⟩; have e1 := h1.cell (i := 1) rfl; have e2 := h1.cell (i := 2) rfl; have e3 := h1.cell (i := 3) rfl; have e4 := h1.cell (i := 4) rfl; have f1 := h3.cell (i := 1) rfl; have f2 := h3.cell (i := 2) rfl; have f3 := h3.cell (i := 3) rfl; have f4 := h3.cell (i := 4) rfl; have H1 := Lib.hid h1; have H3 := Lib.hid h3; have HBx := Lib.hid hb; clear h1 h3 hb)
                    go_meet
                    case rel => exact ⟨by rw [HRAW.out]; rfl, H1.out, H3.out, HBx.out⟩
                · go_wp2_with (go_at_call 31; refine HCALL.out.mono ?_; rintro e w3 ⟨rfl, h1, h3, hb⟩; have e1 := h1.cell (i := 1) rfl; have e2 := h1.cell (i := 2) rfl; have e3 := h1.cell (i := 3) rfl; have e4 := h1.cell (i := 4) rfl; have f1 := h3.cell (i := 1) rfl; have f2 := h3.cell (i := 2) rfl; have f3 := h3.cell (i := 3) rfl; have f4 := h3.cell (i := 4) rfl; have H1 := Lib.hid h1; have H3 := Lib.hid h3; have HBx := Lib.hid hb; clear h1 h3 hb)
                  go_meet
                  case rel => exact ⟨by rw [HRAW.out]; rfl, H1.out, H3.out, HBx.out⟩
          · go_wp2_with (go_at_call 31; refine HCALL.out.mono ?_; rintro e w3 ⟨rfl, h1, h3, hb⟩; have e1 := h1.cell (i := 1) rfl; have e2 := h1.cell (i := 2) rfl; have e3 := h1.cell (i := 3) rfl; have e4 := h1.cell (i := 4) rfl; have f1 := h3.cell (i := 1) rfl; have f2 := h3.cell (i := 2) rfl; have f3 := h3.cell (i := 3) rfl; have f4 := h3.cell (i := 4) rfl; have H1 := Lib.hid h1; have H3 := Lib.hid h3; have HBx := Lib.hid hb; clear h1 h3 hb)
            go_meet
            case rel => exact ⟨by rw [HRAW.out]; rfl, H1.out, H3.out, HBx.out⟩
        · cases B
          · cases zb
            · cases C
              · cases zc
                · cases I
                  · cases zi
                    · go_wp2_with (go_at_call 31; refine HCALL.out.mono ?_; rintro e w3 ⟨rfl, h1, h3, hb⟩; have e1 := h1.cell (i := 1) rfl; have e2 := h1.cell (i := 2) rfl; have e3 := h1.cell (i := 3) rfl; have e4 := h1.cell (i := 4) rfl; have f1 := h3.cell (i := 1) rfl; have f2 := h3.cell (i := 2) rfl; have f3 := h3.cell (i := 3) rfl; have f4 := h3.cell (i := 4) rfl; have H1 := Lib.hid h1; have H3 := Lib.hid h3; have HBx := Lib.hid hb; clear h1 h3 hb)
                      go_meet
                      case rel => exact ⟨by rw [HRAW.out]; rfl, H1.out, H3.out, HBx.out⟩
                    · go_wp2_with (go_at_call 31; refine HCALL.out.mono ?_; rintro e w3 ⟨rfl, h1, h3, hb⟩; have e1 := h1.cell (i := 1) rfl; have e2 := h1.cell (i := 2) rfl; have e3 := h1.cell (i := 3) rfl; have e4 := h1.cell (i := 4) rfl; have f1 := h3.cell (i := 1) rfl; have f2 := h3.cell (i := 2) rfl; have f3 := h3.cell (i := 3) rfl; have f4 := h3.cell (i := 4) rfl; have H1 := Lib.hid h1; have H3 := Lib.hid h3; have HBx := Lib.hid hb; clear h1 h3 hb)
                      go_meet
                      case rel => exact ⟨by rw [HRAW.out]; rfl, H1.out, H3.out, HBx.out⟩
                  · go_wp2_with (go_at_call 31; refine HCALL.out.mono ?_; rintro e w3 ⟨rfl, h1, h3, hb⟩; have e1 := h1.cell (i := 1) rfl; have e2 := h1.cell (i := 2) rfl; have e3 := h1.cell (i := 3) rfl; have e4 := h1.cell (i := 4) rfl; have f1 := h3.cell (i := 1) rfl; have f2 := h3.cell (i := 2) rfl; have f3 := h3.cell (i := 3) rfl; have f4 := h3.cell (i := 4) rfl; have H1 := Lib.hid h1; have H3 := Lib.hid h3; have HBx := Lib.hid hb; clear h1 h3 hb)
                    go_meet
                    case rel => exact ⟨by rw [HRAW.out]; rfl, H1.out, H3.out, HBx.out⟩
                · go_wp2_with (go_at_call 31; refine HCALL.out.mono ?_; rintro e w3 ⟨rfl, h1, h3, hb⟩; have e1 := h1.cell (i := 1) rfl; have e2 := h1.cell (i := 2) rfl; have e3 := h1.cell (i := 3) rfl; have e4 := h1.cell (i := 4) rfl; have f1 := h3.cell (i := 1) rfl; have f2 := h3.cell (i := 2) rfl; have f3 := h3.cell (i := 3) rfl; have f4 := h3.cell (i := 4) rfl; have H1 := Lib.hid h1; have H3 := Lib.hid h3; have HBx := Lib.hid hb; clear h1 h3 hb)
                  go_meet
                  case rel => exact ⟨by rw [HRAW.out]; rfl, H1.out, H3.out, HBx.out⟩
              · cases I
                · cases zi
                  · go_wp2_with (go_at_call 31; refine HCALL.out.mono ?_; rintro e w3 ⟨rfl, h1, h3, hb⟩; have e1 := h1.cell (i := 1) rfl; have e2 := h1.cell (i := 2) rfl; have e3 := h1.cell (i := 3) rfl; have e4 := h1.cell (i := 4) rfl; have f1 := h3.cell (i := 1) rfl; have f2 := h3.cell (i := 2) rfl; have f3 := h3.cell (i := 3) rfl; have f4 := h3.cell (i := 4) rfl; have H1 := Lib.hid h1; have H3 := Lib.hid h3; have HBx := Lib.hid hb; clear h1 h3 hb)
                    go_meet
                    case rel => exact ⟨by rw [HRAW.out]; rfl, H1.out, H3.out, HBx.out⟩
                  · go_wp2_with (go_at_call 31; refine HCALL.out.mono ?_; rintro e w3 ⟨rfl, h1, h3, hb⟩; have e1 := h1.cell (i := 1) rfl; have e2 := h1.cell (i := 2) rfl; have e3 := h1.cell (i := 3) rfl; have e4 := h1.cell (i := 4) rfl; have f1 := h3.cell (i := 1) rfl; have f2 := h3.cell (i := 2) rfl; have f3 := h3.cell (i := 3) rfl; have f4 := h3.cell (i := 4) rfl; have H1 := Lib.hid h1; have H3 := Lib.hid h3; have HBx := Lib.hid hb; clear h1 h3 hb)
                    go_meet
                    case rel => exact ⟨by rw [HRAW.out]; rfl, H1.out, H3.out, HBx.out⟩
                · go_wp2_with (go_at_call 31; refine HCALL.out.mono ?_; rintro e w3 ⟨rfl, h1, h3, hb⟩; have e1 := h1.cell (i := 1) rfl; have e2 := h1.cell (i := 2) rfl; have e3 := h1.cell (i := 3) rfl; have e4 := h1.cell (i := 4) rfl; have f1 := h3.cell (i := 1) rfl; have f2 := h3.cell (i := 2) rfl; have f3 := h3.cell (i := 3) rfl; have f4 := h3.cell (i := 4) rfl; have H1 := Lib.hid h1; have H3 := Lib.hid h3; have HBx := Lib.hid hb; clear h1 h3 hb)
                  go_meet
                  case rel => exact ⟨by rw [HRAW.out]; rfl, H1.out, H3.out, HBx.out⟩
            · go_wp2_with (go_at_call 31; refine HCALL.out.mono ?_; rintro e w3 ⟨rfl, h1, h3, hb⟩; have e1 := h1.cell (i := 1) rfl; have e2 := h1.cell (i := 2) rfl; have e3 := h1.cell (i := 3) rfl; have e4 := h1.cell (i := 4) rfl; have f1 := h3.cell (i := 1) rfl; have f2 := h3.cell (i := 2) rfl; have f3 := h3.cell (i := 3) rfl; have f4 := h3.cell (i := 4) rfl; have H1 := Lib.hid h1; have H3 := Lib.hid h3; have HBx := Lib.hid hb; clear h1 h3 hb)
              go_meet
              case rel => exact ⟨by rw [HRAW.out]; rfl, H1.out, H3.out, HBx.out⟩
          · cases C
            · cases zc
              · cases I
                · cases zi
                  · go_wp2_with (go_at_call 31; refine HCALL.out.mono ?_; rintro e w3 ⟨rfl, h1, h3, hb⟩; have e1 := h1.cell (i := 1) rfl; have e2 := h1.cell (i := 2) rfl; have e3 := h1.cell (i := 3) rfl; have e4 := h1.cell (i := 4) rfl; have f1 := h3.cell (i := 1) rfl; have f2 := h3.cell (i := 2) rfl; have f3 := h3.cell (i := 3) rfl; have f4 := h3.cell (i := 4) rfl; have H1 := Lib.hid h1; have H3 := Lib.hid h3; have HBx := Lib.hid hb; clear h1 h3 hb)
                    go_meet
                    case rel => exact ⟨by rw [HRAW.out]; rfl, H1.out, H3.out, HBx.out⟩
                  · go_wp2_with (go_at_call 31; refine HCALL.out.mono ?_; rintro e w3 ⟨rfl, h1, h3, hb⟩; have e1 := h1.cell (i := 1) rfl; have e2 := h1.cell (i := 2) rfl; have e3 := h1.cell (i := 3) rfl; have e4 := h1.cell (i := 4) rfl; have f1 := h3.cell (i := 1) rfl; have f2 := h3.cell (i := 2) rfl; have f3 := h3.cell (i := 3) rfl; have f4 := h3.cell (i := 4) rfl; have H1 := Lib.hid h1; have H3 := Lib.hid h3; have HBx := Lib.hid hb; clear h1 h3 hb)
                    go_meet
                    case rel => exact ⟨by rw [HRAW.out]; rfl, H1.out, H3.out, HBx.out⟩
                · go_wp2_with (go_at_call 31; refine HCALL.out.mono ?_; rintro e w3 ⟨rfl, h1, h3, hb⟩; have e1 := h1.cell (i := 1) rfl; have e2 := h1.cell (i := 2) rfl; have e3 := h1.cell (i := 3) rfl; have e4 := h1.cell (i := 4) rfl; have f1 := h3.cell (i := 1) rfl; have f2 := h3.cell (i := 2) rfl; have f3 := h3.cell (i := 3) rfl; have f4 := h3.cell (i := 4) rfl; have H1 := Lib.hid h1; have H3 := Lib.hid h3; have HBx := Lib.hid hb; clear h1 h3 hb)
                  go_meet
                  case rel => exact ⟨by rw [HRAW.out]; rfl, H1.out, H3.out, HBx.out⟩
              · go_wp2_with (go_at_call 31; refine HCALL.out.mono ?_; rintro e w3 ⟨rfl, h1, h3, hb⟩; have e1 := h1.cell (i := 1) rfl; have e2 := h1.cell (i := 2) rfl; have e3 := h1.cell (i := 3) rfl; have e4 := h1.cell (i := 4) rfl; have f1 := h3.cell (i := 1) rfl; have f2 := h3.cell (i := 2) rfl; have f3 := h3.cell (i := 3) rfl; have f4 := h3.cell (i := 4) rfl; have H1 := Lib.hid h1; have H3 := Lib.hid h3; have HBx := Lib.hid hb; clear h1 h3 hb)
                go_meet
                case rel => exact ⟨by rw [HRAW.out]; rfl, H1.out, H3.out, HBx.out⟩
            · cases I
              · cases zi
                · go_wp2_with (go_at_call 31; refine HCALL.out.mono ?_; rintro e w3 ⟨rfl, h1, h3, hb⟩; have e1 := h1.cell (i := 1) rfl; have e2 := h1.cell (i := 2) rfl; have e3 := h1.cell (i := 3) rfl; have e4 := h1.cell (i := 4) rfl; have f1 := h3.cell (i := 1) rfl; have f2 := h3.cell (i := 2) rfl; have f3 := h3.cell (i := 3) rfl; have f4 := h3.cell (i := 4) rfl; have H1 := Lib.hid h1; have H3 := Lib.hid h3; have HBx := Lib.hid hb; clear h1 h3 hb)
                  go_meet
                  case rel => exact ⟨by rw [HRAW.out]; rfl, H1.out, H3.out, HBx.out⟩
                · go_wp2_with (go_at_call 31; refine HCALL.out.mono ?_; rintro e w3 ⟨rfl, h1, h3, hb⟩; have e1 := h1.cell (i := 1) rfl; have e2 := h1.cell (i := 2) rfl; have e3 := h1.cell (i := 3) rfl; have e4 := h1.cell (i := 4) rfl; have f1 := h3.cell (i := 1) rfl; have f2 := h3.cell (i := 2) rfl; have f3 := h3.cell (i := 3) rfl; have f4 := h3.cell (i := 4) rfl; have H1 := Lib.hid h1; have H3 := Lib.hid h3; have HBx := Lib.hid hb; clear h1 h3 hb)
                  go_meet
                  case rel => exact ⟨by rw [HRAW.out]; rfl, H1.out, H3.out, HBx.out⟩
              · go_wp2_with (go_at_call 31; refine HCALL.out.mono ?_; rintro e w3 ⟨rfl, h1, h3, hb⟩; have e1 := h1.cell (i := 1) rfl; have e2 := h1.cell (i := 2) rfl; have e3 := h1.cell (i := 3) rfl; have e4 := h1.cell (i := 4) rfl; have f1 := h3.cell (i := 1) rfl; have f2 := h3.cell (i := 2) rfl; have f3 := h3.cell (i := 3) rfl; have f4 := h3.cell (i := 4) rfl; have H1 := Lib.hid h1; have H3 := Lib.hid h3; have HBx := Lib.hid hb; clear h1 h3 hb)
                go_meet
                case rel => exact ⟨by rw [HRAW.out]; rfl, H1.out, H3.out, HBx.out⟩
  case rest =>
    obtain ⟨rfl, h1, h3, hb⟩ := hcut
    have ht : TxS w p3 op a b c imm A B C I wd wc := ⟨h1, h3, hb⟩
    have g0 := h1.cell (i := 0) rfl
    have g1 := h1.cell (i := 1) rfl
    have g2 := h1.cell (i := 2) rfl
    have g3 := h1.cell (i := 3) rfl
    have g4 := h1.cell (i := 4) rfl
    have k0 := h3.cell (i := 0) rfl
    have k1 := h3.cell (i := 1) rfl
    have k2 := h3.cell (i := 2) rfl
    have k3 := h3.cell (i := 3) rfl
    have k4 := h3.cell (i := 4) rfl
    have HT := Lib.hid ht
    clear h1 h3 hb ht B1 B3 HB HL HS
    go_step
    obtain ⟨rb, hrb⟩ : ∃ z, rawB is lg A B C I a b c imm = z := ⟨_, rfl⟩
    have htg : textG is lg A B C I wd op a b c imm = if rb then [114, 97, 119, 32] ++ Lib.itoa op ++ [32] ++ Lib.itoa a ++ [32] ++ Lib.itoa b ++ [32] ++ Lib.itoa c ++ [32] ++ Lib.itoa imm else wd ++ saidIf A a ++ saidIf B b ++ saidIf C c ++ saidIf I imm := by unfold textG; rw [hrb]
    have HTG := Lib.hid htg; clear htg
    rw [hrb]
    clear hrb
    cases rb
    · cases A <;> cases B <;> cases C <;> cases I
      all_goals
        go_wp2_with (first | ((go_at_call 19; first | (with_reducible refine (Dop.out _ _ HT.out).mono ?_) | (with_reducible refine (Da.out _ _ HT.out).mono ?_) | (with_reducible refine (Db.out _ _ HT.out).mono ?_) | (with_reducible refine (Dc.out _ _ HT.out).mono ?_) | (with_reducible refine (Di.out _ _ HT.out).mono ?_)); rintro e w5 ⟨rfl, h5⟩; have g1 := h5.1.cell (i := 1) rfl; have g2 := h5.1.cell (i := 2) rfl; have g3 := h5.1.cell (i := 3) rfl; have g4 := h5.1.cell (i := 4) rfl; have k1 := h5.2.1.cell (i := 1) rfl; have k2 := h5.2.1.cell (i := 2) rfl; have k3 := h5.2.1.cell (i := 3) rfl; have k4 := h5.2.1.cell (i := 4) rfl; have HT := Lib.hid h5; clear h5) | (refine wpList_cat rfl _ _ _ _ rfl _ _ rfl rfl (by simp only [List.length_append, List.length_cons, List.length_nil]; omega) (by simp only [List.length_append, List.length_cons, List.length_nil]; omega) ?_))
        go_ret
        exact ⟨by rw [HTG.out]; first | (simp [saidIf]; done) | (simp [saidIf]; apply ByteArray.ext; simp [ByteArray.data_append]), HT.out.2.2⟩
    · go_upto_region 3 with fail
      have HK : Hid (∀ V, TxS w p3 op a b c imm A B C I wd V → V.cell? ⟨w.heap.size, 0, none⟩ = some (.int .i64 op) ∧ V.cell? ⟨w.heap.size, 1, none⟩ = some (.int .i64 a) ∧ V.cell? ⟨w.heap.size, 2, none⟩ = some (.int .i64 b) ∧ V.cell? ⟨w.heap.size, 3, none⟩ = some (.int .i64 c) ∧ V.cell? ⟨w.heap.size, 4, none⟩ = some (.int .i64 imm)) := Lib.hid (fun V hV => ⟨hV.1.cell (i := 0) rfl, hV.1.cell (i := 1) rfl, hV.1.cell (i := 2) rfl, hV.1.cell (i := 3) rfl, hV.1.cell (i := 4) rfl⟩)
      have hD : TxS w p3 op a b c imm A B C I wd wc.drew := ⟨HT.out.1.drew, HT.out.2.1.drew, HT.out.2.2.drew⟩
      clear g0 g1 g2 g3 g4 k0 k1 k2 k3 k4
      obtain ⟨so, hso⟩ : ∃ l, Lib.itoa op = l := ⟨_, rfl⟩
      obtain ⟨sa, hsa⟩ : ∃ l, Lib.itoa a = l := ⟨_, rfl⟩
      obtain ⟨sb, hsb⟩ : ∃ l, Lib.itoa b = l := ⟨_, rfl⟩
      obtain ⟨sc, hsc⟩ : ∃ l, Lib.itoa c = l := ⟨_, rfl⟩
      obtain ⟨si, hsi⟩ : ∃ l, Lib.itoa imm = l := ⟨_, rfl⟩
      rw [hso] at Dop lo HTG
      rw [hsa] at Da la HTG
      rw [hsb] at Db lb HTG
      rw [hsc] at Dc lc HTG
      rw [hsi] at Di lm HTG
      clear hso hsa hsb hsc hsi
      obtain ⟨l1, e1⟩ : ∃ l, [114, 97, 119, 32] ++ so = l := ⟨_, rfl⟩
      have n1 : l1.length ≤ 30 := by rw [← e1]; simp only [List.length_append, List.length_cons, List.length_nil]; omega
      have hc1 : ∀ V : World, (Op.stringOp BinOp.add ⟨#[114, 97, 119, 32]⟩ ⟨so.toArray⟩).run Tryd.prog V = .ok (.string ⟨l1.toArray⟩) V := fun V => by rw [← e1]; exact run_string_add_lists V ([114, 97, 119, 32]) (so) (by (try simp only [List.length_append, List.length_cons, List.length_nil]); omega) (by (try simp only [List.length_append, List.length_cons, List.length_nil]); omega)
      obtain ⟨l2, e2⟩ : ∃ l, l1 ++ [32] = l := ⟨_, rfl⟩
      have n2 : l2.length ≤ 60 := by rw [← e2]; simp only [List.length_append, List.length_cons, List.length_nil]; omega
      have hc2 : ∀ V : World, (Op.stringOp BinOp.add ⟨l1.toArray⟩ ⟨#[32]⟩).run Tryd.prog V = .ok (.string ⟨l2.toArray⟩) V := fun V => by rw [← e2]; exact run_string_add_lists V (l1) ([32]) (by (try simp only [List.length_append, List.length_cons, List.length_nil]); omega) (by (try simp only [List.length_append, List.length_cons, List.length_nil]); omega)
      obtain ⟨l3, e3⟩ : ∃ l, l2 ++ sa = l := ⟨_, rfl⟩
      have n3 : l3.length ≤ 90 := by rw [← e3]; simp only [List.length_append, List.length_cons, List.length_nil]; omega
      have hc3 : ∀ V : World, (Op.stringOp BinOp.add ⟨l2.toArray⟩ ⟨sa.toArray⟩).run Tryd.prog V = .ok (.string ⟨l3.toArray⟩) V := fun V => by rw [← e3]; exact run_string_add_lists V (l2) (sa) (by (try simp only [List.length_append, List.length_cons, List.length_nil]); omega) (by (try simp only [List.length_append, List.length_cons, List.length_nil]); omega)
      obtain ⟨l4, e4⟩ : ∃ l, l3 ++ [32] = l := ⟨_, rfl⟩
      have n4 : l4.length ≤ 120 := by rw [← e4]; simp only [List.length_append, List.length_cons, List.length_nil]; omega
      have hc4 : ∀ V : World, (Op.stringOp BinOp.add ⟨l3.toArray⟩ ⟨#[32]⟩).run Tryd.prog V = .ok (.string ⟨l4.toArray⟩) V := fun V => by rw [← e4]; exact run_string_add_lists V (l3) ([32]) (by (try simp only [List.length_append, List.length_cons, List.length_nil]); omega) (by (try simp only [List.length_append, List.length_cons, List.length_nil]); omega)
      obtain ⟨l5, e5⟩ : ∃ l, l4 ++ sb = l := ⟨_, rfl⟩
      have n5 : l5.length ≤ 150 := by rw [← e5]; simp only [List.length_append, List.length_cons, List.length_nil]; omega
      have hc5 : ∀ V : World, (Op.stringOp BinOp.add ⟨l4.toArray⟩ ⟨sb.toArray⟩).run Tryd.prog V = .ok (.string ⟨l5.toArray⟩) V := fun V => by rw [← e5]; exact run_string_add_lists V (l4) (sb) (by (try simp only [List.length_append, List.length_cons, List.length_nil]); omega) (by (try simp only [List.length_append, List.length_cons, List.length_nil]); omega)
      obtain ⟨l6, e6⟩ : ∃ l, l5 ++ [32] = l := ⟨_, rfl⟩
      have n6 : l6.length ≤ 180 := by rw [← e6]; simp only [List.length_append, List.length_cons, List.length_nil]; omega
      have hc6 : ∀ V : World, (Op.stringOp BinOp.add ⟨l5.toArray⟩ ⟨#[32]⟩).run Tryd.prog V = .ok (.string ⟨l6.toArray⟩) V := fun V => by rw [← e6]; exact run_string_add_lists V (l5) ([32]) (by (try simp only [List.length_append, List.length_cons, List.length_nil]); omega) (by (try simp only [List.length_append, List.length_cons, List.length_nil]); omega)
      obtain ⟨l7, e7⟩ : ∃ l, l6 ++ sc = l := ⟨_, rfl⟩
      have n7 : l7.length ≤ 210 := by rw [← e7]; simp only [List.length_append, List.length_cons, List.length_nil]; omega
      have hc7 : ∀ V : World, (Op.stringOp BinOp.add ⟨l6.toArray⟩ ⟨sc.toArray⟩).run Tryd.prog V = .ok (.string ⟨l7.toArray⟩) V := fun V => by rw [← e7]; exact run_string_add_lists V (l6) (sc) (by (try simp only [List.length_append, List.length_cons, List.length_nil]); omega) (by (try simp only [List.length_append, List.length_cons, List.length_nil]); omega)
      obtain ⟨l8, e8⟩ : ∃ l, l7 ++ [32] = l := ⟨_, rfl⟩
      have n8 : l8.length ≤ 240 := by rw [← e8]; simp only [List.length_append, List.length_cons, List.length_nil]; omega
      have hc8 : ∀ V : World, (Op.stringOp BinOp.add ⟨l7.toArray⟩ ⟨#[32]⟩).run Tryd.prog V = .ok (.string ⟨l8.toArray⟩) V := fun V => by rw [← e8]; exact run_string_add_lists V (l7) ([32]) (by (try simp only [List.length_append, List.length_cons, List.length_nil]); omega) (by (try simp only [List.length_append, List.length_cons, List.length_nil]); omega)
      obtain ⟨l9, e9⟩ : ∃ l, l8 ++ si = l := ⟨_, rfl⟩
      have n9 : l9.length ≤ 270 := by rw [← e9]; simp only [List.length_append, List.length_cons, List.length_nil]; omega
      have hc9 : ∀ V : World, (Op.stringOp BinOp.add ⟨l8.toArray⟩ ⟨si.toArray⟩).run Tryd.prog V = .ok (.string ⟨l9.toArray⟩) V := fun V => by rw [← e9]; exact run_string_add_lists V (l8) (si) (by (try simp only [List.length_append, List.length_cons, List.length_nil]); omega) (by (try simp only [List.length_append, List.length_cons, List.length_nil]); omega)
      rw [if_pos rfl, e1, e2, e3, e4, e5, e6, e7, e8, e9] at HTG
      clear e1 e2 e3 e4 e5 e6 e7 e8 e9 n1 n2 n3 n4 n5 n6 n7 n8 n9 lo la lb lc lm hwd
      go_region_held3 (fun V => V.cell? ⟨w.heap.size, 0, none⟩ = some (.int .i64 op) ∧ V.cell? ⟨w.heap.size, 1, none⟩ = some (.int .i64 a) ∧ V.cell? ⟨w.heap.size, 2, none⟩ = some (.int .i64 b) ∧ V.cell? ⟨w.heap.size, 3, none⟩ = some (.int .i64 c) ∧ V.cell? ⟨w.heap.size, 4, none⟩ = some (.int .i64 imm)) (first | with_reducible exact HK.out _ hD) (first | (go_at_call 19; (first | (with_reducible refine (Dop.out _ _ hD).mono ?_) | (with_reducible refine (Da.out _ _ hD).mono ?_) | (with_reducible refine (Db.out _ _ hD).mono ?_) | (with_reducible refine (Dc.out _ _ hD).mono ?_) | (with_reducible refine (Di.out _ _ hD).mono ?_)); rintro e V ⟨rfl, hD⟩))
      have HT2 := Lib.hid hD
      clear hD
      go_wp2_with fail
      go_ret
      exact ⟨by rw [HTG.out]; rfl, HT2.out.2.2⟩

end Go.Proofs.YtndmlnoddnaafaaDoor
