/- The document's Parse: one operation's try. Conditions: those stated in each theorem. -/
import Derived.Test.YtfeemchdhbimhaaDoorLinG
namespace Go.Proofs.YtfeemchdhbimhaaDoor
open Go.RowKit Go.BigFrame

set_option maxRecDepth 100000 in
set_option maxHeartbeats 8000000 in
theorem parse_op {w W : World} {s w0 : List UInt8} {b2 gw wn wcp r : Nat} {nv : Value} {nl : List Int} (x1 x6 x7 x8 x9 x11 x12 x13 x14 x15 x16 x17 x18 x19 x20 x21 x22 x23 x24 x25 x26 x27 x28 x29 x30 x31 x32 x33 x34 x35 x36 x37 x38 x39 x40 x41 x42 x43 x44 x45 x46 x47 x48 x49 x50 x51 x52 x53 x54 x55 x56 x57 x58 x59 x60 x61 x62 x63 x64 x65 x66 x67 x68 x69 x70 x71 x72 x73 x74 x75 x76 x77 x78 x79 x80 x81 x82 x83 x84 x85 x86 x87 x88 x89 x90 x91 x92 x93 x94 x95 x96 x97 x98 x99 x100 x101 x102 x103 x104 x105 x106 x107 x108 x109 x110 x111 x112 x113 x114 x115 x116 x117 x118 x119 x120 x121 x122 x123 x124 x125 x126 x127 x128 x129 x130 x131 x132 x133 x134 x135 x136 x137 x138 x139 x140 x141 x142 x143 x144 x145 x146 x147 x148 x149 x150 x151 x152 : Value) (Q0 : Exit → Act → World → Prop)
    (h1 : 1 ≤ r) (h2 : r ≤ 18) (hwn : 0 < wn) (hnl : nl.length ≤ 1000) (hn64 : ∀ v ∈ nl, I64 v) (hps : PsS w W b2 gw w0 nv nl)
    (hskip : ∀ (u11 u12 u13 u14 u76 u77 u78 u79 u80 u81 u82 u83 u84 u85 u86 u87 u88 u89 u90 u91 u92 u93 u94 u95 u96 u97 u98 u99 u100 u101 u102 u103 u104 u105 u106 u107 u108 u109 u110 u111 u112 u113 u114 u115 u116 u117 u118 u119 u120 u121 u122 u123 u124 u125 u126 u127 u128 u129 u130 u131 u132 u133 u134 u135 u136 u137 u138 u139 u140 u141 u142 u143 u144 u145 u146 u147 u148 u149 u150 u151 : Value) (w' : World), PsS w w' b2 gw w0 nv nl → opsR s w0 nl r = none → Q0 (.exit 3) ⟨List.toArray (.string ⟨s.toArray⟩ :: x1 :: .pointer (some ⟨b2, 0, none⟩) :: .int .i64 0 :: .slice (some ⟨gw, 0, none⟩) wn wcp :: nv :: x6 :: x7 :: x8 :: x9 :: .int .i64 (r : Int) :: u11 :: u12 :: u13 :: u14 :: x15 :: x16 :: x17 :: x18 :: x19 :: x20 :: x21 :: x22 :: x23 :: x24 :: x25 :: x26 :: x27 :: x28 :: x29 :: x30 :: x31 :: x32 :: x33 :: x34 :: x35 :: x36 :: x37 :: x38 :: x39 :: x40 :: x41 :: x42 :: x43 :: x44 :: x45 :: x46 :: x47 :: x48 :: x49 :: x50 :: x51 :: x52 :: x53 :: x54 :: x55 :: x56 :: x57 :: x58 :: x59 :: x60 :: x61 :: x62 :: x63 :: x64 :: x65 :: x66 :: x67 :: x68 :: x69 :: x70 :: x71 :: x72 :: x73 :: x74 :: x75 :: u76 :: u77 :: u78 :: u79 :: u80 :: u81 :: u82 :: u83 :: u84 :: u85 :: u86 :: u87 :: u88 :: u89 :: u90 :: u91 :: u92 :: u93 :: u94 :: u95 :: u96 :: u97 :: u98 :: u99 :: u100 :: u101 :: u102 :: u103 :: u104 :: u105 :: u106 :: u107 :: u108 :: u109 :: u110 :: u111 :: u112 :: u113 :: u114 :: u115 :: u116 :: u117 :: u118 :: u119 :: u120 :: u121 :: u122 :: u123 :: u124 :: u125 :: u126 :: u127 :: u128 :: u129 :: u130 :: u131 :: u132 :: u133 :: u134 :: u135 :: u136 :: u137 :: u138 :: u139 :: u140 :: u141 :: u142 :: u143 :: u144 :: u145 :: u146 :: u147 :: u148 :: u149 :: u150 :: u151 :: x152 :: []), []⟩ w')
    (hnext : ∀ (u11 u12 u13 u14 u76 u77 u78 u79 u80 u81 u82 u83 u84 u85 u86 u87 u88 u89 u90 u91 u92 u93 u94 u95 u96 u97 u98 u99 u100 u101 u102 u103 u104 u105 u106 u107 u108 u109 u110 u111 u112 u113 u114 u115 u116 u117 u118 u119 u120 u121 u122 u123 u124 u125 u126 u127 u128 u129 u130 u131 u132 u133 u134 u135 u136 u137 u138 u139 u140 u141 u142 u143 u144 u145 u146 u147 u148 u149 u150 u151 : Value) (w' : World), PsS w w' b2 gw w0 nv nl → opsR s w0 nl r = none → Q0 .normal ⟨List.toArray (.string ⟨s.toArray⟩ :: x1 :: .pointer (some ⟨b2, 0, none⟩) :: .int .i64 0 :: .slice (some ⟨gw, 0, none⟩) wn wcp :: nv :: x6 :: x7 :: x8 :: x9 :: .int .i64 (r : Int) :: u11 :: u12 :: u13 :: u14 :: x15 :: x16 :: x17 :: x18 :: x19 :: x20 :: x21 :: x22 :: x23 :: x24 :: x25 :: x26 :: x27 :: x28 :: x29 :: x30 :: x31 :: x32 :: x33 :: x34 :: x35 :: x36 :: x37 :: x38 :: x39 :: x40 :: x41 :: x42 :: x43 :: x44 :: x45 :: x46 :: x47 :: x48 :: x49 :: x50 :: x51 :: x52 :: x53 :: x54 :: x55 :: x56 :: x57 :: x58 :: x59 :: x60 :: x61 :: x62 :: x63 :: x64 :: x65 :: x66 :: x67 :: x68 :: x69 :: x70 :: x71 :: x72 :: x73 :: x74 :: x75 :: u76 :: u77 :: u78 :: u79 :: u80 :: u81 :: u82 :: u83 :: u84 :: u85 :: u86 :: u87 :: u88 :: u89 :: u90 :: u91 :: u92 :: u93 :: u94 :: u95 :: u96 :: u97 :: u98 :: u99 :: u100 :: u101 :: u102 :: u103 :: u104 :: u105 :: u106 :: u107 :: u108 :: u109 :: u110 :: u111 :: u112 :: u113 :: u114 :: u115 :: u116 :: u117 :: u118 :: u119 :: u120 :: u121 :: u122 :: u123 :: u124 :: u125 :: u126 :: u127 :: u128 :: u129 :: u130 :: u131 :: u132 :: u133 :: u134 :: u135 :: u136 :: u137 :: u138 :: u139 :: u140 :: u141 :: u142 :: u143 :: u144 :: u145 :: u146 :: u147 :: u148 :: u149 :: u150 :: u151 :: x152 :: []), []⟩ w')
    (hret : ∀ (a : Act) (w' : World) (x : In), opsR s w0 nl r = some x → a.defers = [] → a.tmps.getD 2 undef = .pointer (some ⟨b2, 0, none⟩) → a.tmps.getD 3 undef = .int .i64 0 → Holds w' b2 23 x.cells → Below w.heap.size w w' → Q0 .ret a w') :
    Code.wp Tryd.prog pOp Q0 ⟨List.toArray (.string ⟨s.toArray⟩ :: x1 :: .pointer (some ⟨b2, 0, none⟩) :: .int .i64 0 :: .slice (some ⟨gw, 0, none⟩) wn wcp :: nv :: x6 :: x7 :: x8 :: x9 :: .int .i64 (r : Int) :: x11 :: x12 :: x13 :: x14 :: x15 :: x16 :: x17 :: x18 :: x19 :: x20 :: x21 :: x22 :: x23 :: x24 :: x25 :: x26 :: x27 :: x28 :: x29 :: x30 :: x31 :: x32 :: x33 :: x34 :: x35 :: x36 :: x37 :: x38 :: x39 :: x40 :: x41 :: x42 :: x43 :: x44 :: x45 :: x46 :: x47 :: x48 :: x49 :: x50 :: x51 :: x52 :: x53 :: x54 :: x55 :: x56 :: x57 :: x58 :: x59 :: x60 :: x61 :: x62 :: x63 :: x64 :: x65 :: x66 :: x67 :: x68 :: x69 :: x70 :: x71 :: x72 :: x73 :: x74 :: x75 :: x76 :: x77 :: x78 :: x79 :: x80 :: x81 :: x82 :: x83 :: x84 :: x85 :: x86 :: x87 :: x88 :: x89 :: x90 :: x91 :: x92 :: x93 :: x94 :: x95 :: x96 :: x97 :: x98 :: x99 :: x100 :: x101 :: x102 :: x103 :: x104 :: x105 :: x106 :: x107 :: x108 :: x109 :: x110 :: x111 :: x112 :: x113 :: x114 :: x115 :: x116 :: x117 :: x118 :: x119 :: x120 :: x121 :: x122 :: x123 :: x124 :: x125 :: x126 :: x127 :: x128 :: x129 :: x130 :: x131 :: x132 :: x133 :: x134 :: x135 :: x136 :: x137 :: x138 :: x139 :: x140 :: x141 :: x142 :: x143 :: x144 :: x145 :: x146 :: x147 :: x148 :: x149 :: x150 :: x151 :: x152 :: []), []⟩ W := by
  obtain ⟨na, ncap, hnv, hna⟩ : ∃ na ncap, nv = .slice na nl.length ncap ∧ (na = none ∨ ∃ gn, na = some ⟨gn, 0, none⟩) := by
    rcases owns_form hps.nums with ⟨h, h0, _⟩ | ⟨gn, c, h, _⟩
    · exact ⟨none, 0, by rw [h, h0], .inl rfl⟩
    · exact ⟨_, c, h, .inr ⟨gn, rfl⟩⟩
  subst hnv
  have HP := Lib.hid hps; clear hps
  have Hskip := Lib.hid hskip; clear hskip
  have Hnext := Lib.hid hnext; clear hnext
  have Hret := Lib.hid hret; clear hret
  have HN := Lib.hid hn64; clear hn64
  have HSh := Lib.hid (shape_any r h1 h2 W)
  have hwl := word5 r
  conv => arg 2; whnf
  go_upto_region 20 with (go_at_call 28; refine HSh.out.mono ?_; rintro e w2 ⟨rfl, hb2⟩; refine Hid.out ?_)
  refine Lib.hid ?_
  unfold shapeV wordS
  have HP2 := Lib.hid ((HP.out.idle hb2).idle ((Below.refl _ w2).alloc (Nat.le_refl _) (.cells #[.string ⟨(word r).toArray⟩, .bool (hasP (mask r) 1), .bool (hasP (mask r) 2), .bool (hasP (mask r) 3), .bool (hasP (mask r) 4)] 58)))
  have hsh : Holds (w2.alloc (.cells #[.string ⟨(word r).toArray⟩, .bool (hasP (mask r) 1), .bool (hasP (mask r) 2), .bool (hasP (mask r) 3), .bool (hasP (mask r) 4)] 58)) w2.heap.size 58 [.string ⟨(word r).toArray⟩, .bool (hasP (mask r) 1), .bool (hasP (mask r) 2), .bool (hasP (mask r) 3), .bool (hasP (mask r) 4)] := Holds.new w2 _ _
  have hp11 : b2 < w2.heap.size ∧ gw < w2.heap.size ∧ ∀ g, (Value.slice na nl.length ncap).ownBlock = some g → g < w2.heap.size := ⟨(HP.out.idle hb2).res.lt, (HP.out.idle hb2).gwl, fun g e => (owns_lt (HP.out.idle hb2).nums e).2⟩
  clear hb2 HP HSh
  go_upto_region 20 with fail
  generalize w2.alloc (.cells #[.string ⟨(word r).toArray⟩, .bool (hasP (mask r) 1), .bool (hasP (mask r) 2), .bool (hasP (mask r) 3), .bool (hasP (mask r) 4)] 58) = w3 at *
  generalize w2.heap.size = p11 at *
  obtain ⟨A, hA⟩ : ∃ A, hasP (mask r) 1 = A := ⟨_, rfl⟩
  obtain ⟨B, hB⟩ : ∃ A, hasP (mask r) 2 = A := ⟨_, rfl⟩
  obtain ⟨C, hC⟩ : ∃ A, hasP (mask r) 3 = A := ⟨_, rfl⟩
  obtain ⟨I, hI⟩ : ∃ A, hasP (mask r) 4 = A := ⟨_, rfl⟩
  rw [hA, hB, hC, hI] at hsh
  have hcand : candR nl r = (fieldS I 4 nl (fieldS C 3 nl (fieldS B 2 nl (fieldS A 1 nl (⟨r, 0, 0, 0, 0⟩, 0))))).1 := by
    unfold candR
    rw [fill_fields _ _ (has_no0 h1), hA, hB, hC, hI]
  have HC := Lib.hid hcand
  have HA := Lib.hid (show hasP (mask r) 1 = A from hA)
  clear hcand hA hB hC hI
  have HSH := Lib.hid hsh; clear hsh
  have s0 := HSH.out.cell (i := 0) rfl
  have g0 := HP2.out.word
  have hgl := HP2.out.gwl
  have hpl := HSH.out.lt
  have hwn' : (0 : Int) ≤ 0 ∧ (0 : Int) < (wn : Int) := by omega
  go_region
  have HP3 := Lib.hid (HP2.out.idle (below_drew1 (Below.refl _ w3)))
  have HSH3 : Hid (Holds w3.drew p11 58 [.string ⟨(word r).toArray⟩, .bool A, .bool B, .bool C, .bool I]) := Lib.hid HSH.out.drew
  clear HP2 HSH s0 g0 hgl hpl
  generalize w3.drew = w4 at *
  by_cases hw : word r ≠ w0
  · have hcmp : (word r == w0) = false := by simpa using hw
    rw [hcmp, Bool.not_false]
    go_wp2_with fail
    exact Hskip.out _ _ _ _ _ _ _ _ _ _ _ _ _ _ _ _ _ _ _ _ _ _ _ _ _ _ _ _ _ _ _ _ _ _ _ _ _ _ _ _ _ _ _ _ _ _ _ _ _ _ _ _ _ _ _ _ _ _ _ _ _ _ _ _ _ _ _ _ _ _ _ _ _ _ _ _ _ _ _ _ _ HP3.out (by unfold opsR; rw [if_neg (fun h => hw h.1)])
  replace hw := Decidable.not_not.1 hw
  have hcmp : (word r == w0) = true := by simpa using hw
  have HW := Lib.hid hw; clear hw
  rw [hcmp, Bool.not_true]
  clear hcmp
  go_upto_region 23 with fail
  have H13 : Hid (Holds (w4.alloc (.cells #[.int .i64 r, .int .i64 0, .int .i64 0, .int .i64 0, .int .i64 0] 23)) w4.heap.size 23 (In.mk r 0 0 0 0).cells) := Lib.hid (Holds.new w4 _ _)
  have HP4 := Lib.hid (HP3.out.idle ((Below.refl _ w4).alloc (Nat.le_refl _) (.cells #[.int .i64 r, .int .i64 0, .int .i64 0, .int .i64 0, .int .i64 0] 23)))
  have HSH4 := Lib.hid (HSH3.out.alloc (.cells #[.int .i64 r, .int .i64 0, .int .i64 0, .int .i64 0, .int .i64 0] 23))
  have hp13 : b2 < w4.heap.size ∧ gw < w4.heap.size ∧ (∀ g, (Value.slice na nl.length ncap).ownBlock = some g → g < w4.heap.size) ∧ p11 < w4.heap.size := ⟨HP3.out.res.lt, HP3.out.gwl, fun g e => (owns_lt HP3.out.nums e).2, HSH3.out.lt⟩
  clear HP3 HSH3
  generalize w4.alloc (.cells #[.int .i64 r, .int .i64 0, .int .i64 0, .int .i64 0, .int .i64 0] 23) = wc at *
  generalize w4.heap.size = p13 at *
  obtain ⟨q1, q2, q3, q4⟩ := hp13
  have HQ3 := Lib.hid q3; clear q3
  have hx0 : I64 (r : Int) := ⟨by omega, by omega⟩
  obtain ⟨x, hxe⟩ : ∃ x : In, (⟨r, 0, 0, 0, 0⟩ : In) = x := ⟨_, rfl⟩
  have hxok : x.Ok := by rw [← hxe]; exact ⟨hx0, i64_0, i64_0, i64_0, i64_0⟩
  rw [hxe] at H13 HC
  have HOK := Lib.hid hxok
  clear hxok hx0 hxe
  go_cut [96] from 76 to 151 (fun c wx => c = .bool (A && decide (0 < nl.length)) ∧ wx = wc)
  case first =>
    have sk := HSH4.out.cell (i := 1) rfl
    cases A
    · go_wp2_with fail
      go_meet
      case rel => exact ⟨rfl, rfl⟩
    · by_cases hlt : 0 < nl.length
      · have dt : decide ((0 : Int) < (nl.length : Int)) = true := decide_eq_true (by omega)
        go_wp2_with fail
        go_meet
        case rel => exact ⟨by rw [decide_eq_true hlt]; rfl, rfl⟩
      · have dt : decide ((0 : Int) < (nl.length : Int)) = false := decide_eq_false (by omega)
        go_wp2_with fail
        go_meet
        case rel => exact ⟨by rw [decide_eq_false hlt]; rfl, rfl⟩
  case rest =>
  obtain ⟨rfl, rfl⟩ := hcut
  go_upto_if 96 with fail
  go_cut [14] from 76 to 151 (fun a wx => a = .int .i64 ((fieldS A 1 nl (x, 0)).2 : Int) ∧ PsS w wx b2 gw w0 (.slice na nl.length ncap) nl ∧ Holds wx p11 58 [.string ⟨(word r).toArray⟩, .bool A, .bool B, .bool C, .bool I] ∧ Holds wx p13 23 (fieldS A 1 nl (x, 0)).1.cells)
  case first =>
    by_cases hc : (A && decide (0 < nl.length)) = true
    · have hf : fieldS A 1 nl (x, 0) = (x.set 1 (nl.getD 0 0), 0 + 1) := by unfold fieldS; rw [if_pos hc]
      have hlt : 0 < nl.length := by simp only [Bool.and_eq_true, decide_eq_true_eq] at hc; exact hc.2
      obtain ⟨gn, rfl⟩ : ∃ gn, na = some ⟨gn, 0, none⟩ := by
        rcases hna with rfl | h
        · have := HP4.out.nums.1
          rcases owns_form HP4.out.nums with ⟨_, h0, _⟩ | ⟨gn, c, h, _⟩
          · omega
          · cases h
        · exact h
      obtain ⟨v, hv⟩ : ∃ v, nl.getD 0 0 = v := ⟨_, rfl⟩
      have hcell := (owns_cell HP4.out.nums (g := gn) rfl (j := 0) (u := .int .i64 v) (by rw [List.getElem?_map, ← hv, List.getD_eq_getElem?_getD, List.getElem?_eq_getElem hlt]; rfl)).1
      have hti : (0 : Int) ≤ (0 : Int) ∧ (0 : Int) < (nl.length : Int) := by omega
      have htw : IntKind.i64.wrap ((0 : Int) + 1) = (0 + 1 : Nat) := by rw [IntKind.wrap_i64]; omega
      have hfr := H13.out.free 1
      have hld := H13.out.lt
      have hck := H13.out.cell (In.cell_get x (k := 1) (by decide))
      have HS4 := Lib.hid (HP4.out.set 1 (.int .i64 v) q1 q2 HQ3.out)
      have HF := Lib.hid hf
      rw [hc]
      clear hf hc
      go_wp2_with fail
      go_meet
      case rel => exact ⟨by first | (rw [HF.out]; done) | (rw [HF.out]; first | rfl | simp), HS4.out, HSH4.out.other (p := ⟨p13, 1, none⟩) (by show p11 ≠ p13; omega) _, by rw [HF.out, In.cells_set _ (by decide), hv]; exact H13.out.set 1 _⟩
    · have hf : fieldS A 1 nl (x, 0) = (x, 0) := by unfold fieldS; rw [if_neg hc]
      have hc2 : (A && decide (0 < nl.length)) = false := by simpa using hc
      rw [hc2]
      have HF := Lib.hid hf
      clear hf hc hc2
      go_wp2_with fail
      go_meet
      case rel => exact ⟨by first | (rw [HF.out]; done) | (rw [HF.out]; first | rfl | simp), HP4.out, HSH4.out, by rw [HF.out]; exact H13.out⟩
  case rest =>
  obtain ⟨rfl, hp, hs4, h13⟩ := hcut
  clear HP4 HSH4 H13
  have HP4 := Lib.hid hp; clear hp
  have HSH4 := Lib.hid hs4; clear hs4
  obtain ⟨⟨y1, t1⟩, hy⟩ : ∃ p, fieldS A 1 nl (x, 0) = p := ⟨_, rfl⟩
  have hok1 : y1.Ok ∧ t1 ≤ 1 := by
    unfold fieldS at hy
    split at hy
    · cases hy; exact ⟨set_ok HOK.out _ (getD_range HN.out _), by omega⟩
    · cases hy; exact ⟨HOK.out, by omega⟩
  rw [hy] at h13 HC ⊢
  clear HOK hy
  have HOK := Lib.hid hok1.1
  have ht1 := hok1.2
  clear hok1
  have H13 := Lib.hid h13; clear h13
  go_upto_region 26 with fail
  go_cut [111] from 76 to 151 (fun c wx => c = .bool (B && decide (t1 < nl.length)) ∧ wx = wc)
  case first =>
    have sk := HSH4.out.cell (i := 2) rfl
    cases B
    · go_wp2_with fail
      go_meet
      case rel => exact ⟨rfl, rfl⟩
    · by_cases hlt : t1 < nl.length
      · have dt : decide ((t1 : Int) < (nl.length : Int)) = true := decide_eq_true (by omega)
        go_wp2_with fail
        go_meet
        case rel => exact ⟨by rw [decide_eq_true hlt]; rfl, rfl⟩
      · have dt : decide ((t1 : Int) < (nl.length : Int)) = false := decide_eq_false (by omega)
        go_wp2_with fail
        go_meet
        case rel => exact ⟨by rw [decide_eq_false hlt]; rfl, rfl⟩
  case rest =>
  obtain ⟨rfl, rfl⟩ := hcut
  go_upto_if 111 with fail
  go_cut [14] from 76 to 151 (fun a wx => a = .int .i64 ((fieldS B 2 nl (y1, t1)).2 : Int) ∧ PsS w wx b2 gw w0 (.slice na nl.length ncap) nl ∧ Holds wx p11 58 [.string ⟨(word r).toArray⟩, .bool A, .bool B, .bool C, .bool I] ∧ Holds wx p13 23 (fieldS B 2 nl (y1, t1)).1.cells)
  case first =>
    by_cases hc : (B && decide (t1 < nl.length)) = true
    · have hf : fieldS B 2 nl (y1, t1) = (y1.set 2 (nl.getD t1 0), t1 + 1) := by unfold fieldS; rw [if_pos hc]
      have hlt : t1 < nl.length := by simp only [Bool.and_eq_true, decide_eq_true_eq] at hc; exact hc.2
      obtain ⟨gn, rfl⟩ : ∃ gn, na = some ⟨gn, 0, none⟩ := by
        rcases hna with rfl | h
        · have := HP4.out.nums.1
          rcases owns_form HP4.out.nums with ⟨_, h0, _⟩ | ⟨gn, c, h, _⟩
          · omega
          · cases h
        · exact h
      obtain ⟨v, hv⟩ : ∃ v, nl.getD t1 0 = v := ⟨_, rfl⟩
      have hcell := (owns_cell HP4.out.nums (g := gn) rfl (j := t1) (u := .int .i64 v) (by rw [List.getElem?_map, ← hv, List.getD_eq_getElem?_getD, List.getElem?_eq_getElem hlt]; rfl)).1
      have hti : (0 : Int) ≤ (t1 : Int) ∧ (t1 : Int) < (nl.length : Int) := by omega
      have htw : IntKind.i64.wrap ((t1 : Int) + 1) = (t1 + 1 : Nat) := by rw [IntKind.wrap_i64]; omega
      have hfr := H13.out.free 2
      have hld := H13.out.lt
      have hck := H13.out.cell (In.cell_get y1 (k := 2) (by decide))
      have HS4 := Lib.hid (HP4.out.set 2 (.int .i64 v) q1 q2 HQ3.out)
      have HF := Lib.hid hf
      rw [hc]
      clear hf hc
      go_wp2_with fail
      go_meet
      case rel => exact ⟨by first | (rw [HF.out]; done) | (rw [HF.out]; first | rfl | simp), HS4.out, HSH4.out.other (p := ⟨p13, 2, none⟩) (by show p11 ≠ p13; omega) _, by rw [HF.out, In.cells_set _ (by decide), hv]; exact H13.out.set 2 _⟩
    · have hf : fieldS B 2 nl (y1, t1) = (y1, t1) := by unfold fieldS; rw [if_neg hc]
      have hc2 : (B && decide (t1 < nl.length)) = false := by simpa using hc
      rw [hc2]
      have HF := Lib.hid hf
      clear hf hc hc2
      go_wp2_with fail
      go_meet
      case rel => exact ⟨by first | (rw [HF.out]; done) | (rw [HF.out]; first | rfl | simp), HP4.out, HSH4.out, by rw [HF.out]; exact H13.out⟩
  case rest =>
  obtain ⟨rfl, hp, hs4, h13⟩ := hcut
  clear HP4 HSH4 H13
  have HP4 := Lib.hid hp; clear hp
  have HSH4 := Lib.hid hs4; clear hs4
  obtain ⟨⟨y2, t2⟩, hy⟩ : ∃ p, fieldS B 2 nl (y1, t1) = p := ⟨_, rfl⟩
  have hok2 : y2.Ok ∧ t2 ≤ 2 := by
    unfold fieldS at hy
    split at hy
    · cases hy; exact ⟨set_ok HOK.out _ (getD_range HN.out _), by omega⟩
    · cases hy; exact ⟨HOK.out, by omega⟩
  rw [hy] at h13 HC ⊢
  clear HOK hy
  have HOK := Lib.hid hok2.1
  have ht2 := hok2.2
  clear hok2
  have H13 := Lib.hid h13; clear h13
  go_upto_region 29 with fail
  go_cut [126] from 76 to 151 (fun c wx => c = .bool (C && decide (t2 < nl.length)) ∧ wx = wc)
  case first =>
    have sk := HSH4.out.cell (i := 3) rfl
    cases C
    · go_wp2_with fail
      go_meet
      case rel => exact ⟨rfl, rfl⟩
    · by_cases hlt : t2 < nl.length
      · have dt : decide ((t2 : Int) < (nl.length : Int)) = true := decide_eq_true (by omega)
        go_wp2_with fail
        go_meet
        case rel => exact ⟨by rw [decide_eq_true hlt]; rfl, rfl⟩
      · have dt : decide ((t2 : Int) < (nl.length : Int)) = false := decide_eq_false (by omega)
        go_wp2_with fail
        go_meet
        case rel => exact ⟨by rw [decide_eq_false hlt]; rfl, rfl⟩
  case rest =>
  obtain ⟨rfl, rfl⟩ := hcut
  go_upto_if 126 with fail
  go_cut [14] from 76 to 151 (fun a wx => a = .int .i64 ((fieldS C 3 nl (y2, t2)).2 : Int) ∧ PsS w wx b2 gw w0 (.slice na nl.length ncap) nl ∧ Holds wx p11 58 [.string ⟨(word r).toArray⟩, .bool A, .bool B, .bool C, .bool I] ∧ Holds wx p13 23 (fieldS C 3 nl (y2, t2)).1.cells)
  case first =>
    by_cases hc : (C && decide (t2 < nl.length)) = true
    · have hf : fieldS C 3 nl (y2, t2) = (y2.set 3 (nl.getD t2 0), t2 + 1) := by unfold fieldS; rw [if_pos hc]
      have hlt : t2 < nl.length := by simp only [Bool.and_eq_true, decide_eq_true_eq] at hc; exact hc.2
      obtain ⟨gn, rfl⟩ : ∃ gn, na = some ⟨gn, 0, none⟩ := by
        rcases hna with rfl | h
        · have := HP4.out.nums.1
          rcases owns_form HP4.out.nums with ⟨_, h0, _⟩ | ⟨gn, c, h, _⟩
          · omega
          · cases h
        · exact h
      obtain ⟨v, hv⟩ : ∃ v, nl.getD t2 0 = v := ⟨_, rfl⟩
      have hcell := (owns_cell HP4.out.nums (g := gn) rfl (j := t2) (u := .int .i64 v) (by rw [List.getElem?_map, ← hv, List.getD_eq_getElem?_getD, List.getElem?_eq_getElem hlt]; rfl)).1
      have hti : (0 : Int) ≤ (t2 : Int) ∧ (t2 : Int) < (nl.length : Int) := by omega
      have htw : IntKind.i64.wrap ((t2 : Int) + 1) = (t2 + 1 : Nat) := by rw [IntKind.wrap_i64]; omega
      have hfr := H13.out.free 3
      have hld := H13.out.lt
      have hck := H13.out.cell (In.cell_get y2 (k := 3) (by decide))
      have HS4 := Lib.hid (HP4.out.set 3 (.int .i64 v) q1 q2 HQ3.out)
      have HF := Lib.hid hf
      rw [hc]
      clear hf hc
      go_wp2_with fail
      go_meet
      case rel => exact ⟨by first | (rw [HF.out]; done) | (rw [HF.out]; first | rfl | simp), HS4.out, HSH4.out.other (p := ⟨p13, 3, none⟩) (by show p11 ≠ p13; omega) _, by rw [HF.out, In.cells_set _ (by decide), hv]; exact H13.out.set 3 _⟩
    · have hf : fieldS C 3 nl (y2, t2) = (y2, t2) := by unfold fieldS; rw [if_neg hc]
      have hc2 : (C && decide (t2 < nl.length)) = false := by simpa using hc
      rw [hc2]
      have HF := Lib.hid hf
      clear hf hc hc2
      go_wp2_with fail
      go_meet
      case rel => exact ⟨by first | (rw [HF.out]; done) | (rw [HF.out]; first | rfl | simp), HP4.out, HSH4.out, by rw [HF.out]; exact H13.out⟩
  case rest =>
  obtain ⟨rfl, hp, hs4, h13⟩ := hcut
  clear HP4 HSH4 H13
  have HP4 := Lib.hid hp; clear hp
  have HSH4 := Lib.hid hs4; clear hs4
  obtain ⟨⟨y3, t3⟩, hy⟩ : ∃ p, fieldS C 3 nl (y2, t2) = p := ⟨_, rfl⟩
  have hok3 : y3.Ok ∧ t3 ≤ 3 := by
    unfold fieldS at hy
    split at hy
    · cases hy; exact ⟨set_ok HOK.out _ (getD_range HN.out _), by omega⟩
    · cases hy; exact ⟨HOK.out, by omega⟩
  rw [hy] at h13 HC ⊢
  clear HOK hy
  have HOK := Lib.hid hok3.1
  have ht3 := hok3.2
  clear hok3
  have H13 := Lib.hid h13; clear h13
  go_upto_region 32 with fail
  go_cut [141] from 76 to 151 (fun c wx => c = .bool (I && decide (t3 < nl.length)) ∧ wx = wc)
  case first =>
    have sk := HSH4.out.cell (i := 4) rfl
    cases I
    · go_wp2_with fail
      go_meet
      case rel => exact ⟨rfl, rfl⟩
    · by_cases hlt : t3 < nl.length
      · have dt : decide ((t3 : Int) < (nl.length : Int)) = true := decide_eq_true (by omega)
        go_wp2_with fail
        go_meet
        case rel => exact ⟨by rw [decide_eq_true hlt]; rfl, rfl⟩
      · have dt : decide ((t3 : Int) < (nl.length : Int)) = false := decide_eq_false (by omega)
        go_wp2_with fail
        go_meet
        case rel => exact ⟨by rw [decide_eq_false hlt]; rfl, rfl⟩
  case rest =>
  obtain ⟨rfl, rfl⟩ := hcut
  go_upto_if 141 with fail
  go_cut [14] from 76 to 151 (fun a wx => a = .int .i64 (t3 : Int) ∧ PsS w wx b2 gw w0 (.slice na nl.length ncap) nl ∧ Holds wx p11 58 [.string ⟨(word r).toArray⟩, .bool A, .bool B, .bool C, .bool I] ∧ Holds wx p13 23 (fieldS I 4 nl (y3, t3)).1.cells)
  case first =>
    by_cases hc : (I && decide (t3 < nl.length)) = true
    · have hf : fieldS I 4 nl (y3, t3) = (y3.set 4 (nl.getD t3 0), t3 + 1) := by unfold fieldS; rw [if_pos hc]
      have hlt : t3 < nl.length := by simp only [Bool.and_eq_true, decide_eq_true_eq] at hc; exact hc.2
      obtain ⟨gn, rfl⟩ : ∃ gn, na = some ⟨gn, 0, none⟩ := by
        rcases hna with rfl | h
        · have := HP4.out.nums.1
          rcases owns_form HP4.out.nums with ⟨_, h0, _⟩ | ⟨gn, c, h, _⟩
          · omega
          · cases h
        · exact h
      obtain ⟨v, hv⟩ : ∃ v, nl.getD t3 0 = v := ⟨_, rfl⟩
      have hcell := (owns_cell HP4.out.nums (g := gn) rfl (j := t3) (u := .int .i64 v) (by rw [List.getElem?_map, ← hv, List.getD_eq_getElem?_getD, List.getElem?_eq_getElem hlt]; rfl)).1
      have hti : (0 : Int) ≤ (t3 : Int) ∧ (t3 : Int) < (nl.length : Int) := by omega
      have htw : IntKind.i64.wrap ((t3 : Int) + 1) = (t3 + 1 : Nat) := by rw [IntKind.wrap_i64]; omega
      have hfr := H13.out.free 4
      have hld := H13.out.lt
      have hck := H13.out.cell (In.cell_get y3 (k := 4) (by decide))
      have HS4 := Lib.hid (HP4.out.set 4 (.int .i64 v) q1 q2 HQ3.out)
      have HF := Lib.hid hf
      rw [hc]
      clear hf hc
      go_wp2_with fail
      go_meet
      case rel => exact ⟨rfl, HS4.out, HSH4.out.other (p := ⟨p13, 4, none⟩) (by show p11 ≠ p13; omega) _, by rw [HF.out, In.cells_set _ (by decide), hv]; exact H13.out.set 4 _⟩
    · have hf : fieldS I 4 nl (y3, t3) = (y3, t3) := by unfold fieldS; rw [if_neg hc]
      have hc2 : (I && decide (t3 < nl.length)) = false := by simpa using hc
      rw [hc2]
      have HF := Lib.hid hf
      clear hf hc hc2
      go_wp2_with fail
      go_meet
      case rel => exact ⟨rfl, HP4.out, HSH4.out, by rw [HF.out]; exact H13.out⟩
  case rest =>
  obtain ⟨rfl, hp, hs4, h13⟩ := hcut
  clear HP4 HSH4 H13
  have HP4 := Lib.hid hp; clear hp
  have HSH4 := Lib.hid hs4; clear hs4
  obtain ⟨⟨y4, t4⟩, hy⟩ : ∃ p, fieldS I 4 nl (y3, t3) = p := ⟨_, rfl⟩
  have hok4 : y4.Ok ∧ t4 ≤ 4 := by
    unfold fieldS at hy
    split at hy
    · cases hy; exact ⟨set_ok HOK.out _ (getD_range HN.out _), by omega⟩
    · cases hy; exact ⟨HOK.out, by omega⟩
  rw [hy] at h13 HC
  clear HOK hy
  have HOK := Lib.hid hok4.1
  have ht4 := hok4.2
  clear hok4
  have H13 := Lib.hid h13; clear h13
  go_step
  refine parse_cmp _ _ _ _ _ _ _ _ _ _ _ _ _ _ _ _ _ _ _ _ _ _ _ _ _ _ _ _ _ _ _ _ _ _ _ _ _ _ _ _ _ _ _ _ _ _ _ _ _ _ _ _ _ _ _ _ _ _ _ _ _ _ _ _ _ _ _ _ _ _ _ _ _ _ _ _ _ _ _ _ _ _ _ _ _ _ _ _ _ _ _ _ _ _ _ _ _ _ _ _ _ _ _ _ _ _ _ _ _ _ _ _ _ _ _ _ _ _ _ _ _ _ _ _ _ _ _ _ _ _ _ _ _ _ _ _ _ _ _ _ _ _ _ _ _ _ _ HOK.out HP4.out H13.out ?_ ?_
  · intro u147 u148 u149 u150 u151 w' hp hne
    have hcc : candR nl r = y4 := HC.out
    exact Hnext.out _ _ _ _ _ _ _ _ _ _ _ _ _ _ _ _ _ _ _ _ _ _ _ _ _ _ _ _ _ _ _ _ _ _ _ _ _ _ _ _ _ _ _ _ _ _ _ _ _ _ _ _ _ _ _ _ _ _ _ _ _ _ _ _ _ _ _ _ _ _ _ _ _ _ _ _ _ _ _ _ w' hp (by unfold opsR; rw [if_neg (fun h => hne (by rw [← hcc]; exact h.2))])
  · intro a w' hT k1 k2 k3 k4 k5
    have hcc : candR nl r = y4 := HC.out
    exact Hret.out a w' y4 (by unfold opsR; rw [hcc, if_pos ⟨HW.out, hT⟩]) k1 k2 k3 k4 k5

end Go.Proofs.YtfeemchdhbimhaaDoor
