/- The document's Parse: all operations' tries. Conditions: those stated in each theorem. -/
import Derived.Test.YtfeemchdhbimhaaDoorLinH
import Derived.Deep.CutBlock
namespace Go.Proofs.YtfeemchdhbimhaaDoor
open Go.RowKit Go.BigFrame

set_option maxRecDepth 100000 in
set_option maxHeartbeats 8000000 in
theorem parse_loop {w W : World} {s w0 : List UInt8} {b2 gw wn wcp : Nat} {nv : Value} {nl : List Int} (x1 x6 x7 x8 x9 x10 x11 x12 x13 x14 x15 x16 x17 x18 x19 x20 x21 x22 x23 x24 x25 x26 x27 x28 x29 x30 x31 x32 x33 x34 x35 x36 x37 x38 x39 x40 x41 x42 x43 x44 x45 x46 x47 x48 x49 x50 x51 x52 x53 x54 x55 x56 x57 x58 x59 x60 x61 x62 x63 x64 x65 x66 x67 x68 x69 x70 x71 x72 x73 x74 x75 x76 x77 x78 x79 x80 x81 x82 x83 x84 x85 x86 x87 x88 x89 x90 x91 x92 x93 x94 x95 x96 x97 x98 x99 x100 x101 x102 x103 x104 x105 x106 x107 x108 x109 x110 x111 x112 x113 x114 x115 x116 x117 x118 x119 x120 x121 x122 x123 x124 x125 x126 x127 x128 x129 x130 x131 x132 x133 x134 x135 x136 x137 x138 x139 x140 x141 x142 x143 x144 x145 x146 x147 x148 x149 x150 x151 x152 : Value) (Q0 : Exit → Act → World → Prop)
    (hwn : 0 < wn) (hnl : nl.length ≤ 1000) (hn64 : ∀ v ∈ nl, I64 v) (hps : PsS w W b2 gw w0 nv nl)
    (hnext : ∀ (u10 u11 u12 u13 u14 u72 u73 u74 u75 u76 u77 u78 u79 u80 u81 u82 u83 u84 u85 u86 u87 u88 u89 u90 u91 u92 u93 u94 u95 u96 u97 u98 u99 u100 u101 u102 u103 u104 u105 u106 u107 u108 u109 u110 u111 u112 u113 u114 u115 u116 u117 u118 u119 u120 u121 u122 u123 u124 u125 u126 u127 u128 u129 u130 u131 u132 u133 u134 u135 u136 u137 u138 u139 u140 u141 u142 u143 u144 u145 u146 u147 u148 u149 u150 u151 : Value) (w' : World), PsS w w' b2 gw w0 nv nl → (List.range' 1 18).findSome? (opsR s w0 nl) = none → Q0 .normal ⟨List.toArray (.string ⟨s.toArray⟩ :: x1 :: .pointer (some ⟨b2, 0, none⟩) :: .int .i64 0 :: .slice (some ⟨gw, 0, none⟩) wn wcp :: nv :: x6 :: x7 :: x8 :: x9 :: u10 :: u11 :: u12 :: u13 :: u14 :: x15 :: x16 :: x17 :: x18 :: x19 :: x20 :: x21 :: x22 :: x23 :: x24 :: x25 :: x26 :: x27 :: x28 :: x29 :: x30 :: x31 :: x32 :: x33 :: x34 :: x35 :: x36 :: x37 :: x38 :: x39 :: x40 :: x41 :: x42 :: x43 :: x44 :: x45 :: x46 :: x47 :: x48 :: x49 :: x50 :: x51 :: x52 :: x53 :: x54 :: x55 :: x56 :: x57 :: x58 :: x59 :: x60 :: x61 :: x62 :: x63 :: x64 :: x65 :: x66 :: x67 :: x68 :: x69 :: x70 :: x71 :: u72 :: u73 :: u74 :: u75 :: u76 :: u77 :: u78 :: u79 :: u80 :: u81 :: u82 :: u83 :: u84 :: u85 :: u86 :: u87 :: u88 :: u89 :: u90 :: u91 :: u92 :: u93 :: u94 :: u95 :: u96 :: u97 :: u98 :: u99 :: u100 :: u101 :: u102 :: u103 :: u104 :: u105 :: u106 :: u107 :: u108 :: u109 :: u110 :: u111 :: u112 :: u113 :: u114 :: u115 :: u116 :: u117 :: u118 :: u119 :: u120 :: u121 :: u122 :: u123 :: u124 :: u125 :: u126 :: u127 :: u128 :: u129 :: u130 :: u131 :: u132 :: u133 :: u134 :: u135 :: u136 :: u137 :: u138 :: u139 :: u140 :: u141 :: u142 :: u143 :: u144 :: u145 :: u146 :: u147 :: u148 :: u149 :: u150 :: u151 :: x152 :: []), []⟩ w')
    (hret : ∀ (a : Act) (w' : World) (x : In), (List.range' 1 18).findSome? (opsR s w0 nl) = some x → a.defers = [] → a.tmps.getD 2 undef = .pointer (some ⟨b2, 0, none⟩) → a.tmps.getD 3 undef = .int .i64 0 → Holds w' b2 23 x.cells → Below w.heap.size w w' → Q0 .ret a w') :
    Code.wp Tryd.prog pEnd Q0 ⟨List.toArray (.string ⟨s.toArray⟩ :: x1 :: .pointer (some ⟨b2, 0, none⟩) :: .int .i64 0 :: .slice (some ⟨gw, 0, none⟩) wn wcp :: nv :: x6 :: x7 :: x8 :: x9 :: x10 :: x11 :: x12 :: x13 :: x14 :: x15 :: x16 :: x17 :: x18 :: x19 :: x20 :: x21 :: x22 :: x23 :: x24 :: x25 :: x26 :: x27 :: x28 :: x29 :: x30 :: x31 :: x32 :: x33 :: x34 :: x35 :: x36 :: x37 :: x38 :: x39 :: x40 :: x41 :: x42 :: x43 :: x44 :: x45 :: x46 :: x47 :: x48 :: x49 :: x50 :: x51 :: x52 :: x53 :: x54 :: x55 :: x56 :: x57 :: x58 :: x59 :: x60 :: x61 :: x62 :: x63 :: x64 :: x65 :: x66 :: x67 :: x68 :: x69 :: x70 :: x71 :: x72 :: x73 :: x74 :: x75 :: x76 :: x77 :: x78 :: x79 :: x80 :: x81 :: x82 :: x83 :: x84 :: x85 :: x86 :: x87 :: x88 :: x89 :: x90 :: x91 :: x92 :: x93 :: x94 :: x95 :: x96 :: x97 :: x98 :: x99 :: x100 :: x101 :: x102 :: x103 :: x104 :: x105 :: x106 :: x107 :: x108 :: x109 :: x110 :: x111 :: x112 :: x113 :: x114 :: x115 :: x116 :: x117 :: x118 :: x119 :: x120 :: x121 :: x122 :: x123 :: x124 :: x125 :: x126 :: x127 :: x128 :: x129 :: x130 :: x131 :: x132 :: x133 :: x134 :: x135 :: x136 :: x137 :: x138 :: x139 :: x140 :: x141 :: x142 :: x143 :: x144 :: x145 :: x146 :: x147 :: x148 :: x149 :: x150 :: x151 :: x152 :: []), []⟩ W := by
  have HP := Lib.hid hps; clear hps
  have Hnext := Lib.hid hnext; clear hnext
  have Hret := Lib.hid hret; clear hret
  have HN := Lib.hid hn64; clear hn64
  conv => arg 2; whnf
  go_wp2_with fail
  go_loopw [3, 10] (fun e o wr => e = .int .i64 0 ∧ ∃ r : Nat, 1 ≤ r ∧ r ≤ 19 ∧ o = .int .i64 r ∧ PsS w wr b2 gw w0 nv nl ∧ ∀ op, 1 ≤ op → op < r → opsR s w0 nl op = none) (fun _ o _ => 19 - (intOf o).toNat)
  case atStart => exact ⟨rfl, 1, by omega, by omega, rfl, HP.out, fun op h1 h2 => by omega⟩
  case round =>
    clear HP
    obtain ⟨rfl, r, h1, h2, rfl, hp, hno⟩ := hrel
    have HP := Lib.hid hp; clear hp
    have HNo := Lib.hid hno; clear hno
    by_cases hr : r ≤ 18
    · have d1 : decide ((r : Int) ≤ 18) = true := decide_eq_true (by omega)
      have hrw : IntKind.i64.wrap ((r : Int) + 1) = (r : Int) + 1 := by rw [IntKind.wrap_i64]; omega
      go_upto_block 3 with fail
      apply wp_block
      refine parse_op _ _ _ _ _ _ _ _ _ _ _ _ _ _ _ _ _ _ _ _ _ _ _ _ _ _ _ _ _ _ _ _ _ _ _ _ _ _ _ _ _ _ _ _ _ _ _ _ _ _ _ _ _ _ _ _ _ _ _ _ _ _ _ _ _ _ _ _ _ _ _ _ _ _ _ _ _ _ _ _ _ _ _ _ _ _ _ _ _ _ _ _ _ _ _ _ _ _ _ _ _ _ _ _ _ _ _ _ _ _ _ _ _ _ _ _ _ _ _ _ _ _ _ _ _ _ _ _ _ _ _ _ _ _ _ _ _ _ _ _ _ _ _ _ _ _ _ _ h1 hr hwn hnl HN.out HP.out ?_ ?_ ?_
      · intro u11 u12 u13 u14 u76 u77 u78 u79 u80 u81 u82 u83 u84 u85 u86 u87 u88 u89 u90 u91 u92 u93 u94 u95 u96 u97 u98 u99 u100 u101 u102 u103 u104 u105 u106 u107 u108 u109 u110 u111 u112 u113 u114 u115 u116 u117 u118 u119 u120 u121 u122 u123 u124 u125 u126 u127 u128 u129 u130 u131 u132 u133 u134 u135 u136 u137 u138 u139 u140 u141 u142 u143 u144 u145 u146 u147 u148 u149 u150 u151 w' hp' hx
        have HP2 := Lib.hid hp'; have HX := Lib.hid hx
        clear hp' hx HP
        go_wp2_with fail
        go_roundw
        case rel => exact ⟨rfl, r + 1, by omega, by omega, by go_num, HP2.out, fun op k1 k2 => by
          by_cases e : op = r
          · subst e; exact HX.out
          · exact HNo.out op k1 (by omega)⟩
        case measure => simp [intOf]; omega
      · intro u11 u12 u13 u14 u76 u77 u78 u79 u80 u81 u82 u83 u84 u85 u86 u87 u88 u89 u90 u91 u92 u93 u94 u95 u96 u97 u98 u99 u100 u101 u102 u103 u104 u105 u106 u107 u108 u109 u110 u111 u112 u113 u114 u115 u116 u117 u118 u119 u120 u121 u122 u123 u124 u125 u126 u127 u128 u129 u130 u131 u132 u133 u134 u135 u136 u137 u138 u139 u140 u141 u142 u143 u144 u145 u146 u147 u148 u149 u150 u151 w' hp' hx
        have HP2 := Lib.hid hp'; have HX := Lib.hid hx
        clear hp' hx HP
        go_wp2_with fail
        go_roundw
        case rel => exact ⟨rfl, r + 1, by omega, by omega, by go_num, HP2.out, fun op k1 k2 => by
          by_cases e : op = r
          · subst e; exact HX.out
          · exact HNo.out op k1 (by omega)⟩
        case measure => simp [intOf]; omega
      · intro a w' x hx k1 k2 k3 k4 k5
        have hfind : (List.range' 1 18).findSome? (opsR s w0 nl) = some x := by
          rw [show 18 = (r - 1) + (1 + (18 - r)) from by omega, ← List.range'_append_1, ← List.range'_append_1, List.findSome?_append, List.findSome?_append]
          have hz : (List.range' 1 (r - 1)).findSome? (opsR s w0 nl) = none := List.findSome?_eq_none_iff.2 (fun op ho => by
            obtain ⟨i, hi, rfl⟩ := List.mem_range'.1 ho
            exact HNo.out _ (by omega) (by omega))
          rw [hz, show 1 + (r - 1) = r from by omega]
          simp [List.range', hx]
        have HFd := Lib.hid hfind; clear hfind hx
        have K1 := Lib.hid k1; have K2 := Lib.hid k2; have K3 := Lib.hid k3; have K4 := Lib.hid k4; have K5 := Lib.hid k5
        clear k1 k2 k3 k4 k5 HP
        go_wp2_with fail
        exact Hret.out a w' x HFd.out K1.out K2.out K3.out K4.out K5.out
    · have d1 : decide ((r : Int) ≤ 18) = false := decide_eq_false (by omega)
      have hnone : (List.range' 1 18).findSome? (opsR s w0 nl) = none := List.findSome?_eq_none_iff.2 (fun op ho => by
        obtain ⟨i, hi, rfl⟩ := List.mem_range'.1 ho
        exact HNo.out _ (by omega) (by omega))
      have HNn := Lib.hid hnone; clear hnone HNo
      go_wp2_with fail
      exact Hnext.out _ _ _ _ _ _ _ _ _ _ _ _ _ _ _ _ _ _ _ _ _ _ _ _ _ _ _ _ _ _ _ _ _ _ _ _ _ _ _ _ _ _ _ _ _ _ _ _ _ _ _ _ _ _ _ _ _ _ _ _ _ _ _ _ _ _ _ _ _ _ _ _ _ _ _ _ _ _ _ _ _ _ _ _ _ _ HP.out HNn.out

end Go.Proofs.YtfeemchdhbimhaaDoor
