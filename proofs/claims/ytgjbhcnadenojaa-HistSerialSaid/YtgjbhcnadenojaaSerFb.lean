/- serial: behind its inner loop. Conditions: those stated in each theorem. -/
import Derived.Test.YtgjbhcnadenojaaSerFo
namespace Go.Proofs.Ytgjbhcnadenojaa
open Go.RowKit Go.BigFrame Go.Maps

set_option maxRecDepth 100000 in
set_option maxHeartbeats 4000000 in
theorem ser_tail {w W : World} {lo g cap N b9 b10 B g2 cap2 : Nat} {hs1 : List Ev} {ml : List Bk} {W0 ow : List Int} {hv : Value} {co la n : Int} {ops : List Op3} {ab : Bool} {oa : Option Addr} {oc : Nat} (x0 x2 x3 x4 x5 x7 x8 x12 x13 x14 x15 x16 x17 x18 x19 x20 x21 x22 x23 x24 x25 x26 x27 x28 x29 x30 x31 x32 x33 x34 x35 x36 x37 x38 x39 x40 x41 x42 x43 x44 x45 x46 x47 x48 x49 x50 x51 x52 x53 x54 x55 x56 x57 x58 x59 x60 x61 x62 x63 x64 x65 x66 x67 x68 x69 x70 x71 x72 x73 x74 x75 x76 x77 x78 x79 x80 x81 x82 x83 x84 x85 x86 x87 x88 x89 x90 x91 x92 x93 x94 x95 x96 x97 x98 x99 x100 x101 x102 x103 x104 x105 x106 x107 x108 x109 x110 x111 x112 x113 x114 x115 x116 x117 x118 x119 x120 x121 x122 x123 x124 x125 x126 x127 x128 x129 x130 x131 x132 x133 x134 x135 x136 x137 x138 x139 x140 x141 x142 x143 x144 x145 x146 : Value) (Q0 : Exit → Act → World → Prop)
    (hgl : g < w.heap.size) (hN : N ≤ 60) (hx40 : ops.length ≤ 40) (hsl1 : hs1.length ≤ 557) (hco : 0 ≤ co ∧ co < 4) (hla : 1 ≤ la ∧ la ≤ 4)
    (hs5 : SEo w W lo g cap N hs1 ml W0 hv b9 b10 [.int .i64 co, .int .i64 la, .slice oa ops.length oc, .bool ab] [.int .i64 1, .int .i64 0, .int .i64 co, .int .i64 n, .int .i64 0, .int .i64 la, .int .i64 0, .int .u64 0, .int .i64 0] B g2 cap2 ow)
    (hend : ∀ (u6 u14 u128 u129 u130 u131 u132 u133 u134 u135 u136 u137 u138 u139 u140 u141 u142 u143 u144 u145 : Value) (w' : World) (X : Nat × List Value), SEo w w' lo g cap N ((hs1 ++ [endP ⟨co, la, ops, ab⟩ n]) ++ [endC ⟨co, la, ops, ab⟩ n]) ml (if ab then W0 else ow) u6 b9 X.1 [.int .i64 co, .int .i64 la, .slice oa ops.length oc, .bool ab] X.2 B g2 cap2 ow → Q0 .normal ⟨List.toArray (x0 :: .slice (some ⟨g, 0, none⟩) N cap :: x2 :: x3 :: x4 :: x5 :: u6 :: x7 :: x8 :: .pointer (some ⟨b9, 0, none⟩) :: .pointer (some ⟨b10, 0, none⟩) :: .slice (some ⟨g2, 0, none⟩) N cap2 :: x12 :: x13 :: u14 :: x15 :: x16 :: x17 :: x18 :: x19 :: x20 :: x21 :: x22 :: x23 :: x24 :: x25 :: x26 :: x27 :: x28 :: x29 :: x30 :: x31 :: x32 :: x33 :: x34 :: x35 :: x36 :: x37 :: x38 :: x39 :: x40 :: x41 :: x42 :: x43 :: x44 :: x45 :: x46 :: x47 :: x48 :: x49 :: x50 :: x51 :: x52 :: x53 :: x54 :: x55 :: x56 :: x57 :: x58 :: x59 :: x60 :: x61 :: x62 :: x63 :: x64 :: x65 :: x66 :: x67 :: x68 :: x69 :: x70 :: x71 :: x72 :: x73 :: x74 :: x75 :: x76 :: x77 :: x78 :: x79 :: x80 :: x81 :: x82 :: x83 :: x84 :: x85 :: x86 :: x87 :: x88 :: x89 :: x90 :: x91 :: x92 :: x93 :: x94 :: x95 :: x96 :: x97 :: x98 :: x99 :: x100 :: x101 :: x102 :: x103 :: x104 :: x105 :: x106 :: x107 :: x108 :: x109 :: x110 :: x111 :: x112 :: x113 :: x114 :: x115 :: x116 :: x117 :: x118 :: x119 :: x120 :: x121 :: x122 :: x123 :: x124 :: x125 :: x126 :: x127 :: u128 :: u129 :: u130 :: u131 :: u132 :: u133 :: u134 :: u135 :: u136 :: u137 :: u138 :: u139 :: u140 :: u141 :: u142 :: u143 :: u144 :: u145 :: x146 :: []), []⟩ w') :
    Code.wp Try.prog serTail Q0 ⟨List.toArray (x0 :: .slice (some ⟨g, 0, none⟩) N cap :: x2 :: x3 :: x4 :: x5 :: hv :: x7 :: x8 :: .pointer (some ⟨b9, 0, none⟩) :: .pointer (some ⟨b10, 0, none⟩) :: .slice (some ⟨g2, 0, none⟩) N cap2 :: x12 :: x13 :: x14 :: x15 :: x16 :: x17 :: x18 :: x19 :: x20 :: x21 :: x22 :: x23 :: x24 :: x25 :: x26 :: x27 :: x28 :: x29 :: x30 :: x31 :: x32 :: x33 :: x34 :: x35 :: x36 :: x37 :: x38 :: x39 :: x40 :: x41 :: x42 :: x43 :: x44 :: x45 :: x46 :: x47 :: x48 :: x49 :: x50 :: x51 :: x52 :: x53 :: x54 :: x55 :: x56 :: x57 :: x58 :: x59 :: x60 :: x61 :: x62 :: x63 :: x64 :: x65 :: x66 :: x67 :: x68 :: x69 :: x70 :: x71 :: x72 :: x73 :: x74 :: x75 :: x76 :: x77 :: x78 :: x79 :: x80 :: x81 :: x82 :: x83 :: x84 :: x85 :: x86 :: x87 :: x88 :: x89 :: x90 :: x91 :: x92 :: x93 :: x94 :: x95 :: x96 :: x97 :: x98 :: x99 :: x100 :: x101 :: x102 :: x103 :: x104 :: x105 :: x106 :: x107 :: x108 :: x109 :: x110 :: x111 :: x112 :: x113 :: x114 :: x115 :: x116 :: x117 :: x118 :: x119 :: x120 :: x121 :: x122 :: x123 :: x124 :: x125 :: x126 :: x127 :: x128 :: x129 :: x130 :: x131 :: x132 :: x133 :: x134 :: x135 :: x136 :: x137 :: x138 :: x139 :: x140 :: x141 :: x142 :: x143 :: x144 :: x145 :: x146 :: []), []⟩ W := by
          have HO := Lib.hid hs5; clear hs5
          have Hend := Lib.hid hend; clear hend
          obtain ⟨i0, hi0, hz0, hz1, hz2⟩ := info_parts Try.infoEv
          have Hi := Lib.hid hi0; clear hi0
          have Hz0 := Lib.hid hz0; clear hz0
          have Hz1 := Lib.hid hz1; clear hz1
          have Hz2 := Lib.hid hz2; clear hz2
          conv => arg 2; whnf
          have c2c := HO.out.r.blk.cell (i := 2) rfl
          have c3c := HO.out.r.blk.cell (i := 3) rfl
          have k0 := HO.out.r.evb.cell (i := 0) rfl
          have k1 := HO.out.r.evb.cell (i := 1) rfl
          have k2 := HO.out.r.evb.cell (i := 2) rfl
          have k3 := HO.out.r.evb.cell (i := 3) rfl
          have k4 := HO.out.r.evb.cell (i := 4) rfl
          have k5 := HO.out.r.evb.cell (i := 5) rfl
          have k6 := HO.out.r.evb.cell (i := 6) rfl
          have k7 := HO.out.r.evb.cell (i := 7) rfl
          have k8 := HO.out.r.evb.cell (i := 8) rfl
          have lb9 := HO.out.r.blk.lt
          have lb10 := HO.out.r.evb.lt
          have hswap := HO.out.swap ((Below.refl _ W).alloc (Nat.le_refl _) (.cells #[.int .i64 4, .int .i64 0, .int .i64 co, .int .i64 n, .int .i64 0, .int .i64 la, .int .i64 0, .int .u64 0, .int .i64 0] 61)) (b := W.heap.size) (Holds.new W 61 [.int .i64 4, .int .i64 0, .int .i64 co, .int .i64 n, .int .i64 0, .int .i64 la, .int .i64 0, .int .u64 0, .int .i64 0]) (Nat.le_refl _)
          have HSW := Lib.hid hswap; clear hswap
          have HT9 := Lib.hid HO.out.r.tch.size
          go_wp2_with (at_builtin; go_loud (refine wpList_append_own_at _ rfl (.tmp 130) (.tmp 132) 22 rfl w.heap.size 61 i0 _ 9 72 Try.underlying22 Hi.out Hz0.out Hz1.out Hz2.out rfl (by decide) hv hs1.length (flatE hs1) rfl (World.ownsRow.alloc HSW.out.r.row _) ⟨W.heap.size + 1, 0, none⟩ 1 1 [.int .i64 4, .int .i64 0, .int .i64 co, .int .i64 n, .int .i64 0, .int .i64 la, .int .i64 0, .int .u64 0, .int .i64 0] rfl rfl (World.news_of_block (cs := #[.int .i64 4, .int .i64 0, .int .i64 co, .int .i64 n, .int .i64 0, .int .i64 la, .int .i64 0, .int .u64 0, .int .i64 0]) (t := 61) (fr := (0, 0)) (new_blockB W _ _)) (by simp [Value.oneCell']) (by unfold maxLen; omega) (by omega) (by have := HT9.out; simp; omega) ?_); intro v6 w6 hown6 hgrow6 _ hat6; refine Hid.out ?_)
          refine Lib.hid ?_
          have HP := Lib.hid (HSW.out.push (e := endP ⟨co, la, ops, ab⟩ n) hown6 ((Below.refl _ (W.alloc (.cells #[.int .i64 4, .int .i64 0, .int .i64 co, .int .i64 n, .int .i64 0, .int .i64 la, .int .i64 0, .int .u64 0, .int .i64 0] 61))).alloc (Nat.le_refl _) _) hgrow6 hat6 hgl)
          clear hown6 hgrow6 hat6 HO HSW c2c c3c k0 k1 k2 k3 k4 k5 k6 k7 k8 lb9 lb10
          obtain ⟨b14, hb14⟩ : ∃ b14, W.heap.size = b14 := ⟨_, rfl⟩
          rw [hb14] at HP ⊢
          clear hb14 HT9
          have lb14 := HP.out.r.evb.lt
          have e0 := HP.out.r.evb.cell (i := 0) rfl
          have e0f := HP.out.r.evb.free 0
          go_upto_region 31 with (fail)
          have HQ := Lib.hid (HP.out.setEv 0 (.int .i64 5) hgl)
          generalize w6.setCell ⟨b14, 0, none⟩ (.int .i64 5) = w7 at *
          clear HP e0 e0f lb14
          have c3c := HQ.out.r.blk.cell (i := 3) rfl
          have hsl2 : (hs1 ++ [endP ⟨co, la, ops, ab⟩ n]).length ≤ 558 := by simp; omega
          obtain ⟨hs2, hhs2⟩ : ∃ hs2, hs1 ++ [endP ⟨co, la, ops, ab⟩ n] = hs2 := ⟨_, rfl⟩
          rw [hhs2] at HQ hsl2 Hend
          cases ab
          · go_wp2_with (refine wpList_copy_words rfl (.tmp 139) (.tmp 140) rfl rfl HQ.out.r.words rfl HQ.out.own (wordU_one _) ?_; intro w8 hw8 hT8; refine Hid.out ?_)
            refine Lib.hid ?_
            have HQ2 := Lib.hid (HQ.out.copied hw8 hT8 hgl)
            clear hw8 hT8 HQ c3c
            have k0 := HQ2.out.r.evb.cell (i := 0) rfl
            have k1 := HQ2.out.r.evb.cell (i := 1) rfl
            have k2 := HQ2.out.r.evb.cell (i := 2) rfl
            have k3 := HQ2.out.r.evb.cell (i := 3) rfl
            have k4 := HQ2.out.r.evb.cell (i := 4) rfl
            have k5 := HQ2.out.r.evb.cell (i := 5) rfl
            have k6 := HQ2.out.r.evb.cell (i := 6) rfl
            have k7 := HQ2.out.r.evb.cell (i := 7) rfl
            have k8 := HQ2.out.r.evb.cell (i := 8) rfl
            have lb14 := HQ2.out.r.evb.lt
            have HT8 := Lib.hid HQ2.out.r.tch.size
            go_wp2_with (at_builtin; go_loud (refine wpList_append_own_at _ rfl (.tmp 142) (.tmp 144) 22 rfl w.heap.size 61 i0 _ 9 72 Try.underlying22 Hi.out Hz0.out Hz1.out Hz2.out rfl (by decide) v6 hs2.length (flatE hs2) rfl (World.ownsRow.alloc HQ2.out.r.row _) ⟨w8.heap.size, 0, none⟩ 1 1 [.int .i64 5, .int .i64 0, .int .i64 co, .int .i64 n, .int .i64 0, .int .i64 la, .int .i64 0, .int .u64 0, .int .i64 0] rfl rfl (World.news_of_block (cs := #[.int .i64 5, .int .i64 0, .int .i64 co, .int .i64 n, .int .i64 0, .int .i64 la, .int .i64 0, .int .u64 0, .int .i64 0]) (t := 61) (fr := (0, 0)) (new_block w8 _)) (by simp [Value.oneCell']) (by unfold maxLen; omega) (by omega) (by have := HT8.out; simp; omega) ?_); intro v9 w9 hown9 hgrow9 _ hat9; refine Hid.out ?_)
            refine Lib.hid ?_
            have HZ := Lib.hid (HQ2.out.push (e := endC ⟨co, la, ops, false⟩ n) hown9 ((Below.refl _ w8).alloc (Nat.le_refl _) _) hgrow9 hat9 hgl)
            clear hown9 hgrow9 hat9 HQ2 k0 k1 k2 k3 k4 k5 k6 k7 k8 lb14 HT8
            go_wp2_with fail
            exact Hend.out _ _ _ _ _ _ _ _ _ _ _ _ _ _ _ _ _ _ _ _ _ (_, _) HZ.out
          · have e0 := HQ.out.r.evb.cell (i := 0) rfl
            have e0f := HQ.out.r.evb.free 0
            have e8 := HQ.out.r.evb.cell (i := 8) rfl
            have e8f := HQ.out.r.evb.free 8
            have lb14 := HQ.out.r.evb.lt
            go_upto_region 35 with (fail)
            have HQ2 := Lib.hid ((HQ.out.setEv 0 (.int .i64 6) hgl).setEv 8 (.int .i64 5) hgl)
            generalize (w7.setCell ⟨b14, 0, none⟩ (.int .i64 6)).setCell ⟨b14, 8, none⟩ (.int .i64 5) = w8 at *
            clear HQ c3c e0 e0f e8 e8f lb14
            have k0 := HQ2.out.r.evb.cell (i := 0) rfl
            have k1 := HQ2.out.r.evb.cell (i := 1) rfl
            have k2 := HQ2.out.r.evb.cell (i := 2) rfl
            have k3 := HQ2.out.r.evb.cell (i := 3) rfl
            have k4 := HQ2.out.r.evb.cell (i := 4) rfl
            have k5 := HQ2.out.r.evb.cell (i := 5) rfl
            have k6 := HQ2.out.r.evb.cell (i := 6) rfl
            have k7 := HQ2.out.r.evb.cell (i := 7) rfl
            have k8 := HQ2.out.r.evb.cell (i := 8) rfl
            have lb14 := HQ2.out.r.evb.lt
            have HT8 := Lib.hid HQ2.out.r.tch.size
            go_wp2_with (at_builtin; go_loud (refine wpList_append_own_at _ rfl (.tmp 142) (.tmp 144) 22 rfl w.heap.size 61 i0 _ 9 72 Try.underlying22 Hi.out Hz0.out Hz1.out Hz2.out rfl (by decide) v6 hs2.length (flatE hs2) rfl (World.ownsRow.alloc HQ2.out.r.row _) ⟨w8.heap.size, 0, none⟩ 1 1 [.int .i64 6, .int .i64 0, .int .i64 co, .int .i64 n, .int .i64 0, .int .i64 la, .int .i64 0, .int .u64 0, .int .i64 5] rfl rfl (World.news_of_block (cs := #[.int .i64 6, .int .i64 0, .int .i64 co, .int .i64 n, .int .i64 0, .int .i64 la, .int .i64 0, .int .u64 0, .int .i64 5]) (t := 61) (fr := (0, 0)) (new_block w8 _)) (by simp [Value.oneCell']) (by unfold maxLen; omega) (by omega) (by have := HT8.out; simp; omega) ?_); intro v9 w9 hown9 hgrow9 _ hat9; refine Hid.out ?_)
            refine Lib.hid ?_
            have HZ := Lib.hid (HQ2.out.push (e := endC ⟨co, la, ops, true⟩ n) hown9 ((Below.refl _ w8).alloc (Nat.le_refl _) _) hgrow9 hat9 hgl)
            clear hown9 hgrow9 hat9 HQ2 k0 k1 k2 k3 k4 k5 k6 k7 k8 lb14 HT8
            go_wp2_with fail
            exact Hend.out _ _ _ _ _ _ _ _ _ _ _ _ _ _ _ _ _ _ _ _ _ (_, _) HZ.out
end Go.Proofs.Ytgjbhcnadenojaa
