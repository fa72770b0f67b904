/- serial: its inner loop. Conditions: those stated in each theorem. -/
import Derived.Test.YtgjbhcnadenojaaSerFo
namespace Go.Proofs.Ytgjbhcnadenojaa
open Go.RowKit Go.BigFrame Go.Maps

set_option maxRecDepth 100000 in
set_option maxHeartbeats 4000000 in
theorem ser_loop {w00 w W : World} {lo g cap N b9 b10 B g2 cap2 : Nat} {hs0 : List Ev} {ml : List Bk} {W0 : List Int} {hv : Value} {co la n : Int} {ops : List Op3} {ab : Bool} {oa : Option Addr} {oc : Nat} (x0 x2 x3 x4 x5 x7 x8 x13 x14 x15 x16 x17 x18 x19 x20 x21 x22 x23 x24 x25 x26 x27 x28 x29 x30 x31 x32 x33 x34 x35 x36 x37 x38 x39 x40 x41 x42 x43 x44 x45 x46 x47 x48 x49 x50 x51 x52 x53 x54 x55 x56 x57 x58 x59 x60 x61 x62 x63 x64 x65 x66 x67 x68 x69 x70 x71 x72 x73 x74 x75 x76 x77 x78 x79 x80 x81 x82 x83 x84 x85 x86 x87 x88 x89 x90 x91 x92 x93 x94 x95 x96 x97 x98 x99 x100 x101 x102 x103 x104 x105 x106 x107 x108 x109 x110 x111 x112 x113 x114 x115 x116 x117 x118 x119 x120 x121 x122 x123 x124 x125 x126 x127 x128 x129 x130 x131 x132 x133 x134 x135 x136 x137 x138 x139 x140 x141 x142 x143 x144 x145 x146 : Value) (Q0 : Exit → Act → World → Prop)
    (h0 : Below w00.heap.size w00 w) (h00 : w00.heap.size ≤ g) (hops : RowsIn w00 oa 3 Op3.cells ops) (hgl : g < w.heap.size) (hN : N ≤ 60) (hx40 : ops.length ≤ 40) (hsl0 : hs0.length ≤ 517) (hwl : W0.length = N) (hco : 0 ≤ co ∧ co < 4) (hla : 1 ≤ la ∧ la ≤ 4)
    (hs5 : SEo w W lo g cap N hs0 ml W0 hv b9 b10 [.int .i64 co, .int .i64 la, .slice oa ops.length oc, .bool ab] [.int .i64 1, .int .i64 0, .int .i64 co, .int .i64 n, .int .i64 0, .int .i64 la, .int .i64 0, .int .u64 0, .int .i64 0] B g2 cap2 W0)
    (hexit : ∀ (u4 u5 u6 u13 u72 u73 u74 u75 u76 u77 u78 u79 u80 u81 u82 u83 u84 u85 u86 u87 u88 u89 u90 u91 u92 u93 u94 u95 u96 u97 u98 u99 u100 u101 u102 u103 u104 u105 u106 u107 u108 u109 u110 u111 u112 u113 u114 u115 u116 u117 u118 u119 u120 u121 u122 u123 u124 u125 u126 u127 : Value) (w' : World), (∀ o ∈ ops, 0 ≤ o.ad ∧ o.ad < (N : Int)) → SEo w w' lo g cap N (hs0 ++ evsL ⟨co, la, ops, ab⟩ n W0 ops) ml W0 u6 b9 b10 [.int .i64 co, .int .i64 la, .slice oa ops.length oc, .bool ab] [.int .i64 1, .int .i64 0, .int .i64 co, .int .i64 n, .int .i64 0, .int .i64 la, .int .i64 0, .int .u64 0, .int .i64 0] B g2 cap2 (ownL W0 ops) → Q0 (.exit 2) ⟨List.toArray (x0 :: .slice (some ⟨g, 0, none⟩) N cap :: x2 :: x3 :: u4 :: u5 :: u6 :: x7 :: x8 :: .pointer (some ⟨b9, 0, none⟩) :: .pointer (some ⟨b10, 0, none⟩) :: .slice (some ⟨g2, 0, none⟩) N cap2 :: .int .i64 ops.length :: u13 :: x14 :: x15 :: x16 :: x17 :: x18 :: x19 :: x20 :: x21 :: x22 :: x23 :: x24 :: x25 :: x26 :: x27 :: x28 :: x29 :: x30 :: x31 :: x32 :: x33 :: x34 :: x35 :: x36 :: x37 :: x38 :: x39 :: x40 :: x41 :: x42 :: x43 :: x44 :: x45 :: x46 :: x47 :: x48 :: x49 :: x50 :: x51 :: x52 :: x53 :: x54 :: x55 :: x56 :: x57 :: x58 :: x59 :: x60 :: x61 :: x62 :: x63 :: x64 :: x65 :: x66 :: x67 :: x68 :: x69 :: x70 :: x71 :: u72 :: u73 :: u74 :: u75 :: u76 :: u77 :: u78 :: u79 :: u80 :: u81 :: u82 :: u83 :: u84 :: u85 :: u86 :: u87 :: u88 :: u89 :: u90 :: u91 :: u92 :: u93 :: u94 :: u95 :: u96 :: u97 :: u98 :: u99 :: u100 :: u101 :: u102 :: u103 :: u104 :: u105 :: u106 :: u107 :: u108 :: u109 :: u110 :: u111 :: u112 :: u113 :: u114 :: u115 :: u116 :: u117 :: u118 :: u119 :: u120 :: u121 :: u122 :: u123 :: u124 :: u125 :: u126 :: u127 :: x128 :: x129 :: x130 :: x131 :: x132 :: x133 :: x134 :: x135 :: x136 :: x137 :: x138 :: x139 :: x140 :: x141 :: x142 :: x143 :: x144 :: x145 :: x146 :: []), []⟩ w')
    (hret : ∀ (a : Act) (w' : World), a.defers = [] → a.tmps.getD 4 undef = .slice none 0 0 → a.tmps.getD 5 undef = .bool false → Tch (fun x => x = g) w w' → Q0 .ret a w') :
    Code.wp Try.prog (Code.loop serInner) Q0 ⟨List.toArray (x0 :: .slice (some ⟨g, 0, none⟩) N cap :: x2 :: x3 :: x4 :: x5 :: hv :: x7 :: x8 :: .pointer (some ⟨b9, 0, none⟩) :: .pointer (some ⟨b10, 0, none⟩) :: .slice (some ⟨g2, 0, none⟩) N cap2 :: .int .i64 0 :: x13 :: x14 :: x15 :: x16 :: x17 :: x18 :: x19 :: x20 :: x21 :: x22 :: x23 :: x24 :: x25 :: x26 :: x27 :: x28 :: x29 :: x30 :: x31 :: x32 :: x33 :: x34 :: x35 :: x36 :: x37 :: x38 :: x39 :: x40 :: x41 :: x42 :: x43 :: x44 :: x45 :: x46 :: x47 :: x48 :: x49 :: x50 :: x51 :: x52 :: x53 :: x54 :: x55 :: x56 :: x57 :: x58 :: x59 :: x60 :: x61 :: x62 :: x63 :: x64 :: x65 :: x66 :: x67 :: x68 :: x69 :: x70 :: x71 :: x72 :: x73 :: x74 :: x75 :: x76 :: x77 :: x78 :: x79 :: x80 :: x81 :: x82 :: x83 :: x84 :: x85 :: x86 :: x87 :: x88 :: x89 :: x90 :: x91 :: x92 :: x93 :: x94 :: x95 :: x96 :: x97 :: x98 :: x99 :: x100 :: x101 :: x102 :: x103 :: x104 :: x105 :: x106 :: x107 :: x108 :: x109 :: x110 :: x111 :: x112 :: x113 :: x114 :: x115 :: x116 :: x117 :: x118 :: x119 :: x120 :: x121 :: x122 :: x123 :: x124 :: x125 :: x126 :: x127 :: x128 :: x129 :: x130 :: x131 :: x132 :: x133 :: x134 :: x135 :: x136 :: x137 :: x138 :: x139 :: x140 :: x141 :: x142 :: x143 :: x144 :: x145 :: x146 :: []), []⟩ W := by
      have H0 := Lib.hid h0; clear h0
      have hsz0 := H0.out.size
      have Hops := Lib.hid hops; clear hops
      have HS5 := Lib.hid hs5; clear hs5
      have Hexit := Lib.hid hexit; clear hexit
      have Hret := Lib.hid hret; clear hret
      obtain ⟨i0, hi0, hz0, hz1, hz2⟩ := info_parts Try.infoEv
      have Hi := Lib.hid hi0; clear hi0
      have Hz0 := Lib.hid hz0; clear hz0
      have Hz1 := Lib.hid hz1; clear hz1
      have Hz2 := Lib.hid hz2; clear hz2
      conv => arg 2; arg 1; whnf
      go_loopw [6, 12, 13] (fun u6 u12 _ wr => ∃ j : Nat, j ≤ ops.length ∧ u12 = .int .i64 j ∧ (∀ o ∈ ops.take j, 0 ≤ o.ad ∧ o.ad < (N : Int)) ∧ SEo w wr lo g cap N (hs0 ++ evsL ⟨co, la, ops, ab⟩ n W0 (ops.take j)) ml W0 u6 b9 b10 [.int .i64 co, .int .i64 la, .slice oa ops.length oc, .bool ab] [.int .i64 1, .int .i64 0, .int .i64 co, .int .i64 n, .int .i64 0, .int .i64 la, .int .i64 0, .int .u64 0, .int .i64 0] B g2 cap2 (ownL W0 (ops.take j))) (fun _ i _ _ => ops.length - (intOf i).toNat)
      case atStart => exact ⟨0, by omega, by simp, by simp, by simpa [evsL, ownL] using HS5.out⟩
      case round =>
        clear HS5
        obtain ⟨j, hj, rfl, hok2, hse⟩ := hrel
        have Hok2 := Lib.hid hok2; clear hok2
        have hevl : (hs0 ++ evsL ⟨co, la, ops, ab⟩ n W0 (ops.take j)).length ≤ 517 + j := by rw [List.length_append, evsL_len, List.length_take]; omega
        have howl : (ownL W0 (ops.take j)).length = N := by rw [ownL_len, hwl]
        by_cases hjl : j < ops.length
        · obtain ⟨o, ho⟩ : ∃ o, ops[j]? = some o := ⟨ops[j], List.getElem?_eq_getElem hjl⟩
          have hsn1 : hs0 ++ evsL ⟨co, la, ops, ab⟩ n W0 (ops.take (j + 1)) = (hs0 ++ evsL ⟨co, la, ops, ab⟩ n W0 (ops.take j)) ++ [evOf ⟨co, la, ops, ab⟩ n (ownL W0 (ops.take j)) o] := by rw [List.take_add_one, ho, Option.toList_some, evsL_snoc, List.append_assoc]
          have hsn2 : ownL W0 (ops.take (j + 1)) = ownOf (ownL W0 (ops.take j)) o := by rw [List.take_add_one, ho, Option.toList_some, ownL_snoc]
          have Hsn1 := Lib.hid hsn1; clear hsn1
          have Hsn2 := Lib.hid hsn2; clear hsn2
          obtain ⟨hs1, hhs1⟩ : ∃ hs1, hs0 ++ evsL ⟨co, la, ops, ab⟩ n W0 (ops.take j) = hs1 := ⟨_, rfl⟩
          rw [hhs1] at hse hevl Hsn1
          have Hhs1 := Lib.hid hhs1; clear hhs1
          obtain ⟨ow, how⟩ : ∃ ow, ownL W0 (ops.take j) = ow := ⟨_, rfl⟩
          rw [how] at hse howl Hsn1 Hsn2
          have How := Lib.hid how; clear how
          have HO := Lib.hid hse; clear hse
          obtain ⟨q2, c2, rfl, hq2, hr2⟩ := Hops.out.row ho
          have hqg2 : q2 ≠ g := by omega
          have hqw2 : q2 < w.heap.size := by omega
          have hbj : (0 : Int) ≤ j ∧ (j : Int) < ops.length := by omega
          have hat2 : wr.rangeAt q2 (c2 + j * 3) o.cells := fun i v hi => by rw [← hr2 i v hi]; exact World.cell?_of_block (a := ⟨q2, c2 + j * 3 + i, none⟩) ((HO.out.r.tch.block q2 hqw2 hqg2).trans (H0.out.block q2 hq2))
          have Htk2 := Lib.hid (show ops.take (j + 1) = ops.take j ++ [o] by rw [List.take_add_one, ho]; rfl)
          clear ho hr2
          obtain ⟨ad, st, va⟩ := o
          have r0 : wr.cell? ⟨q2, c2 + j * 3, none⟩ = some (.int .i64 ad) := hat2 0 _ rfl
          have r1 : wr.cell? ⟨q2, c2 + j * 3 + 1, none⟩ = some (.bool st) := hat2 1 _ rfl
          have r2 : wr.cell? ⟨q2, c2 + j * 3 + 2, none⟩ = some (.int .u64 va) := hat2 2 _ rfl
          have c2c := HO.out.r.blk.cell (i := 2) rfl
          have k0 := HO.out.r.evb.cell (i := 0) rfl
          have k1 := HO.out.r.evb.cell (i := 1) rfl
          have k2 := HO.out.r.evb.cell (i := 2) rfl
          have k3 := HO.out.r.evb.cell (i := 3) rfl
          have k4 := HO.out.r.evb.cell (i := 4) rfl
          have k5 := HO.out.r.evb.cell (i := 5) rfl
          have k6 := HO.out.r.evb.cell (i := 6) rfl
          have k7 := HO.out.r.evb.cell (i := 7) rfl
          have k8 := HO.out.r.evb.cell (i := 8) rfl
          have lq2 := World.block_lt_of_cell? _ _ r0
          have lb9 := HO.out.r.blk.lt
          have lb10 := HO.out.r.evb.lt
          have lg2 := (owns_lt HO.out.own (g := g2) rfl).2
          clear hat2
          by_cases e1 : ad < 0
          · have d6 : decide (ad < 0) = true := by simp; omega
            go_wp2_with fail
            exact Hret.out _ _ rfl rfl rfl (HO.out.r.tch.alloc _)
          have d6 : decide (ad < 0) = false := by simp; omega
          by_cases e2 : (N : Int) ≤ ad
          · have d7 : decide ((N : Int) ≤ ad) = true := by simp; omega
            have d8 : decide (ad < (N : Int)) = false := by simp; omega
            go_wp2_with fail
            exact Hret.out _ _ rfl rfl rfl (HO.out.r.tch.alloc _)
          have d7 : decide ((N : Int) ≤ ad) = false := by simp; omega
          have d8 : decide (ad < (N : Int)) = true := by simp; omega
          have had : 0 ≤ ad ∧ ad < (N : Int) := by omega
          have hag : ow[ad.toNat]? = some (ow.getD ad.toNat 0) := by
            have hl : ad.toNat < ow.length := by rw [howl]; omega
            rw [List.getD_eq_getElem?_getD, List.getElem?_eq_getElem hl]; rfl
          have hoc := owns_cell HO.out.own (g := g2) rfl (j := ad.toNat) (u := .int .u64 (ow.getD ad.toNat 0)) (by rw [List.getElem?_map, hag]; rfl)
          obtain ⟨x, hxe⟩ : ∃ x, ow.getD ad.toNat 0 = x := ⟨_, rfl⟩
          rw [hxe] at hoc
          obtain ⟨hoc1, hoc2⟩ := hoc
          have Hxe := Lib.hid hxe; clear hxe hag
          cases st
          · go_wp2_with (at_builtin; refine wpList_append_own_at _ rfl (.tmp 124) (.tmp 126) 22 rfl w.heap.size 61 i0 _ 9 72 Try.underlying22 Hi.out Hz0.out Hz1.out Hz2.out rfl (by decide) u6 hs1.length (flatE hs1) rfl (World.ownsRow.alloc (World.ownsRow.alloc HO.out.r.row _) _) ⟨wr.heap.size + 1, 0, none⟩ 1 1 [.int .i64 2, .int .i64 0, .int .i64 co, .int .i64 n, .int .i64 0, .int .i64 la, .int .i64 ad, .int .u64 x, .int .i64 0] rfl rfl (World.news_of_block (cs := #[.int .i64 2, .int .i64 0, .int .i64 co, .int .i64 n, .int .i64 0, .int .i64 la, .int .i64 ad, .int .u64 x, .int .i64 0]) (t := 61) (fr := (0, 0)) (new_blockB wr _ _)) (by simp [Value.oneCell']) (by unfold maxLen; omega) (by omega) (by have := HO.out.r.tch.size; simp; omega) ?_; intro v6 w6 hown6 hgrow6 _ hat6; refine Hid.out ?_)
            refine Lib.hid ?_
            have he : evOf ⟨co, la, ops, ab⟩ n ow ⟨ad, false, va⟩ = who ⟨co, la, ops, ab⟩ n 2 ad x 0 := by rw [← Hxe.out]; rfl
            have HP := Lib.hid (HO.out.push (e := who ⟨co, la, ops, ab⟩ n 2 ad x 0) hown6 (((Below.refl _ wr).alloc (Nat.le_refl _) _).alloc (by simp) _) hgrow6 hat6 hgl)
            have He := Lib.hid he
            clear hown6 hgrow6 hat6 he HO r0 r1 r2 c2c k0 k1 k2 k3 k4 k5 k6 k7 k8 hoc1 hoc2
            go_wp2_with fail
            go_roundw
            case rel =>
              refine ⟨j + 1, by omega, by go_num, fun o ho => ?_, ?_⟩
              · rw [Htk2.out, List.mem_append] at ho
                rcases ho with ho | ho
                · exact Hok2.out o ho
                · simp at ho; subst ho; exact had
              · have h := HP.out
                rw [Hsn1.out, Hsn2.out, He.out]
                exact h
            case measure => simp [intOf]; omega
          · have HO2 := Lib.hid (HO.out.put ad.toNat va hgl)
            go_wp2_with (at_builtin; go_loud (refine wpList_append_own_at _ rfl (.tmp 124) (.tmp 126) 22 rfl w.heap.size 61 i0 _ 9 72 Try.underlying22 Hi.out Hz0.out Hz1.out Hz2.out rfl (by decide) u6 hs1.length (flatE hs1) rfl (World.ownsRow.alloc (World.ownsRow.alloc HO2.out.r.row _) _) ⟨wr.heap.size + 1, 0, none⟩ 1 1 [.int .i64 3, .int .i64 0, .int .i64 co, .int .i64 n, .int .i64 0, .int .i64 la, .int .i64 ad, .int .u64 va, .int .i64 0] rfl rfl (World.news_of_block (cs := #[.int .i64 3, .int .i64 0, .int .i64 co, .int .i64 n, .int .i64 0, .int .i64 la, .int .i64 ad, .int .u64 va, .int .i64 0]) (t := 61) (fr := (0, 0)) (new_blockC wr _ _ _ _)) (by simp [Value.oneCell']) (by unfold maxLen; omega) (by omega) (by have := HO.out.r.tch.size; simp; omega) ?_); intro v6 w6 hown6 hgrow6 _ hat6; refine Hid.out ?_)
            refine Lib.hid ?_
            have HP := Lib.hid (HO2.out.push (e := who ⟨co, la, ops, ab⟩ n 3 ad va 0) hown6 (((Below.refl _ (wr.setCell ⟨g2, ad.toNat, none⟩ (.int .u64 va))).alloc (Nat.le_refl _) _).alloc (by simp) _) hgrow6 hat6 hgl)
            clear hown6 hgrow6 hat6 HO HO2 r0 r1 r2 c2c k0 k1 k2 k3 k4 k5 k6 k7 k8 hoc1 hoc2
            go_wp2_with fail
            go_roundw
            case rel =>
              refine ⟨j + 1, by omega, by go_num, fun o ho => ?_, ?_⟩
              · rw [Htk2.out, List.mem_append] at ho
                rcases ho with ho | ho
                · exact Hok2.out o ho
                · simp at ho; subst ho; exact had
              · have h := HP.out
                rw [Hsn1.out, Hsn2.out]
                exact h
            case measure => simp [intOf]; omega
        · obtain rfl : j = ops.length := by omega
          have hok3 := Hok2.out
          rw [List.take_length] at hse hok3
          have HO := Lib.hid hse; clear hse
          have c2c := HO.out.r.blk.cell (i := 2) rfl
          have lb9 := HO.out.r.blk.lt
          go_wp2_with fail
          exact Hexit.out _ _ _ _ _ _ _ _ _ _ _ _ _ _ _ _ _ _ _ _ _ _ _ _ _ _ _ _ _ _ _ _ _ _ _ _ _ _ _ _ _ _ _ _ _ _ _ _ _ _ _ _ _ _ _ _ _ _ _ _ _ hok3 HO.out

end Go.Proofs.Ytgjbhcnadenojaa
