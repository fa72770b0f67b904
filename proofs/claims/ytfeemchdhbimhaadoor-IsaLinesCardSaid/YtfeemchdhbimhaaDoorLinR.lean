/- The document's Parse: a raw line's try. Conditions: those stated in each theorem. -/
import Derived.Test.YtfeemchdhbimhaaDoorLinG
import Derived.Deep.RegionHeld3
namespace Go.Proofs.YtfeemchdhbimhaaDoor
open Go.RowKit Go.BigFrame
noncomputable def pRaw : Code := ((fromReg 13 pCode)[0]?).getD .skip

set_option maxRecDepth 100000 in
set_option maxHeartbeats 8000000 in
theorem parse_raw {w W : World} {s w0 : List UInt8} {b2 gw gn ncap : Nat} {n0 n1 n2 n3 n4 : Int} (x1 x4 x6 x7 x8 x9 x10 x11 x12 x13 x14 x15 x16 x17 x18 x19 x20 x21 x22 x23 x24 x25 x26 x27 x28 x29 x30 x31 x32 x33 x34 x35 x36 x37 x38 x39 x40 x41 x42 x43 x44 x45 x46 x47 x48 x49 x50 x51 x52 x53 x54 x55 x56 x57 x58 x59 x60 x61 x62 x63 x64 x65 x66 x67 x68 x69 x70 x71 x72 x73 x74 x75 x76 x77 x78 x79 x80 x81 x82 x83 x84 x85 x86 x87 x88 x89 x90 x91 x92 x93 x94 x95 x96 x97 x98 x99 x100 x101 x102 x103 x104 x105 x106 x107 x108 x109 x110 x111 x112 x113 x114 x115 x116 x117 x118 x119 x120 x121 x122 x123 x124 x125 x126 x127 x128 x129 x130 x131 x132 x133 x134 x135 x136 x137 x138 x139 x140 x141 x142 x143 x144 x145 x146 x147 x148 x149 x150 x151 x152 : Value) (Q0 : Exit → Act → World → Prop)
    (hok : (In.mk n0 n1 n2 n3 n4).Ok) (hps : PsS w W b2 gw w0 (.slice (some ⟨gn, 0, none⟩) 5 ncap) [n0, n1, n2, n3, n4])
    (hnext : ∀ (u9 u51 u52 u53 u54 u55 u56 u57 u58 u59 u60 u61 u62 u63 u64 u65 u66 u67 u68 u69 u70 u71 : Value) (w' : World), PsS w w' b2 gw w0 (.slice (some ⟨gn, 0, none⟩) 5 ncap) [n0, n1, n2, n3, n4] → textP ⟨n0, n1, n2, n3, n4⟩ ≠ s → Q0 .normal ⟨List.toArray (.string ⟨s.toArray⟩ :: x1 :: .pointer (some ⟨b2, 0, none⟩) :: .int .i64 0 :: x4 :: .slice (some ⟨gn, 0, none⟩) 5 ncap :: x6 :: x7 :: x8 :: u9 :: x10 :: x11 :: x12 :: x13 :: x14 :: x15 :: x16 :: x17 :: x18 :: x19 :: x20 :: x21 :: x22 :: x23 :: x24 :: x25 :: x26 :: x27 :: x28 :: x29 :: x30 :: x31 :: x32 :: x33 :: x34 :: x35 :: x36 :: x37 :: x38 :: x39 :: x40 :: x41 :: x42 :: x43 :: x44 :: x45 :: x46 :: x47 :: x48 :: x49 :: x50 :: u51 :: u52 :: u53 :: u54 :: u55 :: u56 :: u57 :: u58 :: u59 :: u60 :: u61 :: u62 :: u63 :: u64 :: u65 :: u66 :: u67 :: u68 :: u69 :: u70 :: u71 :: x72 :: x73 :: x74 :: x75 :: x76 :: x77 :: x78 :: x79 :: x80 :: x81 :: x82 :: x83 :: x84 :: x85 :: x86 :: x87 :: x88 :: x89 :: x90 :: x91 :: x92 :: x93 :: x94 :: x95 :: x96 :: x97 :: x98 :: x99 :: x100 :: x101 :: x102 :: x103 :: x104 :: x105 :: x106 :: x107 :: x108 :: x109 :: x110 :: x111 :: x112 :: x113 :: x114 :: x115 :: x116 :: x117 :: x118 :: x119 :: x120 :: x121 :: x122 :: x123 :: x124 :: x125 :: x126 :: x127 :: x128 :: x129 :: x130 :: x131 :: x132 :: x133 :: x134 :: x135 :: x136 :: x137 :: x138 :: x139 :: x140 :: x141 :: x142 :: x143 :: x144 :: x145 :: x146 :: x147 :: x148 :: x149 :: x150 :: x151 :: x152 :: []), []⟩ w')
    (hret : ∀ (a : Act) (w' : World), textP ⟨n0, n1, n2, n3, n4⟩ = s → a.defers = [] → a.tmps.getD 2 undef = .pointer (some ⟨b2, 0, none⟩) → a.tmps.getD 3 undef = .int .i64 0 → Holds w' b2 23 [.int .i64 n0, .int .i64 n1, .int .i64 n2, .int .i64 n3, .int .i64 n4] → Below w.heap.size w w' → Q0 .ret a w') :
    Code.wp Tryd.prog pRaw Q0 ⟨List.toArray (.string ⟨s.toArray⟩ :: x1 :: .pointer (some ⟨b2, 0, none⟩) :: .int .i64 0 :: x4 :: .slice (some ⟨gn, 0, none⟩) 5 ncap :: x6 :: x7 :: x8 :: x9 :: x10 :: x11 :: x12 :: x13 :: x14 :: x15 :: x16 :: x17 :: x18 :: x19 :: x20 :: x21 :: x22 :: x23 :: x24 :: x25 :: x26 :: x27 :: x28 :: x29 :: x30 :: x31 :: x32 :: x33 :: x34 :: x35 :: x36 :: x37 :: x38 :: x39 :: x40 :: x41 :: x42 :: x43 :: x44 :: x45 :: x46 :: x47 :: x48 :: x49 :: x50 :: x51 :: x52 :: x53 :: x54 :: x55 :: x56 :: x57 :: x58 :: x59 :: x60 :: x61 :: x62 :: x63 :: x64 :: x65 :: x66 :: x67 :: x68 :: x69 :: x70 :: x71 :: x72 :: x73 :: x74 :: x75 :: x76 :: x77 :: x78 :: x79 :: x80 :: x81 :: x82 :: x83 :: x84 :: x85 :: x86 :: x87 :: x88 :: x89 :: x90 :: x91 :: x92 :: x93 :: x94 :: x95 :: x96 :: x97 :: x98 :: x99 :: x100 :: x101 :: x102 :: x103 :: x104 :: x105 :: x106 :: x107 :: x108 :: x109 :: x110 :: x111 :: x112 :: x113 :: x114 :: x115 :: x116 :: x117 :: x118 :: x119 :: x120 :: x121 :: x122 :: x123 :: x124 :: x125 :: x126 :: x127 :: x128 :: x129 :: x130 :: x131 :: x132 :: x133 :: x134 :: x135 :: x136 :: x137 :: x138 :: x139 :: x140 :: x141 :: x142 :: x143 :: x144 :: x145 :: x146 :: x147 :: x148 :: x149 :: x150 :: x151 :: x152 :: []), []⟩ W := by
  have HP := Lib.hid hps; clear hps
  have HOK := Lib.hid hok; clear hok
  have Hnext := Lib.hid hnext; clear hnext
  have Hret := Lib.hid hret; clear hret
  have HK : Hid (∀ V, PsS w V b2 gw w0 (.slice (some ⟨gn, 0, none⟩) 5 ncap) [n0, n1, n2, n3, n4] → V.cell? ⟨gn, 0, none⟩ = some (.int .i64 n0) ∧ V.cell? ⟨gn, 1, none⟩ = some (.int .i64 n1) ∧ V.cell? ⟨gn, 2, none⟩ = some (.int .i64 n2) ∧ V.cell? ⟨gn, 3, none⟩ = some (.int .i64 n3) ∧ V.cell? ⟨gn, 4, none⟩ = some (.int .i64 n4)) := Lib.hid (fun V h => ⟨(owns_cell h.nums (g := gn) rfl (j := 0) rfl).1, (owns_cell h.nums (g := gn) rfl (j := 1) rfl).1, (owns_cell h.nums (g := gn) rfl (j := 2) rfl).1, (owns_cell h.nums (g := gn) rfl (j := 3) rfl).1, (owns_cell h.nums (g := gn) rfl (j := 4) rfl).1⟩)
  conv => arg 2; whnf
  go_upto_region 13 with fail
  have hD : PsS w W.drew b2 gw w0 (.slice (some ⟨gn, 0, none⟩) 5 ncap) [n0, n1, n2, n3, n4] := HP.out.idle (below_drew1 (Below.refl _ W))
  go_region_held3 (fun V => V.cell? ⟨gn, 0, none⟩ = some (.int .i64 n0) ∧ V.cell? ⟨gn, 1, none⟩ = some (.int .i64 n1) ∧ V.cell? ⟨gn, 2, none⟩ = some (.int .i64 n2) ∧ V.cell? ⟨gn, 3, none⟩ = some (.int .i64 n3) ∧ V.cell? ⟨gn, 4, none⟩ = some (.int .i64 n4)) (first | with_reducible exact HK.out _ hD | with_reducible exact HK.out _ (hD.idle ((Below.refl _ _).alloc (Nat.le_refl _) _))) (first | fail)
  clear hD HK
  have HP9 := Lib.hid ((HP.out.idle ((Below.refl _ W).alloc (Nat.le_refl _) (.cells #[.int .i64 n0, .int .i64 n1, .int .i64 n2, .int .i64 n3, .int .i64 n4] 23))).idle (below_drew1 (Below.refl _ _)))
  have H9 : Hid (Holds (W.alloc (.cells #[.int .i64 n0, .int .i64 n1, .int .i64 n2, .int .i64 n3, .int .i64 n4] 23)).drew W.heap.size 23 [.int .i64 n0, .int .i64 n1, .int .i64 n2, .int .i64 n3, .int .i64 n4]) := Lib.hid (Holds.new W _ _).drew
  generalize (W.alloc (.cells #[.int .i64 n0, .int .i64 n1, .int .i64 n2, .int .i64 n3, .int .i64 n4] 23)).drew = w9 at *
  clear HP
  have c0 := H9.out.cell (i := 0) rfl
  have c1 := H9.out.cell (i := 1) rfl
  have c2 := H9.out.cell (i := 2) rfl
  have c3 := H9.out.cell (i := 3) rfl
  have c4 := H9.out.cell (i := 4) rfl
  have ht := rtext_any _ HOK.out w9
  obtain ⟨T, hT⟩ : ∃ T, textP ⟨n0, n1, n2, n3, n4⟩ = T := ⟨_, rfl⟩
  rw [hT] at ht Hnext Hret
  simp only [In.val] at ht
  have HT := Lib.hid ht
  clear ht hT
  by_cases hTs : T = s
  · have hcmp : (T == s) = true := by simpa using hTs
    have HTS := Lib.hid hTs
    clear hTs
    go_wp2_with (first | (go_at_call 17; refine HT.out.mono ?_; rintro e w5 ⟨rfl, hb5⟩; have HP5 := Lib.hid (HP9.out.idle hb5); have h5 := H9.out.below hb5; have d0 := h5.cell (i := 0) rfl; have d1 := h5.cell (i := 1) rfl; have d2 := h5.cell (i := 2) rfl; have d3 := h5.cell (i := 3) rfl; have d4 := h5.cell (i := 4) rfl; clear hb5 h5) | (refine wpList_store_mid rfl 23 (.tmp 2) (.tmp 71) rfl b2 0 #[.int .i64 n0, .int .i64 n1, .int .i64 n2, .int .i64 n3, .int .i64 n4] rfl rfl (HP5.out.res.there (by simp)) Tryd.sizeInstr (by simp [Value.oneCell']) ?_))
    refine Hret.out _ _ HTS.out ?_ ?_ ?_ (HP5.out.res.sets [.int .i64 n0, .int .i64 n1, .int .i64 n2, .int .i64 n3, .int .i64 n4] 0) (below_cells HP5.out.b2lo _ 0 _ HP5.out.below) <;> rfl
  · have hcmp : (T == s) = false := by simpa using hTs
    have HTS := Lib.hid hTs
    clear hTs
    go_wp2_with (first | (go_at_call 17; refine HT.out.mono ?_; rintro e w5 ⟨rfl, hb5⟩; have HP5 := Lib.hid (HP9.out.idle hb5); clear hb5))
    exact Hnext.out _ _ _ _ _ _ _ _ _ _ _ _ _ _ _ _ _ _ _ _ _ _ _ HP5.out HTS.out

end Go.Proofs.YtfeemchdhbimhaaDoor
