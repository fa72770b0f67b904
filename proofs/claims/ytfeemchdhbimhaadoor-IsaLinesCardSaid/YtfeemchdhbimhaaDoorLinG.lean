/- The document's Parse: one operation's try. Conditions: those stated in each theorem. -/
import Derived.Test.YtfeemchdhbimhaaDoorLinF
import Derived.Test.YtfeemchdhbimhaaDoorLinD
import Derived.Test.YtfeemchdhbimhaaDoorTxtR
import Derived.Deep.MidRow
namespace Go.Proofs.YtfeemchdhbimhaaDoor
open Go.RowKit Go.BigFrame

/-- What stands from region n on. -/
def fromReg (n : Nat) : Code → List Code
  | .seq (.region m ops d) b => if m == n then [.seq (.region m ops d) b] else fromReg n b
  | .seq a b => fromReg n a ++ fromReg n b
  | .loop c => fromReg n c
  | .block _ c => fromReg n c
  | .scope c => fromReg n c
  | .cond _ a b => fromReg n a ++ fromReg n b
  | _ => []
noncomputable def pCode : Code := (Tryd.f15.body).getD .skip
noncomputable def pOp : Code := ((fromReg 19 pCode)[0]?).getD .skip
noncomputable def pCmp : Code := ((fromReg 34 pCode)[0]?).getD .skip
noncomputable def pEnd : Code := ((fromReg 16 pCode)[0]?).getD .skip

/-- A number is put in its place, if there is one. -/
def fieldS (A : Bool) (k : Nat) (n : List Int) (p : In × Nat) : In × Nat := if A && decide (p.2 < n.length) then (p.1.set k (n.getD p.2 0), p.2 + 1) else p
theorem fill_fields (n : List Int) (m : Nat) (h0 : hasP m 0 = false) (x : In) : fillR n (placesP m) 0 x = (fieldS (hasP m 4) 4 n (fieldS (hasP m 3) 3 n (fieldS (hasP m 2) 2 n (fieldS (hasP m 1) 1 n (x, 0))))).1 := by
  have key : ∀ (ks : List Nat) (p : In × Nat), fillR n ks p.2 p.1 = (ks.foldl (fun p k => fieldS true k n p) p).1 := by
    intro ks
    induction ks with
    | nil => intro p; rfl
    | cons k ks ih =>
      intro p
      rw [fillR, List.foldl_cons, ← ih]
      unfold fieldS
      by_cases h : p.2 < n.length <;> simp [h]
  have h := key (placesP m) (x, 0)
  simp only at h
  rw [h]
  unfold placesP
  rw [show List.range 5 = [0, 1, 2, 3, 4] from rfl]
  have hf : ∀ (k : Nat) (p : In × Nat), fieldS false k n p = p := fun k p => rfl
  cases h1 : hasP m 1 <;> cases h2 : hasP m 2 <;> cases h3 : hasP m 3 <;> cases h4 : hasP m 4 <;> simp [List.filter, h0, h1, h2, h3, h4, hf]
theorem Tryd.loadInstr {w : World} {b : Nat} {L : List Value} (h : Holds w b 23 L) (hn : L.length = 5) : (loadVar 23 ⟨b, 0, none⟩).run Tryd.prog w = .ok (.agg L.toArray) w :=
  run_loadVar_mid w b 0 23 L _ h.full Tryd.underlying23 rfl (by rw [hn]; exact Tryd.sizeInstr)

/-- Where Parse stands behind the numbers. -/
structure PsS (w V : World) (b2 gw : Nat) (w0 : List UInt8) (nv : Value) (nl : List Int) : Prop where
  below : Below w.heap.size w V
  res : Holds V b2 23 [.int .i64 0, .int .i64 0, .int .i64 0, .int .i64 0, .int .i64 0]
  word : V.cell? ⟨gw, 0, none⟩ = some (.string ⟨w0.toArray⟩)
  gwl : gw < V.heap.size
  nums : V.ownsRow w.heap.size 3 1 nv nl.length (nl.map (.int .i64))
  b2lo : w.heap.size ≤ b2
theorem PsS.idle {w V V' : World} {b2 gw : Nat} {w0 : List UInt8} {nv : Value} {nl : List Int} (h : PsS w V b2 gw w0 nv nl) (hb : Below V.heap.size V V') : PsS w V' b2 gw w0 nv nl :=
  ⟨h.below.trans (hb.mono h.below.size), h.res.below hb, (World.cell?_of_block (a := ⟨gw, 0, none⟩) (hb.block _ h.gwl)).trans h.word, Nat.lt_of_lt_of_le h.gwl hb.size, owns_same h.nums (fun g e => hb.block g (owns_lt h.nums e).2), h.b2lo⟩
/-- A new box's cell is turned. -/
theorem PsS.set {w V : World} {b2 gw : Nat} {w0 : List UInt8} {nv : Value} {nl : List Int} (h : PsS w V b2 gw w0 nv nl) {p : Nat} (i : Nat) (v : Value) (h1 : b2 < p) (h2 : gw < p) (h3 : ∀ g, nv.ownBlock = some g → g < p) : PsS w (V.setCell ⟨p, i, none⟩ v) b2 gw w0 nv nl := by
  have hlo := h.b2lo
  have hne : ∀ k, k ≠ p → (V.setCell ⟨p, i, none⟩ v).heap[k]? = V.heap[k]? := fun k hk => Below.heap_setCell V ⟨p, i, none⟩ v k hk
  exact ⟨h.below.setCell (p := ⟨p, i, none⟩) (by show w.heap.size ≤ p; omega) v, h.res.same (hne b2 (by omega)), (World.cell?_of_block (a := ⟨gw, 0, none⟩) (hne gw (by omega))).trans h.word, by simpa using h.gwl, owns_same h.nums (fun g e => hne g (by have := h3 g e; omega)), hlo⟩

set_option maxRecDepth 100000 in
set_option maxHeartbeats 8000000 in
theorem parse_cmp {w W : World} {s w0 : List UInt8} {b2 gw wn wcp r p13 : Nat} {nv : Value} {nl : List Int} {y : In} (x1 x6 x7 x8 x9 x11 x12 x14 x15 x16 x17 x18 x19 x20 x21 x22 x23 x24 x25 x26 x27 x28 x29 x30 x31 x32 x33 x34 x35 x36 x37 x38 x39 x40 x41 x42 x43 x44 x45 x46 x47 x48 x49 x50 x51 x52 x53 x54 x55 x56 x57 x58 x59 x60 x61 x62 x63 x64 x65 x66 x67 x68 x69 x70 x71 x72 x73 x74 x75 x76 x77 x78 x79 x80 x81 x82 x83 x84 x85 x86 x87 x88 x89 x90 x91 x92 x93 x94 x95 x96 x97 x98 x99 x100 x101 x102 x103 x104 x105 x106 x107 x108 x109 x110 x111 x112 x113 x114 x115 x116 x117 x118 x119 x120 x121 x122 x123 x124 x125 x126 x127 x128 x129 x130 x131 x132 x133 x134 x135 x136 x137 x138 x139 x140 x141 x142 x143 x144 x145 x146 x147 x148 x149 x150 x151 x152 : Value) (Q0 : Exit → Act → World → Prop)
    (hy : y.Ok) (hps : PsS w W b2 gw w0 nv nl) (h13 : Holds W p13 23 y.cells)
    (hnext : ∀ (u147 u148 u149 u150 u151 : Value) (w' : World), PsS w w' b2 gw w0 nv nl → textP y ≠ s → Q0 .normal ⟨List.toArray (.string ⟨s.toArray⟩ :: x1 :: .pointer (some ⟨b2, 0, none⟩) :: .int .i64 0 :: .slice (some ⟨gw, 0, none⟩) wn wcp :: nv :: x6 :: x7 :: x8 :: x9 :: .int .i64 (r : Int) :: x11 :: x12 :: .pointer (some ⟨p13, 0, none⟩) :: x14 :: x15 :: x16 :: x17 :: x18 :: x19 :: x20 :: x21 :: x22 :: x23 :: x24 :: x25 :: x26 :: x27 :: x28 :: x29 :: x30 :: x31 :: x32 :: x33 :: x34 :: x35 :: x36 :: x37 :: x38 :: x39 :: x40 :: x41 :: x42 :: x43 :: x44 :: x45 :: x46 :: x47 :: x48 :: x49 :: x50 :: x51 :: x52 :: x53 :: x54 :: x55 :: x56 :: x57 :: x58 :: x59 :: x60 :: x61 :: x62 :: x63 :: x64 :: x65 :: x66 :: x67 :: x68 :: x69 :: x70 :: x71 :: x72 :: x73 :: x74 :: x75 :: x76 :: x77 :: x78 :: x79 :: x80 :: x81 :: x82 :: x83 :: x84 :: x85 :: x86 :: x87 :: x88 :: x89 :: x90 :: x91 :: x92 :: x93 :: x94 :: x95 :: x96 :: x97 :: x98 :: x99 :: x100 :: x101 :: x102 :: x103 :: x104 :: x105 :: x106 :: x107 :: x108 :: x109 :: x110 :: x111 :: x112 :: x113 :: x114 :: x115 :: x116 :: x117 :: x118 :: x119 :: x120 :: x121 :: x122 :: x123 :: x124 :: x125 :: x126 :: x127 :: x128 :: x129 :: x130 :: x131 :: x132 :: x133 :: x134 :: x135 :: x136 :: x137 :: x138 :: x139 :: x140 :: x141 :: x142 :: x143 :: x144 :: x145 :: x146 :: u147 :: u148 :: u149 :: u150 :: u151 :: x152 :: []), []⟩ w')
    (hret : ∀ (a : Act) (w' : World), textP y = s → a.defers = [] → a.tmps.getD 2 undef = .pointer (some ⟨b2, 0, none⟩) → a.tmps.getD 3 undef = .int .i64 0 → Holds w' b2 23 y.cells → Below w.heap.size w w' → Q0 .ret a w') :
    Code.wp Tryd.prog pCmp Q0 ⟨List.toArray (.string ⟨s.toArray⟩ :: x1 :: .pointer (some ⟨b2, 0, none⟩) :: .int .i64 0 :: .slice (some ⟨gw, 0, none⟩) wn wcp :: nv :: x6 :: x7 :: x8 :: x9 :: .int .i64 (r : Int) :: x11 :: x12 :: .pointer (some ⟨p13, 0, none⟩) :: x14 :: x15 :: x16 :: x17 :: x18 :: x19 :: x20 :: x21 :: x22 :: x23 :: x24 :: x25 :: x26 :: x27 :: x28 :: x29 :: x30 :: x31 :: x32 :: x33 :: x34 :: x35 :: x36 :: x37 :: x38 :: x39 :: x40 :: x41 :: x42 :: x43 :: x44 :: x45 :: x46 :: x47 :: x48 :: x49 :: x50 :: x51 :: x52 :: x53 :: x54 :: x55 :: x56 :: x57 :: x58 :: x59 :: x60 :: x61 :: x62 :: x63 :: x64 :: x65 :: x66 :: x67 :: x68 :: x69 :: x70 :: x71 :: x72 :: x73 :: x74 :: x75 :: x76 :: x77 :: x78 :: x79 :: x80 :: x81 :: x82 :: x83 :: x84 :: x85 :: x86 :: x87 :: x88 :: x89 :: x90 :: x91 :: x92 :: x93 :: x94 :: x95 :: x96 :: x97 :: x98 :: x99 :: x100 :: x101 :: x102 :: x103 :: x104 :: x105 :: x106 :: x107 :: x108 :: x109 :: x110 :: x111 :: x112 :: x113 :: x114 :: x115 :: x116 :: x117 :: x118 :: x119 :: x120 :: x121 :: x122 :: x123 :: x124 :: x125 :: x126 :: x127 :: x128 :: x129 :: x130 :: x131 :: x132 :: x133 :: x134 :: x135 :: x136 :: x137 :: x138 :: x139 :: x140 :: x141 :: x142 :: x143 :: x144 :: x145 :: x146 :: x147 :: x148 :: x149 :: x150 :: x151 :: x152 :: []), []⟩ W := by
  have HP := Lib.hid hps; clear hps
  have HT := Lib.hid (rtext_any y hy W)
  have H13 := Lib.hid h13; clear h13
  have Hnext := Lib.hid hnext; clear hnext
  have Hret := Lib.hid hret; clear hret
  obtain ⟨T, hT⟩ : ∃ T, textP y = T := ⟨_, rfl⟩
  rw [hT] at HT Hnext Hret
  clear hT hy
  obtain ⟨o, a, b, c, m⟩ := y
  simp only [In.val, In.cells] at HT H13 Hret
  have c0 := H13.out.cell (i := 0) rfl
  have c1 := H13.out.cell (i := 1) rfl
  have c2 := H13.out.cell (i := 2) rfl
  have c3 := H13.out.cell (i := 3) rfl
  have c4 := H13.out.cell (i := 4) rfl
  conv => arg 2; whnf
  by_cases hTs : T = s
  · have hcmp : (T == s) = true := by simpa using hTs
    have HTS := Lib.hid hTs; clear hTs
    go_wp2_with (first | (go_at_call 17; refine HT.out.mono ?_; rintro e w5 ⟨rfl, hb5⟩; have HP5 := Lib.hid (HP.out.idle hb5); have h5 := H13.out.below hb5; have d0 := h5.cell (i := 0) rfl; have d1 := h5.cell (i := 1) rfl; have d2 := h5.cell (i := 2) rfl; have d3 := h5.cell (i := 3) rfl; have d4 := h5.cell (i := 4) rfl; clear hb5 h5) | (refine wpList_store_mid rfl 23 (.tmp 2) (.tmp 71) rfl b2 0 #[.int .i64 o, .int .i64 a, .int .i64 b, .int .i64 c, .int .i64 m] rfl rfl (HP5.out.res.there (by simp)) Tryd.sizeInstr (by simp [Value.oneCell']) ?_) | (refine wpList_store_mid rfl 23 (.tmp 2) (.tmp 151) rfl b2 0 #[.int .i64 o, .int .i64 a, .int .i64 b, .int .i64 c, .int .i64 m] rfl rfl (HP5.out.res.there (by simp)) Tryd.sizeInstr (by simp [Value.oneCell']) ?_))
    refine Hret.out _ _ HTS.out ?_ ?_ ?_ (HP5.out.res.sets [.int .i64 o, .int .i64 a, .int .i64 b, .int .i64 c, .int .i64 m] 0) (below_cells HP5.out.b2lo _ 0 _ HP5.out.below) <;> rfl
  · have hcmp : (T == s) = false := by simpa using hTs
    have HTS := Lib.hid hTs; clear hTs
    go_wp2_with (first | (go_at_call 17; refine HT.out.mono ?_; rintro e w5 ⟨rfl, hb5⟩; have HP5 := Lib.hid (HP.out.idle hb5); clear hb5))
    exact Hnext.out _ _ _ _ _ _ HP5.out HTS.out

end Go.Proofs.YtfeemchdhbimhaaDoor
