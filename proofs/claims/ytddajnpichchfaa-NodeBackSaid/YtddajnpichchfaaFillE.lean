/- Fill: what it answers, in whatever order. Conditions: those stated in each theorem. -/
import Derived.Test.YtddajnpichchfaaFillR
namespace Go.Proofs.Ytddajnpichchfaa
open Go.RowKit
attribute [local simp] wide_fn

theorem setCells_drew {b : Nat} : ∀ (vs : List Value) (o : Nat) (w : World), w.drew.setCells b o vs = (w.setCells b o vs).drew
  | [], _, _ => rfl
  | v :: r, o, w => setCells_drew r (o + 1) (w.setCell ⟨b, o, none⟩ v)

theorem cell_drew (w : World) (a : Addr) : w.drew.cell? a = w.cell? a := rfl

def FillEnd (n : Nat) (Q : Exit → Act → World → Prop) (fuel : Nat) (listed : Array Bool) (a : Act) (w : World) : Prop :=
  wpAnyIn Fence.wide n Try.prog .any #[{ dst := some 55, op := Op.load 42 (Operand.tmp 14), type := 42, pos := "l1.go:56", after := #[], guard := none },
      { dst := some 56, op := Op.fieldAddr 42 (Operand.tmp 14) 1, type := 0, pos := "l1.go:56", after := #[{ on := 4, ground := Ground.gcOnly Departure.lateStores }], guard := none },
      { dst := some 57, op := Op.load 3 (Operand.tmp 56), type := 3, pos := "l1.go:56", after := #[{ on := 1, ground := Ground.data }, { on := 4, ground := Ground.gcOnly Departure.lateStores }], guard := none },
      { dst := some 58, op := Op.binOp BinOp.neq 3 (Operand.tmp 57) (Operand.const (Value.int IntKind.i64 0)) 3, type := 4, pos := "l1.go:56", after := #[{ on := 2, ground := Ground.data }, { on := 4, ground := Ground.gcOnly Departure.lateStores }], guard := none },
      { dst := none, op := Op.store 42 (Operand.tmp 8) (Operand.tmp 55), type := 0, pos := "l1.go:56", after := #[{ on := 0, ground := Ground.data }, { on := 0, ground := Ground.phase }, { on := 1, ground := Ground.textOnly Departure.lateStores }, { on := 2, ground := Ground.textOnly Departure.lateStores }, { on := 3, ground := Ground.textOnly Departure.lateStores }], guard := none },
      { dst := some 9, op := Op.assign (Operand.tmp 58), type := 4, pos := "l1.go:56", after := #[{ on := 3, ground := Ground.data }, { on := 4, ground := Ground.chain }, { on := 0, ground := Ground.phase }, { on := 1, ground := Ground.phase }, { on := 2, ground := Ground.phase }, { on := 3, ground := Ground.phase }, { on := 4, ground := Ground.phase }], guard := none },
      { dst := some 10, op := Op.assign (Operand.const (Value.int IntKind.i64 0)), type := 24, pos := "l1.go:56", after := #[{ on := 5, ground := Ground.chain }, { on := 0, ground := Ground.phase }, { on := 1, ground := Ground.phase }, { on := 2, ground := Ground.phase }, { on := 3, ground := Ground.phase }, { on := 4, ground := Ground.phase }, { on := 5, ground := Ground.phase }], guard := none }] Q fuel listed a w

/-- What the end of Fill stands on. -/
structure EndAt (w5 : World) (rs nd : Nat) (e : Ent) (hd : Bool) : Prop where
  row : w5.rangeAt nd 0 e.cells
  there : w5.there rs 0 21
  row2 : (w5.setCells rs 0 e.cells).cell? ⟨nd, 1, none⟩ = some (.int .i64 e.state)
  had : (e.state != 0) = hd
theorem EndAt.row1 {w5 : World} {rs nd : Nat} {e : Ent} {hd : Bool} (h : EndAt w5 rs nd e hd) : w5.cell? ⟨nd, 1, none⟩ = some (.int .i64 e.state) := h.row 1 _ rfl

set_option maxRecDepth 100000 in
set_option maxHeartbeats 1000000 in
theorem fe_012345 (n rs nd : Nat) (e : Ent) (hd : Bool) (x0 x1 x2 x3 x4 x5 x6 x7 _x9 x10 x11 x12 x13 x15 x16 x17 x18 x19 x20 x21 x22 x23 x24 x25 x26 x27 x28 x29 x30 x31 x32 x33 x34 x35 x36 x37 x38 x39 x40 x41 x42 x43 x44 x45 x46 x47 x48 x49 x50 x51 x52 x53 x54 _x55 _x56 _x57 _x58 : Value) (Q : Exit → Act → World → Prop) (w5 : World) (hE : EndAt w5 rs nd e hd) (hQ : Q .normal ({ tmps := #[x0, x1, x2, x3, x4, x5, x6, x7, .pointer (some ⟨rs, 0, none⟩), .bool hd, .int .i64 0, x11, x12, x13, .pointer (some ⟨nd, 0, none⟩), x15, x16, x17, x18, x19, x20, x21, x22, x23, x24, x25, x26, x27, x28, x29, x30, x31, x32, x33, x34, x35, x36, x37, x38, x39, x40, x41, x42, x43, x44, x45, x46, x47, x48, x49, x50, x51, x52, x53, x54, .agg e.cells.toArray, .pointer (some ⟨nd, 1, none⟩), .int .i64 e.state, .bool hd], defers := [] }) (w5.setCells rs 0 e.cells)) :
    FillEnd n Q 1 #[true, true, true, true, true, true, false] ({ tmps := #[x0, x1, x2, x3, x4, x5, x6, x7, .pointer (some ⟨rs, 0, none⟩), .bool hd, x10, x11, x12, x13, .pointer (some ⟨nd, 0, none⟩), x15, x16, x17, x18, x19, x20, x21, x22, x23, x24, x25, x26, x27, x28, x29, x30, x31, x32, x33, x34, x35, x36, x37, x38, x39, x40, x41, x42, x43, x44, x45, x46, x47, x48, x49, x50, x51, x52, x53, x54, .agg e.cells.toArray, .pointer (some ⟨nd, 1, none⟩), .int .i64 e.state, .bool hd], defers := [] }) (w5.setCells rs 0 e.cells) := by
  have HQ := Lib.hid hQ; clear hQ
  have c1 := hE.row1
  have c2 := hE.row2
  have hb := hE.had
  have HE := Lib.hid hE; clear hE
  unfold FillEnd
  refine wpAnyIn_ready (rs := [6]) (by kernel_rfl) (by simp) ?_
  refine AllReadyIn.cons rfl (fun K hK => ?_) ?_
  · go_simp
    refine hK _ _ ?_; clear hK K
    refine wpAnyIn_done (by kernel_rfl) ?_ _
    exact HQ.out
  exact AllReadyIn.nil

set_option maxRecDepth 100000 in
set_option maxHeartbeats 1000000 in
theorem fe_01234 (n rs nd : Nat) (e : Ent) (hd : Bool) (x0 x1 x2 x3 x4 x5 x6 x7 x9 x10 x11 x12 x13 x15 x16 x17 x18 x19 x20 x21 x22 x23 x24 x25 x26 x27 x28 x29 x30 x31 x32 x33 x34 x35 x36 x37 x38 x39 x40 x41 x42 x43 x44 x45 x46 x47 x48 x49 x50 x51 x52 x53 x54 x55 x56 x57 x58 : Value) (Q : Exit → Act → World → Prop) (w5 : World) (hE : EndAt w5 rs nd e hd) (hQ : Q .normal ({ tmps := #[x0, x1, x2, x3, x4, x5, x6, x7, .pointer (some ⟨rs, 0, none⟩), .bool hd, .int .i64 0, x11, x12, x13, .pointer (some ⟨nd, 0, none⟩), x15, x16, x17, x18, x19, x20, x21, x22, x23, x24, x25, x26, x27, x28, x29, x30, x31, x32, x33, x34, x35, x36, x37, x38, x39, x40, x41, x42, x43, x44, x45, x46, x47, x48, x49, x50, x51, x52, x53, x54, .agg e.cells.toArray, .pointer (some ⟨nd, 1, none⟩), .int .i64 e.state, .bool hd], defers := [] }) (w5.setCells rs 0 e.cells)) :
    FillEnd n Q 2 #[true, true, true, true, true, false, false] ({ tmps := #[x0, x1, x2, x3, x4, x5, x6, x7, .pointer (some ⟨rs, 0, none⟩), x9, x10, x11, x12, x13, .pointer (some ⟨nd, 0, none⟩), x15, x16, x17, x18, x19, x20, x21, x22, x23, x24, x25, x26, x27, x28, x29, x30, x31, x32, x33, x34, x35, x36, x37, x38, x39, x40, x41, x42, x43, x44, x45, x46, x47, x48, x49, x50, x51, x52, x53, x54, .agg e.cells.toArray, .pointer (some ⟨nd, 1, none⟩), .int .i64 e.state, .bool hd], defers := [] }) (w5.setCells rs 0 e.cells) := by
  have HQ := Lib.hid hQ; clear hQ
  have c1 := hE.row1
  have c2 := hE.row2
  have hb := hE.had
  have HE := Lib.hid hE; clear hE
  have HN5 := Lib.hid (fe_012345 n rs nd e hd x0 x1 x2 x3 x4 x5 x6 x7 x9 x10 x11 x12 x13 x15 x16 x17 x18 x19 x20 x21 x22 x23 x24 x25 x26 x27 x28 x29 x30 x31 x32 x33 x34 x35 x36 x37 x38 x39 x40 x41 x42 x43 x44 x45 x46 x47 x48 x49 x50 x51 x52 x53 x54 x55 x56 x57 x58 Q w5 HE.out HQ.out)
  unfold FillEnd
  refine wpAnyIn_ready (rs := [5]) (by kernel_rfl) (by simp) ?_
  refine AllReadyIn.cons rfl (fun K hK => ?_) ?_
  · go_simp
    refine hK _ _ ?_; clear hK K
    exact HN5.out
  exact AllReadyIn.nil

set_option maxRecDepth 100000 in
set_option maxHeartbeats 1000000 in
theorem fe_0123 (n rs nd : Nat) (e : Ent) (hd : Bool) (x0 x1 x2 x3 x4 x5 x6 x7 x9 x10 x11 x12 x13 x15 x16 x17 x18 x19 x20 x21 x22 x23 x24 x25 x26 x27 x28 x29 x30 x31 x32 x33 x34 x35 x36 x37 x38 x39 x40 x41 x42 x43 x44 x45 x46 x47 x48 x49 x50 x51 x52 x53 x54 x55 x56 x57 x58 : Value) (Q : Exit → Act → World → Prop) (w5 : World) (hE : EndAt w5 rs nd e hd) (hQ : Q .normal ({ tmps := #[x0, x1, x2, x3, x4, x5, x6, x7, .pointer (some ⟨rs, 0, none⟩), .bool hd, .int .i64 0, x11, x12, x13, .pointer (some ⟨nd, 0, none⟩), x15, x16, x17, x18, x19, x20, x21, x22, x23, x24, x25, x26, x27, x28, x29, x30, x31, x32, x33, x34, x35, x36, x37, x38, x39, x40, x41, x42, x43, x44, x45, x46, x47, x48, x49, x50, x51, x52, x53, x54, .agg e.cells.toArray, .pointer (some ⟨nd, 1, none⟩), .int .i64 e.state, .bool hd], defers := [] }) (w5.setCells rs 0 e.cells)) :
    FillEnd n Q 3 #[true, true, true, true, false, false, false] ({ tmps := #[x0, x1, x2, x3, x4, x5, x6, x7, .pointer (some ⟨rs, 0, none⟩), x9, x10, x11, x12, x13, .pointer (some ⟨nd, 0, none⟩), x15, x16, x17, x18, x19, x20, x21, x22, x23, x24, x25, x26, x27, x28, x29, x30, x31, x32, x33, x34, x35, x36, x37, x38, x39, x40, x41, x42, x43, x44, x45, x46, x47, x48, x49, x50, x51, x52, x53, x54, .agg e.cells.toArray, .pointer (some ⟨nd, 1, none⟩), .int .i64 e.state, .bool hd], defers := [] }) w5 := by
  have HQ := Lib.hid hQ; clear hQ
  have c1 := hE.row1
  have c2 := hE.row2
  have hb := hE.had
  have HE := Lib.hid hE; clear hE
  have HN4 := Lib.hid (fe_01234 n rs nd e hd x0 x1 x2 x3 x4 x5 x6 x7 x9 x10 x11 x12 x13 x15 x16 x17 x18 x19 x20 x21 x22 x23 x24 x25 x26 x27 x28 x29 x30 x31 x32 x33 x34 x35 x36 x37 x38 x39 x40 x41 x42 x43 x44 x45 x46 x47 x48 x49 x50 x51 x52 x53 x54 x55 x56 x57 x58 Q w5 HE.out HQ.out)
  unfold FillEnd
  refine wpAnyIn_ready (rs := [4]) (by kernel_rfl) (by simp) ?_
  refine AllReadyIn.cons rfl (fun K hK => ?_) ?_
  · refine step_store_in rfl 42 (.tmp 8) (.tmp 55) rfl rs 0 e.cells.toArray rfl rfl HE.out.there Try.size42 (oneEnt _) ?_
    refine hK _ _ ?_; clear hK K
    exact HN4.out
  exact AllReadyIn.nil

set_option maxRecDepth 100000 in
set_option maxHeartbeats 1000000 in
theorem fe_0124 (n rs nd : Nat) (e : Ent) (hd : Bool) (x0 x1 x2 x3 x4 x5 x6 x7 x9 x10 x11 x12 x13 x15 x16 x17 x18 x19 x20 x21 x22 x23 x24 x25 x26 x27 x28 x29 x30 x31 x32 x33 x34 x35 x36 x37 x38 x39 x40 x41 x42 x43 x44 x45 x46 x47 x48 x49 x50 x51 x52 x53 x54 x55 x56 x57 x58 : Value) (Q : Exit → Act → World → Prop) (w5 : World) (hE : EndAt w5 rs nd e hd) (hQ : Q .normal ({ tmps := #[x0, x1, x2, x3, x4, x5, x6, x7, .pointer (some ⟨rs, 0, none⟩), .bool hd, .int .i64 0, x11, x12, x13, .pointer (some ⟨nd, 0, none⟩), x15, x16, x17, x18, x19, x20, x21, x22, x23, x24, x25, x26, x27, x28, x29, x30, x31, x32, x33, x34, x35, x36, x37, x38, x39, x40, x41, x42, x43, x44, x45, x46, x47, x48, x49, x50, x51, x52, x53, x54, .agg e.cells.toArray, .pointer (some ⟨nd, 1, none⟩), .int .i64 e.state, .bool hd], defers := [] }) (w5.setCells rs 0 e.cells)) :
    FillEnd n Q 3 #[true, true, true, false, true, false, false] ({ tmps := #[x0, x1, x2, x3, x4, x5, x6, x7, .pointer (some ⟨rs, 0, none⟩), x9, x10, x11, x12, x13, .pointer (some ⟨nd, 0, none⟩), x15, x16, x17, x18, x19, x20, x21, x22, x23, x24, x25, x26, x27, x28, x29, x30, x31, x32, x33, x34, x35, x36, x37, x38, x39, x40, x41, x42, x43, x44, x45, x46, x47, x48, x49, x50, x51, x52, x53, x54, .agg e.cells.toArray, .pointer (some ⟨nd, 1, none⟩), .int .i64 e.state, x58], defers := [] }) (w5.setCells rs 0 e.cells) := by
  have HQ := Lib.hid hQ; clear hQ
  have c1 := hE.row1
  have c2 := hE.row2
  have hb := hE.had
  have HE := Lib.hid hE; clear hE
  have HN3 := Lib.hid (fe_01234 n rs nd e hd x0 x1 x2 x3 x4 x5 x6 x7 x9 x10 x11 x12 x13 x15 x16 x17 x18 x19 x20 x21 x22 x23 x24 x25 x26 x27 x28 x29 x30 x31 x32 x33 x34 x35 x36 x37 x38 x39 x40 x41 x42 x43 x44 x45 x46 x47 x48 x49 x50 x51 x52 x53 x54 x55 x56 x57 x58 Q w5 HE.out HQ.out)
  unfold FillEnd
  refine wpAnyIn_ready (rs := [3]) (by kernel_rfl) (by simp) ?_
  refine AllReadyIn.cons rfl (fun K hK => ?_) ?_
  · go_simp
    refine hK _ _ ?_; clear hK K
    exact HN3.out
  exact AllReadyIn.nil

set_option maxRecDepth 100000 in
set_option maxHeartbeats 1000000 in
theorem fe_012 (n rs nd : Nat) (e : Ent) (hd : Bool) (x0 x1 x2 x3 x4 x5 x6 x7 x9 x10 x11 x12 x13 x15 x16 x17 x18 x19 x20 x21 x22 x23 x24 x25 x26 x27 x28 x29 x30 x31 x32 x33 x34 x35 x36 x37 x38 x39 x40 x41 x42 x43 x44 x45 x46 x47 x48 x49 x50 x51 x52 x53 x54 x55 x56 x57 x58 : Value) (Q : Exit → Act → World → Prop) (w5 : World) (hE : EndAt w5 rs nd e hd) (hQ : Q .normal ({ tmps := #[x0, x1, x2, x3, x4, x5, x6, x7, .pointer (some ⟨rs, 0, none⟩), .bool hd, .int .i64 0, x11, x12, x13, .pointer (some ⟨nd, 0, none⟩), x15, x16, x17, x18, x19, x20, x21, x22, x23, x24, x25, x26, x27, x28, x29, x30, x31, x32, x33, x34, x35, x36, x37, x38, x39, x40, x41, x42, x43, x44, x45, x46, x47, x48, x49, x50, x51, x52, x53, x54, .agg e.cells.toArray, .pointer (some ⟨nd, 1, none⟩), .int .i64 e.state, .bool hd], defers := [] }) (w5.setCells rs 0 e.cells)) :
    FillEnd n Q 4 #[true, true, true, false, false, false, false] ({ tmps := #[x0, x1, x2, x3, x4, x5, x6, x7, .pointer (some ⟨rs, 0, none⟩), x9, x10, x11, x12, x13, .pointer (some ⟨nd, 0, none⟩), x15, x16, x17, x18, x19, x20, x21, x22, x23, x24, x25, x26, x27, x28, x29, x30, x31, x32, x33, x34, x35, x36, x37, x38, x39, x40, x41, x42, x43, x44, x45, x46, x47, x48, x49, x50, x51, x52, x53, x54, .agg e.cells.toArray, .pointer (some ⟨nd, 1, none⟩), .int .i64 e.state, x58], defers := [] }) w5 := by
  have HQ := Lib.hid hQ; clear hQ
  have c1 := hE.row1
  have c2 := hE.row2
  have hb := hE.had
  have HE := Lib.hid hE; clear hE
  have HN3 := Lib.hid (fe_0123 n rs nd e hd x0 x1 x2 x3 x4 x5 x6 x7 x9 x10 x11 x12 x13 x15 x16 x17 x18 x19 x20 x21 x22 x23 x24 x25 x26 x27 x28 x29 x30 x31 x32 x33 x34 x35 x36 x37 x38 x39 x40 x41 x42 x43 x44 x45 x46 x47 x48 x49 x50 x51 x52 x53 x54 x55 x56 x57 x58 Q w5 HE.out HQ.out)
  have HN4 := Lib.hid (fe_0124 n rs nd e hd x0 x1 x2 x3 x4 x5 x6 x7 x9 x10 x11 x12 x13 x15 x16 x17 x18 x19 x20 x21 x22 x23 x24 x25 x26 x27 x28 x29 x30 x31 x32 x33 x34 x35 x36 x37 x38 x39 x40 x41 x42 x43 x44 x45 x46 x47 x48 x49 x50 x51 x52 x53 x54 x55 x56 x57 x58 Q w5 HE.out HQ.out)
  unfold FillEnd
  refine wpAnyIn_ready (rs := [3, 4]) (by kernel_rfl) (by simp) ?_
  refine AllReadyIn.cons rfl (fun K hK => ?_) ?_
  · go_simp
    refine hK _ _ ?_; clear hK K
    exact HN3.out
  refine AllReadyIn.cons rfl (fun K hK => ?_) ?_
  · refine step_store_in rfl 42 (.tmp 8) (.tmp 55) rfl rs 0 e.cells.toArray rfl rfl HE.out.there Try.size42 (oneEnt _) ?_
    refine hK _ _ ?_; clear hK K
    exact HN4.out
  exact AllReadyIn.nil

set_option maxRecDepth 100000 in
set_option maxHeartbeats 1000000 in
theorem fe_014 (n rs nd : Nat) (e : Ent) (hd : Bool) (x0 x1 x2 x3 x4 x5 x6 x7 x9 x10 x11 x12 x13 x15 x16 x17 x18 x19 x20 x21 x22 x23 x24 x25 x26 x27 x28 x29 x30 x31 x32 x33 x34 x35 x36 x37 x38 x39 x40 x41 x42 x43 x44 x45 x46 x47 x48 x49 x50 x51 x52 x53 x54 x55 x56 x57 x58 : Value) (Q : Exit → Act → World → Prop) (w5 : World) (hE : EndAt w5 rs nd e hd) (hQ : Q .normal ({ tmps := #[x0, x1, x2, x3, x4, x5, x6, x7, .pointer (some ⟨rs, 0, none⟩), .bool hd, .int .i64 0, x11, x12, x13, .pointer (some ⟨nd, 0, none⟩), x15, x16, x17, x18, x19, x20, x21, x22, x23, x24, x25, x26, x27, x28, x29, x30, x31, x32, x33, x34, x35, x36, x37, x38, x39, x40, x41, x42, x43, x44, x45, x46, x47, x48, x49, x50, x51, x52, x53, x54, .agg e.cells.toArray, .pointer (some ⟨nd, 1, none⟩), .int .i64 e.state, .bool hd], defers := [] }) (w5.setCells rs 0 e.cells)) :
    FillEnd n Q 4 #[true, true, false, false, true, false, false] ({ tmps := #[x0, x1, x2, x3, x4, x5, x6, x7, .pointer (some ⟨rs, 0, none⟩), x9, x10, x11, x12, x13, .pointer (some ⟨nd, 0, none⟩), x15, x16, x17, x18, x19, x20, x21, x22, x23, x24, x25, x26, x27, x28, x29, x30, x31, x32, x33, x34, x35, x36, x37, x38, x39, x40, x41, x42, x43, x44, x45, x46, x47, x48, x49, x50, x51, x52, x53, x54, .agg e.cells.toArray, .pointer (some ⟨nd, 1, none⟩), x57, x58], defers := [] }) (w5.setCells rs 0 e.cells) := by
  have HQ := Lib.hid hQ; clear hQ
  have c1 := hE.row1
  have c2 := hE.row2
  have hb := hE.had
  have HE := Lib.hid hE; clear hE
  have HN2 := Lib.hid (fe_0124 n rs nd e hd x0 x1 x2 x3 x4 x5 x6 x7 x9 x10 x11 x12 x13 x15 x16 x17 x18 x19 x20 x21 x22 x23 x24 x25 x26 x27 x28 x29 x30 x31 x32 x33 x34 x35 x36 x37 x38 x39 x40 x41 x42 x43 x44 x45 x46 x47 x48 x49 x50 x51 x52 x53 x54 x55 x56 x57 x58 Q w5 HE.out HQ.out)
  unfold FillEnd
  refine wpAnyIn_ready (rs := [2]) (by kernel_rfl) (by simp) ?_
  refine AllReadyIn.cons rfl (fun K hK => ?_) ?_
  · go_simp
    refine hK _ _ ?_; clear hK K
    exact HN2.out
  exact AllReadyIn.nil

set_option maxRecDepth 100000 in
set_option maxHeartbeats 1000000 in
theorem fe_123 (n rs nd : Nat) (e : Ent) (hd : Bool) (x0 x1 x2 x3 x4 x5 x6 x7 x9 x10 x11 x12 x13 x15 x16 x17 x18 x19 x20 x21 x22 x23 x24 x25 x26 x27 x28 x29 x30 x31 x32 x33 x34 x35 x36 x37 x38 x39 x40 x41 x42 x43 x44 x45 x46 x47 x48 x49 x50 x51 x52 x53 x54 x55 x56 x57 x58 : Value) (Q : Exit → Act → World → Prop) (w5 : World) (hE : EndAt w5 rs nd e hd) (hQ : Q .normal ({ tmps := #[x0, x1, x2, x3, x4, x5, x6, x7, .pointer (some ⟨rs, 0, none⟩), .bool hd, .int .i64 0, x11, x12, x13, .pointer (some ⟨nd, 0, none⟩), x15, x16, x17, x18, x19, x20, x21, x22, x23, x24, x25, x26, x27, x28, x29, x30, x31, x32, x33, x34, x35, x36, x37, x38, x39, x40, x41, x42, x43, x44, x45, x46, x47, x48, x49, x50, x51, x52, x53, x54, .agg e.cells.toArray, .pointer (some ⟨nd, 1, none⟩), .int .i64 e.state, .bool hd], defers := [] }) (w5.setCells rs 0 e.cells)) :
    FillEnd n Q 4 #[false, true, true, true, false, false, false] ({ tmps := #[x0, x1, x2, x3, x4, x5, x6, x7, .pointer (some ⟨rs, 0, none⟩), x9, x10, x11, x12, x13, .pointer (some ⟨nd, 0, none⟩), x15, x16, x17, x18, x19, x20, x21, x22, x23, x24, x25, x26, x27, x28, x29, x30, x31, x32, x33, x34, x35, x36, x37, x38, x39, x40, x41, x42, x43, x44, x45, x46, x47, x48, x49, x50, x51, x52, x53, x54, x55, .pointer (some ⟨nd, 1, none⟩), .int .i64 e.state, .bool hd], defers := [] }) w5 := by
  have HQ := Lib.hid hQ; clear hQ
  have c1 := hE.row1
  have c2 := hE.row2
  have hb := hE.had
  have HE := Lib.hid hE; clear hE
  have HN0 := Lib.hid (fe_0123 n rs nd e hd x0 x1 x2 x3 x4 x5 x6 x7 x9 x10 x11 x12 x13 x15 x16 x17 x18 x19 x20 x21 x22 x23 x24 x25 x26 x27 x28 x29 x30 x31 x32 x33 x34 x35 x36 x37 x38 x39 x40 x41 x42 x43 x44 x45 x46 x47 x48 x49 x50 x51 x52 x53 x54 x55 x56 x57 x58 Q w5 HE.out HQ.out)
  unfold FillEnd
  refine wpAnyIn_ready (rs := [0]) (by kernel_rfl) (by simp) ?_
  refine AllReadyIn.cons rfl (fun K hK => ?_) ?_
  · refine step_load_in rfl 42 (.tmp 14) rfl nd 0 rfl e.cells _ HE.out.row Try.underlying42 rfl Try.size42 ?_
    refine hK _ _ ?_; clear hK K
    exact HN0.out
  exact AllReadyIn.nil

set_option maxRecDepth 100000 in
set_option maxHeartbeats 1000000 in
theorem fe_01 (n rs nd : Nat) (e : Ent) (hd : Bool) (x0 x1 x2 x3 x4 x5 x6 x7 x9 x10 x11 x12 x13 x15 x16 x17 x18 x19 x20 x21 x22 x23 x24 x25 x26 x27 x28 x29 x30 x31 x32 x33 x34 x35 x36 x37 x38 x39 x40 x41 x42 x43 x44 x45 x46 x47 x48 x49 x50 x51 x52 x53 x54 x55 x56 x57 x58 : Value) (Q : Exit → Act → World → Prop) (w5 : World) (hE : EndAt w5 rs nd e hd) (hQ : Q .normal ({ tmps := #[x0, x1, x2, x3, x4, x5, x6, x7, .pointer (some ⟨rs, 0, none⟩), .bool hd, .int .i64 0, x11, x12, x13, .pointer (some ⟨nd, 0, none⟩), x15, x16, x17, x18, x19, x20, x21, x22, x23, x24, x25, x26, x27, x28, x29, x30, x31, x32, x33, x34, x35, x36, x37, x38, x39, x40, x41, x42, x43, x44, x45, x46, x47, x48, x49, x50, x51, x52, x53, x54, .agg e.cells.toArray, .pointer (some ⟨nd, 1, none⟩), .int .i64 e.state, .bool hd], defers := [] }) (w5.setCells rs 0 e.cells)) :
    FillEnd n Q 5 #[true, true, false, false, false, false, false] ({ tmps := #[x0, x1, x2, x3, x4, x5, x6, x7, .pointer (some ⟨rs, 0, none⟩), x9, x10, x11, x12, x13, .pointer (some ⟨nd, 0, none⟩), x15, x16, x17, x18, x19, x20, x21, x22, x23, x24, x25, x26, x27, x28, x29, x30, x31, x32, x33, x34, x35, x36, x37, x38, x39, x40, x41, x42, x43, x44, x45, x46, x47, x48, x49, x50, x51, x52, x53, x54, .agg e.cells.toArray, .pointer (some ⟨nd, 1, none⟩), x57, x58], defers := [] }) w5 := by
  have HQ := Lib.hid hQ; clear hQ
  have c1 := hE.row1
  have c2 := hE.row2
  have hb := hE.had
  have HE := Lib.hid hE; clear hE
  have HN2 := Lib.hid (fe_012 n rs nd e hd x0 x1 x2 x3 x4 x5 x6 x7 x9 x10 x11 x12 x13 x15 x16 x17 x18 x19 x20 x21 x22 x23 x24 x25 x26 x27 x28 x29 x30 x31 x32 x33 x34 x35 x36 x37 x38 x39 x40 x41 x42 x43 x44 x45 x46 x47 x48 x49 x50 x51 x52 x53 x54 x55 x56 x57 x58 Q w5 HE.out HQ.out)
  have HN4 := Lib.hid (fe_014 n rs nd e hd x0 x1 x2 x3 x4 x5 x6 x7 x9 x10 x11 x12 x13 x15 x16 x17 x18 x19 x20 x21 x22 x23 x24 x25 x26 x27 x28 x29 x30 x31 x32 x33 x34 x35 x36 x37 x38 x39 x40 x41 x42 x43 x44 x45 x46 x47 x48 x49 x50 x51 x52 x53 x54 x55 x56 x57 x58 Q w5 HE.out HQ.out)
  unfold FillEnd
  refine wpAnyIn_ready (rs := [2, 4]) (by kernel_rfl) (by simp) ?_
  refine AllReadyIn.cons rfl (fun K hK => ?_) ?_
  · go_simp
    refine hK _ _ ?_; clear hK K
    exact HN2.out
  refine AllReadyIn.cons rfl (fun K hK => ?_) ?_
  · refine step_store_in rfl 42 (.tmp 8) (.tmp 55) rfl rs 0 e.cells.toArray rfl rfl HE.out.there Try.size42 (oneEnt _) ?_
    refine hK _ _ ?_; clear hK K
    exact HN4.out
  exact AllReadyIn.nil

set_option maxRecDepth 100000 in
set_option maxHeartbeats 1000000 in
theorem fe_04 (n rs nd : Nat) (e : Ent) (hd : Bool) (x0 x1 x2 x3 x4 x5 x6 x7 x9 x10 x11 x12 x13 x15 x16 x17 x18 x19 x20 x21 x22 x23 x24 x25 x26 x27 x28 x29 x30 x31 x32 x33 x34 x35 x36 x37 x38 x39 x40 x41 x42 x43 x44 x45 x46 x47 x48 x49 x50 x51 x52 x53 x54 x55 x56 x57 x58 : Value) (Q : Exit → Act → World → Prop) (w5 : World) (hE : EndAt w5 rs nd e hd) (hQ : Q .normal ({ tmps := #[x0, x1, x2, x3, x4, x5, x6, x7, .pointer (some ⟨rs, 0, none⟩), .bool hd, .int .i64 0, x11, x12, x13, .pointer (some ⟨nd, 0, none⟩), x15, x16, x17, x18, x19, x20, x21, x22, x23, x24, x25, x26, x27, x28, x29, x30, x31, x32, x33, x34, x35, x36, x37, x38, x39, x40, x41, x42, x43, x44, x45, x46, x47, x48, x49, x50, x51, x52, x53, x54, .agg e.cells.toArray, .pointer (some ⟨nd, 1, none⟩), .int .i64 e.state, .bool hd], defers := [] }) (w5.setCells rs 0 e.cells)) :
    FillEnd n Q 5 #[true, false, false, false, true, false, false] ({ tmps := #[x0, x1, x2, x3, x4, x5, x6, x7, .pointer (some ⟨rs, 0, none⟩), x9, x10, x11, x12, x13, .pointer (some ⟨nd, 0, none⟩), x15, x16, x17, x18, x19, x20, x21, x22, x23, x24, x25, x26, x27, x28, x29, x30, x31, x32, x33, x34, x35, x36, x37, x38, x39, x40, x41, x42, x43, x44, x45, x46, x47, x48, x49, x50, x51, x52, x53, x54, .agg e.cells.toArray, x56, x57, x58], defers := [] }) (w5.setCells rs 0 e.cells) := by
  have HQ := Lib.hid hQ; clear hQ
  have c1 := hE.row1
  have c2 := hE.row2
  have hb := hE.had
  have HE := Lib.hid hE; clear hE
  have HN1 := Lib.hid (fe_014 n rs nd e hd x0 x1 x2 x3 x4 x5 x6 x7 x9 x10 x11 x12 x13 x15 x16 x17 x18 x19 x20 x21 x22 x23 x24 x25 x26 x27 x28 x29 x30 x31 x32 x33 x34 x35 x36 x37 x38 x39 x40 x41 x42 x43 x44 x45 x46 x47 x48 x49 x50 x51 x52 x53 x54 x55 x56 x57 x58 Q w5 HE.out HQ.out)
  unfold FillEnd
  refine wpAnyIn_ready (rs := [1]) (by kernel_rfl) (by simp) ?_
  refine AllReadyIn.cons rfl (fun K hK => ?_) ?_
  · go_simp
    refine hK _ _ ?_; clear hK K
    exact HN1.out
  exact AllReadyIn.nil

set_option maxRecDepth 100000 in
set_option maxHeartbeats 1000000 in
theorem fe_12 (n rs nd : Nat) (e : Ent) (hd : Bool) (x0 x1 x2 x3 x4 x5 x6 x7 x9 x10 x11 x12 x13 x15 x16 x17 x18 x19 x20 x21 x22 x23 x24 x25 x26 x27 x28 x29 x30 x31 x32 x33 x34 x35 x36 x37 x38 x39 x40 x41 x42 x43 x44 x45 x46 x47 x48 x49 x50 x51 x52 x53 x54 x55 x56 x57 x58 : Value) (Q : Exit → Act → World → Prop) (w5 : World) (hE : EndAt w5 rs nd e hd) (hQ : Q .normal ({ tmps := #[x0, x1, x2, x3, x4, x5, x6, x7, .pointer (some ⟨rs, 0, none⟩), .bool hd, .int .i64 0, x11, x12, x13, .pointer (some ⟨nd, 0, none⟩), x15, x16, x17, x18, x19, x20, x21, x22, x23, x24, x25, x26, x27, x28, x29, x30, x31, x32, x33, x34, x35, x36, x37, x38, x39, x40, x41, x42, x43, x44, x45, x46, x47, x48, x49, x50, x51, x52, x53, x54, .agg e.cells.toArray, .pointer (some ⟨nd, 1, none⟩), .int .i64 e.state, .bool hd], defers := [] }) (w5.setCells rs 0 e.cells)) :
    FillEnd n Q 5 #[false, true, true, false, false, false, false] ({ tmps := #[x0, x1, x2, x3, x4, x5, x6, x7, .pointer (some ⟨rs, 0, none⟩), x9, x10, x11, x12, x13, .pointer (some ⟨nd, 0, none⟩), x15, x16, x17, x18, x19, x20, x21, x22, x23, x24, x25, x26, x27, x28, x29, x30, x31, x32, x33, x34, x35, x36, x37, x38, x39, x40, x41, x42, x43, x44, x45, x46, x47, x48, x49, x50, x51, x52, x53, x54, x55, .pointer (some ⟨nd, 1, none⟩), .int .i64 e.state, x58], defers := [] }) w5 := by
  have HQ := Lib.hid hQ; clear hQ
  have c1 := hE.row1
  have c2 := hE.row2
  have hb := hE.had
  have HE := Lib.hid hE; clear hE
  have HN0 := Lib.hid (fe_012 n rs nd e hd x0 x1 x2 x3 x4 x5 x6 x7 x9 x10 x11 x12 x13 x15 x16 x17 x18 x19 x20 x21 x22 x23 x24 x25 x26 x27 x28 x29 x30 x31 x32 x33 x34 x35 x36 x37 x38 x39 x40 x41 x42 x43 x44 x45 x46 x47 x48 x49 x50 x51 x52 x53 x54 x55 x56 x57 x58 Q w5 HE.out HQ.out)
  have HN3 := Lib.hid (fe_123 n rs nd e hd x0 x1 x2 x3 x4 x5 x6 x7 x9 x10 x11 x12 x13 x15 x16 x17 x18 x19 x20 x21 x22 x23 x24 x25 x26 x27 x28 x29 x30 x31 x32 x33 x34 x35 x36 x37 x38 x39 x40 x41 x42 x43 x44 x45 x46 x47 x48 x49 x50 x51 x52 x53 x54 x55 x56 x57 x58 Q w5 HE.out HQ.out)
  unfold FillEnd
  refine wpAnyIn_ready (rs := [0, 3]) (by kernel_rfl) (by simp) ?_
  refine AllReadyIn.cons rfl (fun K hK => ?_) ?_
  · refine step_load_in rfl 42 (.tmp 14) rfl nd 0 rfl e.cells _ HE.out.row Try.underlying42 rfl Try.size42 ?_
    refine hK _ _ ?_; clear hK K
    exact HN0.out
  refine AllReadyIn.cons rfl (fun K hK => ?_) ?_
  · go_simp
    refine hK _ _ ?_; clear hK K
    exact HN3.out
  exact AllReadyIn.nil

set_option maxRecDepth 100000 in
set_option maxHeartbeats 1000000 in
theorem fe_0 (n rs nd : Nat) (e : Ent) (hd : Bool) (x0 x1 x2 x3 x4 x5 x6 x7 x9 x10 x11 x12 x13 x15 x16 x17 x18 x19 x20 x21 x22 x23 x24 x25 x26 x27 x28 x29 x30 x31 x32 x33 x34 x35 x36 x37 x38 x39 x40 x41 x42 x43 x44 x45 x46 x47 x48 x49 x50 x51 x52 x53 x54 x55 x56 x57 x58 : Value) (Q : Exit → Act → World → Prop) (w5 : World) (hE : EndAt w5 rs nd e hd) (hQ : Q .normal ({ tmps := #[x0, x1, x2, x3, x4, x5, x6, x7, .pointer (some ⟨rs, 0, none⟩), .bool hd, .int .i64 0, x11, x12, x13, .pointer (some ⟨nd, 0, none⟩), x15, x16, x17, x18, x19, x20, x21, x22, x23, x24, x25, x26, x27, x28, x29, x30, x31, x32, x33, x34, x35, x36, x37, x38, x39, x40, x41, x42, x43, x44, x45, x46, x47, x48, x49, x50, x51, x52, x53, x54, .agg e.cells.toArray, .pointer (some ⟨nd, 1, none⟩), .int .i64 e.state, .bool hd], defers := [] }) (w5.setCells rs 0 e.cells)) :
    FillEnd n Q 6 #[true, false, false, false, false, false, false] ({ tmps := #[x0, x1, x2, x3, x4, x5, x6, x7, .pointer (some ⟨rs, 0, none⟩), x9, x10, x11, x12, x13, .pointer (some ⟨nd, 0, none⟩), x15, x16, x17, x18, x19, x20, x21, x22, x23, x24, x25, x26, x27, x28, x29, x30, x31, x32, x33, x34, x35, x36, x37, x38, x39, x40, x41, x42, x43, x44, x45, x46, x47, x48, x49, x50, x51, x52, x53, x54, .agg e.cells.toArray, x56, x57, x58], defers := [] }) w5 := by
  have HQ := Lib.hid hQ; clear hQ
  have c1 := hE.row1
  have c2 := hE.row2
  have hb := hE.had
  have HE := Lib.hid hE; clear hE
  have HN1 := Lib.hid (fe_01 n rs nd e hd x0 x1 x2 x3 x4 x5 x6 x7 x9 x10 x11 x12 x13 x15 x16 x17 x18 x19 x20 x21 x22 x23 x24 x25 x26 x27 x28 x29 x30 x31 x32 x33 x34 x35 x36 x37 x38 x39 x40 x41 x42 x43 x44 x45 x46 x47 x48 x49 x50 x51 x52 x53 x54 x55 x56 x57 x58 Q w5 HE.out HQ.out)
  have HN4 := Lib.hid (fe_04 n rs nd e hd x0 x1 x2 x3 x4 x5 x6 x7 x9 x10 x11 x12 x13 x15 x16 x17 x18 x19 x20 x21 x22 x23 x24 x25 x26 x27 x28 x29 x30 x31 x32 x33 x34 x35 x36 x37 x38 x39 x40 x41 x42 x43 x44 x45 x46 x47 x48 x49 x50 x51 x52 x53 x54 x55 x56 x57 x58 Q w5 HE.out HQ.out)
  unfold FillEnd
  refine wpAnyIn_ready (rs := [1, 4]) (by kernel_rfl) (by simp) ?_
  refine AllReadyIn.cons rfl (fun K hK => ?_) ?_
  · go_simp
    refine hK _ _ ?_; clear hK K
    exact HN1.out
  refine AllReadyIn.cons rfl (fun K hK => ?_) ?_
  · refine step_store_in rfl 42 (.tmp 8) (.tmp 55) rfl rs 0 e.cells.toArray rfl rfl HE.out.there Try.size42 (oneEnt _) ?_
    refine hK _ _ ?_; clear hK K
    exact HN4.out
  exact AllReadyIn.nil

set_option maxRecDepth 100000 in
set_option maxHeartbeats 1000000 in
theorem fe_1 (n rs nd : Nat) (e : Ent) (hd : Bool) (x0 x1 x2 x3 x4 x5 x6 x7 x9 x10 x11 x12 x13 x15 x16 x17 x18 x19 x20 x21 x22 x23 x24 x25 x26 x27 x28 x29 x30 x31 x32 x33 x34 x35 x36 x37 x38 x39 x40 x41 x42 x43 x44 x45 x46 x47 x48 x49 x50 x51 x52 x53 x54 x55 x56 x57 x58 : Value) (Q : Exit → Act → World → Prop) (w5 : World) (hE : EndAt w5 rs nd e hd) (hQ : Q .normal ({ tmps := #[x0, x1, x2, x3, x4, x5, x6, x7, .pointer (some ⟨rs, 0, none⟩), .bool hd, .int .i64 0, x11, x12, x13, .pointer (some ⟨nd, 0, none⟩), x15, x16, x17, x18, x19, x20, x21, x22, x23, x24, x25, x26, x27, x28, x29, x30, x31, x32, x33, x34, x35, x36, x37, x38, x39, x40, x41, x42, x43, x44, x45, x46, x47, x48, x49, x50, x51, x52, x53, x54, .agg e.cells.toArray, .pointer (some ⟨nd, 1, none⟩), .int .i64 e.state, .bool hd], defers := [] }) (w5.setCells rs 0 e.cells)) :
    FillEnd n Q 6 #[false, true, false, false, false, false, false] ({ tmps := #[x0, x1, x2, x3, x4, x5, x6, x7, .pointer (some ⟨rs, 0, none⟩), x9, x10, x11, x12, x13, .pointer (some ⟨nd, 0, none⟩), x15, x16, x17, x18, x19, x20, x21, x22, x23, x24, x25, x26, x27, x28, x29, x30, x31, x32, x33, x34, x35, x36, x37, x38, x39, x40, x41, x42, x43, x44, x45, x46, x47, x48, x49, x50, x51, x52, x53, x54, x55, .pointer (some ⟨nd, 1, none⟩), x57, x58], defers := [] }) w5 := by
  have HQ := Lib.hid hQ; clear hQ
  have c1 := hE.row1
  have c2 := hE.row2
  have hb := hE.had
  have HE := Lib.hid hE; clear hE
  have HN0 := Lib.hid (fe_01 n rs nd e hd x0 x1 x2 x3 x4 x5 x6 x7 x9 x10 x11 x12 x13 x15 x16 x17 x18 x19 x20 x21 x22 x23 x24 x25 x26 x27 x28 x29 x30 x31 x32 x33 x34 x35 x36 x37 x38 x39 x40 x41 x42 x43 x44 x45 x46 x47 x48 x49 x50 x51 x52 x53 x54 x55 x56 x57 x58 Q w5 HE.out HQ.out)
  have HN2 := Lib.hid (fe_12 n rs nd e hd x0 x1 x2 x3 x4 x5 x6 x7 x9 x10 x11 x12 x13 x15 x16 x17 x18 x19 x20 x21 x22 x23 x24 x25 x26 x27 x28 x29 x30 x31 x32 x33 x34 x35 x36 x37 x38 x39 x40 x41 x42 x43 x44 x45 x46 x47 x48 x49 x50 x51 x52 x53 x54 x55 x56 x57 x58 Q w5 HE.out HQ.out)
  unfold FillEnd
  refine wpAnyIn_ready (rs := [0, 2]) (by kernel_rfl) (by simp) ?_
  refine AllReadyIn.cons rfl (fun K hK => ?_) ?_
  · refine step_load_in rfl 42 (.tmp 14) rfl nd 0 rfl e.cells _ HE.out.row Try.underlying42 rfl Try.size42 ?_
    refine hK _ _ ?_; clear hK K
    exact HN0.out
  refine AllReadyIn.cons rfl (fun K hK => ?_) ?_
  · go_simp
    refine hK _ _ ?_; clear hK K
    exact HN2.out
  exact AllReadyIn.nil

set_option maxRecDepth 100000 in
set_option maxHeartbeats 1000000 in
theorem fe_s (n rs nd : Nat) (e : Ent) (hd : Bool) (x0 x1 x2 x3 x4 x5 x6 x7 x9 x10 x11 x12 x13 x15 x16 x17 x18 x19 x20 x21 x22 x23 x24 x25 x26 x27 x28 x29 x30 x31 x32 x33 x34 x35 x36 x37 x38 x39 x40 x41 x42 x43 x44 x45 x46 x47 x48 x49 x50 x51 x52 x53 x54 x55 x56 x57 x58 : Value) (Q : Exit → Act → World → Prop) (w5 : World) (hE : EndAt w5 rs nd e hd) (hQ : Q .normal ({ tmps := #[x0, x1, x2, x3, x4, x5, x6, x7, .pointer (some ⟨rs, 0, none⟩), .bool hd, .int .i64 0, x11, x12, x13, .pointer (some ⟨nd, 0, none⟩), x15, x16, x17, x18, x19, x20, x21, x22, x23, x24, x25, x26, x27, x28, x29, x30, x31, x32, x33, x34, x35, x36, x37, x38, x39, x40, x41, x42, x43, x44, x45, x46, x47, x48, x49, x50, x51, x52, x53, x54, .agg e.cells.toArray, .pointer (some ⟨nd, 1, none⟩), .int .i64 e.state, .bool hd], defers := [] }) (w5.setCells rs 0 e.cells)) :
    FillEnd n Q 7 #[false, false, false, false, false, false, false] ({ tmps := #[x0, x1, x2, x3, x4, x5, x6, x7, .pointer (some ⟨rs, 0, none⟩), x9, x10, x11, x12, x13, .pointer (some ⟨nd, 0, none⟩), x15, x16, x17, x18, x19, x20, x21, x22, x23, x24, x25, x26, x27, x28, x29, x30, x31, x32, x33, x34, x35, x36, x37, x38, x39, x40, x41, x42, x43, x44, x45, x46, x47, x48, x49, x50, x51, x52, x53, x54, x55, x56, x57, x58], defers := [] }) w5 := by
  have HQ := Lib.hid hQ; clear hQ
  have c1 := hE.row1
  have c2 := hE.row2
  have hb := hE.had
  have HE := Lib.hid hE; clear hE
  have HN0 := Lib.hid (fe_0 n rs nd e hd x0 x1 x2 x3 x4 x5 x6 x7 x9 x10 x11 x12 x13 x15 x16 x17 x18 x19 x20 x21 x22 x23 x24 x25 x26 x27 x28 x29 x30 x31 x32 x33 x34 x35 x36 x37 x38 x39 x40 x41 x42 x43 x44 x45 x46 x47 x48 x49 x50 x51 x52 x53 x54 x55 x56 x57 x58 Q w5 HE.out HQ.out)
  have HN1 := Lib.hid (fe_1 n rs nd e hd x0 x1 x2 x3 x4 x5 x6 x7 x9 x10 x11 x12 x13 x15 x16 x17 x18 x19 x20 x21 x22 x23 x24 x25 x26 x27 x28 x29 x30 x31 x32 x33 x34 x35 x36 x37 x38 x39 x40 x41 x42 x43 x44 x45 x46 x47 x48 x49 x50 x51 x52 x53 x54 x55 x56 x57 x58 Q w5 HE.out HQ.out)
  unfold FillEnd
  refine wpAnyIn_ready (rs := [0, 1]) (by kernel_rfl) (by simp) ?_
  refine AllReadyIn.cons rfl (fun K hK => ?_) ?_
  · refine step_load_in rfl 42 (.tmp 14) rfl nd 0 rfl e.cells _ HE.out.row Try.underlying42 rfl Try.size42 ?_
    refine hK _ _ ?_; clear hK K
    exact HN0.out
  refine AllReadyIn.cons rfl (fun K hK => ?_) ?_
  · go_simp
    refine hK _ _ ?_; clear hK K
    exact HN1.out
  exact AllReadyIn.nil

set_option maxRecDepth 100000 in
set_option maxHeartbeats 1000000 in
theorem fill_end (n rs nd : Nat) (e : Ent) (hd : Bool) (x0 x1 x2 x3 x4 x5 x6 x7 x9 x10 x11 x12 x13 x15 x16 x17 x18 x19 x20 x21 x22 x23 x24 x25 x26 x27 x28 x29 x30 x31 x32 x33 x34 x35 x36 x37 x38 x39 x40 x41 x42 x43 x44 x45 x46 x47 x48 x49 x50 x51 x52 x53 x54 x55 x56 x57 x58 : Value) (Q : Exit → Act → World → Prop) (w5 : World) (hE : EndAt w5 rs nd e hd) (hQ : Q .normal ({ tmps := #[x0, x1, x2, x3, x4, x5, x6, x7, .pointer (some ⟨rs, 0, none⟩), .bool hd, .int .i64 0, x11, x12, x13, .pointer (some ⟨nd, 0, none⟩), x15, x16, x17, x18, x19, x20, x21, x22, x23, x24, x25, x26, x27, x28, x29, x30, x31, x32, x33, x34, x35, x36, x37, x38, x39, x40, x41, x42, x43, x44, x45, x46, x47, x48, x49, x50, x51, x52, x53, x54, .agg e.cells.toArray, .pointer (some ⟨nd, 1, none⟩), .int .i64 e.state, .bool hd], defers := [] }) (w5.setCells rs 0 e.cells).drew) :
    (Code.region 13 #[{ dst := some 55, op := Op.load 42 (Operand.tmp 14), type := 42, pos := "l1.go:56", after := #[], guard := none },
      { dst := some 56, op := Op.fieldAddr 42 (Operand.tmp 14) 1, type := 0, pos := "l1.go:56", after := #[{ on := 4, ground := Ground.gcOnly Departure.lateStores }], guard := none },
      { dst := some 57, op := Op.load 3 (Operand.tmp 56), type := 3, pos := "l1.go:56", after := #[{ on := 1, ground := Ground.data }, { on := 4, ground := Ground.gcOnly Departure.lateStores }], guard := none },
      { dst := some 58, op := Op.binOp BinOp.neq 3 (Operand.tmp 57) (Operand.const (Value.int IntKind.i64 0)) 3, type := 4, pos := "l1.go:56", after := #[{ on := 2, ground := Ground.data }, { on := 4, ground := Ground.gcOnly Departure.lateStores }], guard := none },
      { dst := none, op := Op.store 42 (Operand.tmp 8) (Operand.tmp 55), type := 0, pos := "l1.go:56", after := #[{ on := 0, ground := Ground.data }, { on := 0, ground := Ground.phase }, { on := 1, ground := Ground.textOnly Departure.lateStores }, { on := 2, ground := Ground.textOnly Departure.lateStores }, { on := 3, ground := Ground.textOnly Departure.lateStores }], guard := none },
      { dst := some 9, op := Op.assign (Operand.tmp 58), type := 4, pos := "l1.go:56", after := #[{ on := 3, ground := Ground.data }, { on := 4, ground := Ground.chain }, { on := 0, ground := Ground.phase }, { on := 1, ground := Ground.phase }, { on := 2, ground := Ground.phase }, { on := 3, ground := Ground.phase }, { on := 4, ground := Ground.phase }], guard := none },
      { dst := some 10, op := Op.assign (Operand.const (Value.int IntKind.i64 0)), type := 24, pos := "l1.go:56", after := #[{ on := 5, ground := Ground.chain }, { on := 0, ground := Ground.phase }, { on := 1, ground := Ground.phase }, { on := 2, ground := Ground.phase }, { on := 3, ground := Ground.phase }, { on := 4, ground := Ground.phase }, { on := 5, ground := Ground.phase }], guard := none }] true).wpIn Fence.wide n Try.prog Q ({ tmps := #[x0, x1, x2, x3, x4, x5, x6, x7, .pointer (some ⟨rs, 0, none⟩), x9, x10, x11, x12, x13, .pointer (some ⟨nd, 0, none⟩), x15, x16, x17, x18, x19, x20, x21, x22, x23, x24, x25, x26, x27, x28, x29, x30, x31, x32, x33, x34, x35, x36, x37, x38, x39, x40, x41, x42, x43, x44, x45, x46, x47, x48, x49, x50, x51, x52, x53, x54, x55, x56, x57, x58], defers := [] }) w5 := by
  refine wpIn_region_any (by kernel_rfl) ?_
  have e1 := setCells_drew (b := rs) e.cells 0 w5
  have hE2 : EndAt w5.drew rs nd e hd := ⟨hE.row, hE.there, (congrArg (fun W : World => W.cell? ⟨nd, 1, none⟩) e1).trans ((cell_drew _ _).trans hE.row2), hE.had⟩
  have hQ2 : Q .normal ({ tmps := #[x0, x1, x2, x3, x4, x5, x6, x7, .pointer (some ⟨rs, 0, none⟩), .bool hd, .int .i64 0, x11, x12, x13, .pointer (some ⟨nd, 0, none⟩), x15, x16, x17, x18, x19, x20, x21, x22, x23, x24, x25, x26, x27, x28, x29, x30, x31, x32, x33, x34, x35, x36, x37, x38, x39, x40, x41, x42, x43, x44, x45, x46, x47, x48, x49, x50, x51, x52, x53, x54, .agg e.cells.toArray, .pointer (some ⟨nd, 1, none⟩), .int .i64 e.state, .bool hd], defers := [] }) (w5.drew.setCells rs 0 e.cells) := (congrArg (fun W : World => Q .normal ({ tmps := #[x0, x1, x2, x3, x4, x5, x6, x7, .pointer (some ⟨rs, 0, none⟩), .bool hd, .int .i64 0, x11, x12, x13, .pointer (some ⟨nd, 0, none⟩), x15, x16, x17, x18, x19, x20, x21, x22, x23, x24, x25, x26, x27, x28, x29, x30, x31, x32, x33, x34, x35, x36, x37, x38, x39, x40, x41, x42, x43, x44, x45, x46, x47, x48, x49, x50, x51, x52, x53, x54, .agg e.cells.toArray, .pointer (some ⟨nd, 1, none⟩), .int .i64 e.state, .bool hd], defers := [] }) W) e1).mpr hQ
  exact fe_s n rs nd e hd x0 x1 x2 x3 x4 x5 x6 x7 x9 x10 x11 x12 x13 x15 x16 x17 x18 x19 x20 x21 x22 x23 x24 x25 x26 x27 x28 x29 x30 x31 x32 x33 x34 x35 x36 x37 x38 x39 x40 x41 x42 x43 x44 x45 x46 x47 x48 x49 x50 x51 x52 x53 x54 x55 x56 x57 x58 Q w5.drew hE2 hQ2

end Go.Proofs.Ytddajnpichchfaa
