/- Promote: its store, in whatever order. Conditions: those stated in each theorem. -/
import Derived.Test.YtddajnpichchfaaPromo
namespace Go.Proofs.Ytddajnpichchfaa
open Go.RowKit
attribute [local simp] wide_fn

def PromReg (n : Nat) (Q : Exit → Act → World → Prop) (fuel : Nat) (listed : Array Bool) (a : Act) (w : World) : Prop :=
  wpAnyIn Fence.wide n Try.prog .any #[{ dst := some 18, op := Op.move (Operand.tmp 7), type := 113, pos := "l1.go:112", after := #[], guard := none },
      { dst := some 19, op := Op.move (Operand.tmp 7), type := 113, pos := "l1.go:112", after := #[{ on := 5, ground := Ground.gcOnly Departure.lateStores }], guard := none },
      { dst := some 20, op := Op.load 36 (Operand.tmp 5), type := 36, pos := "l1.go:112", after := #[{ on := 5, ground := Ground.gcOnly Departure.lateStores }], guard := none },
      { dst := some 21, op := Op.nilCheck (Operand.tmp 18), type := 0, pos := "l1.go:112", after := #[{ on := 0, ground := Ground.data }, { on := 0, ground := Ground.phase }, { on := 1, ground := Ground.textOnly Departure.lateStores }, { on := 2, ground := Ground.textOnly Departure.lateStores }], guard := none },
      { dst := some 22, op := Op.fieldAddr 42 (Operand.tmp 21) 1, type := 0, pos := "l1.go:112", after := #[{ on := 3, ground := Ground.data }, { on := 0, ground := Ground.phase }, { on := 1, ground := Ground.textOnly Departure.lateStores }, { on := 2, ground := Ground.textOnly Departure.lateStores }], guard := none },
      { dst := none, op := Op.store 3 (Operand.tmp 22) (Operand.const (Value.int IntKind.i64 2)), type := 0, pos := "l1.go:112", after := #[{ on := 4, ground := Ground.data }, { on := 0, ground := Ground.phase }, { on := 1, ground := Ground.textOnly Departure.lateStores }, { on := 2, ground := Ground.textOnly Departure.lateStores }], guard := none },
      { dst := some 23, op := Op.nilCheck (Operand.tmp 19), type := 0, pos := "l1.go:112", after := #[{ on := 1, ground := Ground.data }, { on := 0, ground := Ground.phase }, { on := 1, ground := Ground.phase }, { on := 2, ground := Ground.phase }, { on := 3, ground := Ground.phase }, { on := 4, ground := Ground.phase }, { on := 5, ground := Ground.phase }], guard := none },
      { dst := some 24, op := Op.fieldAddr 42 (Operand.tmp 23) 4, type := 0, pos := "l1.go:112", after := #[{ on := 6, ground := Ground.data }, { on := 0, ground := Ground.phase }, { on := 1, ground := Ground.phase }, { on := 2, ground := Ground.phase }, { on := 3, ground := Ground.phase }, { on := 4, ground := Ground.phase }, { on := 5, ground := Ground.phase }], guard := none },
      { dst := none, op := Op.store 36 (Operand.tmp 24) (Operand.tmp 20), type := 0, pos := "l1.go:112", after := #[{ on := 7, ground := Ground.data }, { on := 2, ground := Ground.data }, { on := 5, ground := Ground.chain }, { on := 0, ground := Ground.phase }, { on := 1, ground := Ground.phase }, { on := 2, ground := Ground.phase }, { on := 3, ground := Ground.phase }, { on := 4, ground := Ground.phase }, { on := 5, ground := Ground.phase }], guard := none }] Q fuel listed a w

/-- What the store of Promote stands on. -/
structure PromAt (w1 : World) (b j n0 : Nat) (d : L8) (st : Int) : Prop where
  c1 : w1.cell? ⟨b, j * 21 + 1, none⟩ = some (.int .i64 st)
  f1 : w1.frozen? ⟨b, j * 21 + 1, none⟩ = false
  r1 : w1.rangeAt n0 0 d.cells
  r2 : (w1.setCell ⟨b, j * 21 + 1, none⟩ (.int .i64 2)).rangeAt n0 0 d.cells
  t2 : (w1.setCell ⟨b, j * 21 + 1, none⟩ (.int .i64 2)).there b (j * 21 + 4) 8

set_option maxRecDepth 100000 in
set_option maxHeartbeats 1000000 in
theorem pr_01234567 (n n0 b j : Nat) (d : L8) (st : Int) (x0 x1 x2 x3 x4 x6 x8 x9 x10 x11 x12 x13 x14 x15 x16 x17 _x18 _x19 _x20 _x21 _x22 _x23 _x24 : Value) (Q : Exit → Act → World → Prop) (w1 : World) (hE : PromAt w1 b j n0 d st) (hQ : Q .normal ({ tmps := #[x0, x1, x2, x3, x4, .pointer (some ⟨n0, 0, none⟩), x6, .pointer (some ⟨b, j * 21, none⟩), x8, x9, x10, x11, x12, x13, x14, x15, x16, x17, .pointer (some ⟨b, j * 21, none⟩), .pointer (some ⟨b, j * 21, none⟩), .agg #[.int .u64 d.x0, .int .u64 d.x1, .int .u64 d.x2, .int .u64 d.x3, .int .u64 d.x4, .int .u64 d.x5, .int .u64 d.x6, .int .u64 d.x7], .pointer (some ⟨b, j * 21, none⟩), .pointer (some ⟨b, j * 21 + 1, none⟩), .pointer (some ⟨b, j * 21, none⟩), .pointer (some ⟨b, j * 21 + 4, none⟩)], defers := [] }) ((w1.setCell ⟨b, j * 21 + 1, none⟩ (.int .i64 2)).setCells b (j * 21 + 4) d.cells)) :
    PromReg n Q 1 #[true, true, true, true, true, true, true, true, false] ({ tmps := #[x0, x1, x2, x3, x4, .pointer (some ⟨n0, 0, none⟩), x6, .pointer (some ⟨b, j * 21, none⟩), x8, x9, x10, x11, x12, x13, x14, x15, x16, x17, .pointer (some ⟨b, j * 21, none⟩), .pointer (some ⟨b, j * 21, none⟩), .agg #[.int .u64 d.x0, .int .u64 d.x1, .int .u64 d.x2, .int .u64 d.x3, .int .u64 d.x4, .int .u64 d.x5, .int .u64 d.x6, .int .u64 d.x7], .pointer (some ⟨b, j * 21, none⟩), .pointer (some ⟨b, j * 21 + 1, none⟩), .pointer (some ⟨b, j * 21, none⟩), .pointer (some ⟨b, j * 21 + 4, none⟩)], defers := [] }) (w1.setCell ⟨b, j * 21 + 1, none⟩ (.int .i64 2)) := by
  have HQ := Lib.hid hQ; clear hQ
  have HE := Lib.hid hE; clear hE
  unfold PromReg
  refine wpAnyIn_ready (rs := [8]) (by kernel_rfl) (by simp) ?_
  refine AllReadyIn.cons rfl (fun K hK => ?_) ?_
  · refine step_store_in rfl 36 (.tmp 24) (.tmp 20) rfl b (j * 21 + 4) d.cells.toArray rfl rfl HE.out.t2 Try.size36 (oneCells _) ?_
    refine hK _ _ ?_; clear hK K
    refine wpAnyIn_done (by kernel_rfl) ?_ _
    exact HQ.out
  exact AllReadyIn.nil

set_option maxRecDepth 100000 in
set_option maxHeartbeats 1000000 in
theorem pr_0123456 (n n0 b j : Nat) (d : L8) (st : Int) (x0 x1 x2 x3 x4 x6 x8 x9 x10 x11 x12 x13 x14 x15 x16 x17 _x18 _x19 _x20 _x21 _x22 _x23 x24 : Value) (Q : Exit → Act → World → Prop) (w1 : World) (hE : PromAt w1 b j n0 d st) (hQ : Q .normal ({ tmps := #[x0, x1, x2, x3, x4, .pointer (some ⟨n0, 0, none⟩), x6, .pointer (some ⟨b, j * 21, none⟩), x8, x9, x10, x11, x12, x13, x14, x15, x16, x17, .pointer (some ⟨b, j * 21, none⟩), .pointer (some ⟨b, j * 21, none⟩), .agg #[.int .u64 d.x0, .int .u64 d.x1, .int .u64 d.x2, .int .u64 d.x3, .int .u64 d.x4, .int .u64 d.x5, .int .u64 d.x6, .int .u64 d.x7], .pointer (some ⟨b, j * 21, none⟩), .pointer (some ⟨b, j * 21 + 1, none⟩), .pointer (some ⟨b, j * 21, none⟩), .pointer (some ⟨b, j * 21 + 4, none⟩)], defers := [] }) ((w1.setCell ⟨b, j * 21 + 1, none⟩ (.int .i64 2)).setCells b (j * 21 + 4) d.cells)) :
    PromReg n Q 2 #[true, true, true, true, true, true, true, false, false] ({ tmps := #[x0, x1, x2, x3, x4, .pointer (some ⟨n0, 0, none⟩), x6, .pointer (some ⟨b, j * 21, none⟩), x8, x9, x10, x11, x12, x13, x14, x15, x16, x17, .pointer (some ⟨b, j * 21, none⟩), .pointer (some ⟨b, j * 21, none⟩), .agg #[.int .u64 d.x0, .int .u64 d.x1, .int .u64 d.x2, .int .u64 d.x3, .int .u64 d.x4, .int .u64 d.x5, .int .u64 d.x6, .int .u64 d.x7], .pointer (some ⟨b, j * 21, none⟩), .pointer (some ⟨b, j * 21 + 1, none⟩), .pointer (some ⟨b, j * 21, none⟩), x24], defers := [] }) (w1.setCell ⟨b, j * 21 + 1, none⟩ (.int .i64 2)) := by
  have HQ := Lib.hid hQ; clear hQ
  have HE := Lib.hid hE; clear hE
  have HN7 := Lib.hid (pr_01234567 n n0 b j d st x0 x1 x2 x3 x4 x6 x8 x9 x10 x11 x12 x13 x14 x15 x16 x17 _x18 _x19 _x20 _x21 _x22 _x23 x24 Q w1 HE.out HQ.out)
  unfold PromReg
  refine wpAnyIn_ready (rs := [7]) (by kernel_rfl) (by simp) ?_
  refine AllReadyIn.cons rfl (fun K hK => ?_) ?_
  · go_simp
    refine hK _ _ ?_; clear hK K
    exact HN7.out
  exact AllReadyIn.nil

set_option maxRecDepth 100000 in
set_option maxHeartbeats 1000000 in
theorem pr_012345 (n n0 b j : Nat) (d : L8) (st : Int) (x0 x1 x2 x3 x4 x6 x8 x9 x10 x11 x12 x13 x14 x15 x16 x17 _x18 _x19 _x20 _x21 _x22 x23 x24 : Value) (Q : Exit → Act → World → Prop) (w1 : World) (hE : PromAt w1 b j n0 d st) (hQ : Q .normal ({ tmps := #[x0, x1, x2, x3, x4, .pointer (some ⟨n0, 0, none⟩), x6, .pointer (some ⟨b, j * 21, none⟩), x8, x9, x10, x11, x12, x13, x14, x15, x16, x17, .pointer (some ⟨b, j * 21, none⟩), .pointer (some ⟨b, j * 21, none⟩), .agg #[.int .u64 d.x0, .int .u64 d.x1, .int .u64 d.x2, .int .u64 d.x3, .int .u64 d.x4, .int .u64 d.x5, .int .u64 d.x6, .int .u64 d.x7], .pointer (some ⟨b, j * 21, none⟩), .pointer (some ⟨b, j * 21 + 1, none⟩), .pointer (some ⟨b, j * 21, none⟩), .pointer (some ⟨b, j * 21 + 4, none⟩)], defers := [] }) ((w1.setCell ⟨b, j * 21 + 1, none⟩ (.int .i64 2)).setCells b (j * 21 + 4) d.cells)) :
    PromReg n Q 3 #[true, true, true, true, true, true, false, false, false] ({ tmps := #[x0, x1, x2, x3, x4, .pointer (some ⟨n0, 0, none⟩), x6, .pointer (some ⟨b, j * 21, none⟩), x8, x9, x10, x11, x12, x13, x14, x15, x16, x17, .pointer (some ⟨b, j * 21, none⟩), .pointer (some ⟨b, j * 21, none⟩), .agg #[.int .u64 d.x0, .int .u64 d.x1, .int .u64 d.x2, .int .u64 d.x3, .int .u64 d.x4, .int .u64 d.x5, .int .u64 d.x6, .int .u64 d.x7], .pointer (some ⟨b, j * 21, none⟩), .pointer (some ⟨b, j * 21 + 1, none⟩), x23, x24], defers := [] }) (w1.setCell ⟨b, j * 21 + 1, none⟩ (.int .i64 2)) := by
  have HQ := Lib.hid hQ; clear hQ
  have HE := Lib.hid hE; clear hE
  have HN6 := Lib.hid (pr_0123456 n n0 b j d st x0 x1 x2 x3 x4 x6 x8 x9 x10 x11 x12 x13 x14 x15 x16 x17 _x18 _x19 _x20 _x21 _x22 x23 x24 Q w1 HE.out HQ.out)
  unfold PromReg
  refine wpAnyIn_ready (rs := [6]) (by kernel_rfl) (by simp) ?_
  refine AllReadyIn.cons rfl (fun K hK => ?_) ?_
  · go_simp
    refine hK _ _ ?_; clear hK K
    exact HN6.out
  exact AllReadyIn.nil

set_option maxRecDepth 100000 in
set_option maxHeartbeats 1000000 in
theorem pr_01234 (n n0 b j : Nat) (d : L8) (st : Int) (x0 x1 x2 x3 x4 x6 x8 x9 x10 x11 x12 x13 x14 x15 x16 x17 _x18 _x19 _x20 _x21 _x22 x23 x24 : Value) (Q : Exit → Act → World → Prop) (w1 : World) (hE : PromAt w1 b j n0 d st) (hQ : Q .normal ({ tmps := #[x0, x1, x2, x3, x4, .pointer (some ⟨n0, 0, none⟩), x6, .pointer (some ⟨b, j * 21, none⟩), x8, x9, x10, x11, x12, x13, x14, x15, x16, x17, .pointer (some ⟨b, j * 21, none⟩), .pointer (some ⟨b, j * 21, none⟩), .agg #[.int .u64 d.x0, .int .u64 d.x1, .int .u64 d.x2, .int .u64 d.x3, .int .u64 d.x4, .int .u64 d.x5, .int .u64 d.x6, .int .u64 d.x7], .pointer (some ⟨b, j * 21, none⟩), .pointer (some ⟨b, j * 21 + 1, none⟩), .pointer (some ⟨b, j * 21, none⟩), .pointer (some ⟨b, j * 21 + 4, none⟩)], defers := [] }) ((w1.setCell ⟨b, j * 21 + 1, none⟩ (.int .i64 2)).setCells b (j * 21 + 4) d.cells)) :
    PromReg n Q 4 #[true, true, true, true, true, false, false, false, false] ({ tmps := #[x0, x1, x2, x3, x4, .pointer (some ⟨n0, 0, none⟩), x6, .pointer (some ⟨b, j * 21, none⟩), x8, x9, x10, x11, x12, x13, x14, x15, x16, x17, .pointer (some ⟨b, j * 21, none⟩), .pointer (some ⟨b, j * 21, none⟩), .agg #[.int .u64 d.x0, .int .u64 d.x1, .int .u64 d.x2, .int .u64 d.x3, .int .u64 d.x4, .int .u64 d.x5, .int .u64 d.x6, .int .u64 d.x7], .pointer (some ⟨b, j * 21, none⟩), .pointer (some ⟨b, j * 21 + 1, none⟩), x23, x24], defers := [] }) w1 := by
  have HQ := Lib.hid hQ; clear hQ
  have HE := Lib.hid hE; clear hE
  have HN5 := Lib.hid (pr_012345 n n0 b j d st x0 x1 x2 x3 x4 x6 x8 x9 x10 x11 x12 x13 x14 x15 x16 x17 _x18 _x19 _x20 _x21 _x22 x23 x24 Q w1 HE.out HQ.out)
  have c1 := HE.out.c1
  have f1 := HE.out.f1
  unfold PromReg
  refine wpAnyIn_ready (rs := [5]) (by kernel_rfl) (by simp) ?_
  refine AllReadyIn.cons rfl (fun K hK => ?_) ?_
  · go_simp
    refine hK _ _ ?_; clear hK K
    exact HN5.out
  exact AllReadyIn.nil

set_option maxRecDepth 100000 in
set_option maxHeartbeats 1000000 in
theorem pr_02345 (n n0 b j : Nat) (d : L8) (st : Int) (x0 x1 x2 x3 x4 x6 x8 x9 x10 x11 x12 x13 x14 x15 x16 x17 _x18 x19 _x20 _x21 _x22 x23 x24 : Value) (Q : Exit → Act → World → Prop) (w1 : World) (hE : PromAt w1 b j n0 d st) (hQ : Q .normal ({ tmps := #[x0, x1, x2, x3, x4, .pointer (some ⟨n0, 0, none⟩), x6, .pointer (some ⟨b, j * 21, none⟩), x8, x9, x10, x11, x12, x13, x14, x15, x16, x17, .pointer (some ⟨b, j * 21, none⟩), .pointer (some ⟨b, j * 21, none⟩), .agg #[.int .u64 d.x0, .int .u64 d.x1, .int .u64 d.x2, .int .u64 d.x3, .int .u64 d.x4, .int .u64 d.x5, .int .u64 d.x6, .int .u64 d.x7], .pointer (some ⟨b, j * 21, none⟩), .pointer (some ⟨b, j * 21 + 1, none⟩), .pointer (some ⟨b, j * 21, none⟩), .pointer (some ⟨b, j * 21 + 4, none⟩)], defers := [] }) ((w1.setCell ⟨b, j * 21 + 1, none⟩ (.int .i64 2)).setCells b (j * 21 + 4) d.cells)) :
    PromReg n Q 4 #[true, false, true, true, true, true, false, false, false] ({ tmps := #[x0, x1, x2, x3, x4, .pointer (some ⟨n0, 0, none⟩), x6, .pointer (some ⟨b, j * 21, none⟩), x8, x9, x10, x11, x12, x13, x14, x15, x16, x17, .pointer (some ⟨b, j * 21, none⟩), x19, .agg #[.int .u64 d.x0, .int .u64 d.x1, .int .u64 d.x2, .int .u64 d.x3, .int .u64 d.x4, .int .u64 d.x5, .int .u64 d.x6, .int .u64 d.x7], .pointer (some ⟨b, j * 21, none⟩), .pointer (some ⟨b, j * 21 + 1, none⟩), x23, x24], defers := [] }) (w1.setCell ⟨b, j * 21 + 1, none⟩ (.int .i64 2)) := by
  have HQ := Lib.hid hQ; clear hQ
  have HE := Lib.hid hE; clear hE
  have HN1 := Lib.hid (pr_012345 n n0 b j d st x0 x1 x2 x3 x4 x6 x8 x9 x10 x11 x12 x13 x14 x15 x16 x17 _x18 x19 _x20 _x21 _x22 x23 x24 Q w1 HE.out HQ.out)
  unfold PromReg
  refine wpAnyIn_ready (rs := [1]) (by kernel_rfl) (by simp) ?_
  refine AllReadyIn.cons rfl (fun K hK => ?_) ?_
  · go_simp
    refine hK _ _ ?_; clear hK K
    exact HN1.out
  exact AllReadyIn.nil

set_option maxRecDepth 100000 in
set_option maxHeartbeats 1000000 in
theorem pr_01345 (n n0 b j : Nat) (d : L8) (st : Int) (x0 x1 x2 x3 x4 x6 x8 x9 x10 x11 x12 x13 x14 x15 x16 x17 _x18 _x19 x20 _x21 _x22 x23 x24 : Value) (Q : Exit → Act → World → Prop) (w1 : World) (hE : PromAt w1 b j n0 d st) (hQ : Q .normal ({ tmps := #[x0, x1, x2, x3, x4, .pointer (some ⟨n0, 0, none⟩), x6, .pointer (some ⟨b, j * 21, none⟩), x8, x9, x10, x11, x12, x13, x14, x15, x16, x17, .pointer (some ⟨b, j * 21, none⟩), .pointer (some ⟨b, j * 21, none⟩), .agg #[.int .u64 d.x0, .int .u64 d.x1, .int .u64 d.x2, .int .u64 d.x3, .int .u64 d.x4, .int .u64 d.x5, .int .u64 d.x6, .int .u64 d.x7], .pointer (some ⟨b, j * 21, none⟩), .pointer (some ⟨b, j * 21 + 1, none⟩), .pointer (some ⟨b, j * 21, none⟩), .pointer (some ⟨b, j * 21 + 4, none⟩)], defers := [] }) ((w1.setCell ⟨b, j * 21 + 1, none⟩ (.int .i64 2)).setCells b (j * 21 + 4) d.cells)) :
    PromReg n Q 4 #[true, true, false, true, true, true, false, false, false] ({ tmps := #[x0, x1, x2, x3, x4, .pointer (some ⟨n0, 0, none⟩), x6, .pointer (some ⟨b, j * 21, none⟩), x8, x9, x10, x11, x12, x13, x14, x15, x16, x17, .pointer (some ⟨b, j * 21, none⟩), .pointer (some ⟨b, j * 21, none⟩), x20, .pointer (some ⟨b, j * 21, none⟩), .pointer (some ⟨b, j * 21 + 1, none⟩), x23, x24], defers := [] }) (w1.setCell ⟨b, j * 21 + 1, none⟩ (.int .i64 2)) := by
  have HQ := Lib.hid hQ; clear hQ
  have HE := Lib.hid hE; clear hE
  have HN2 := Lib.hid (pr_012345 n n0 b j d st x0 x1 x2 x3 x4 x6 x8 x9 x10 x11 x12 x13 x14 x15 x16 x17 _x18 _x19 x20 _x21 _x22 x23 x24 Q w1 HE.out HQ.out)
  unfold PromReg
  refine wpAnyIn_ready (rs := [2]) (by kernel_rfl) (by simp) ?_
  refine AllReadyIn.cons rfl (fun K hK => ?_) ?_
  · refine step_load_in rfl 36 (.tmp 5) rfl n0 0 rfl d.cells _ HE.out.r2 Try.underlying36 rfl Try.size36 ?_
    refine hK _ _ ?_; clear hK K
    exact HN2.out
  exact AllReadyIn.nil

set_option maxRecDepth 100000 in
set_option maxHeartbeats 1000000 in
theorem pr_0123 (n n0 b j : Nat) (d : L8) (st : Int) (x0 x1 x2 x3 x4 x6 x8 x9 x10 x11 x12 x13 x14 x15 x16 x17 _x18 _x19 _x20 _x21 x22 x23 x24 : Value) (Q : Exit → Act → World → Prop) (w1 : World) (hE : PromAt w1 b j n0 d st) (hQ : Q .normal ({ tmps := #[x0, x1, x2, x3, x4, .pointer (some ⟨n0, 0, none⟩), x6, .pointer (some ⟨b, j * 21, none⟩), x8, x9, x10, x11, x12, x13, x14, x15, x16, x17, .pointer (some ⟨b, j * 21, none⟩), .pointer (some ⟨b, j * 21, none⟩), .agg #[.int .u64 d.x0, .int .u64 d.x1, .int .u64 d.x2, .int .u64 d.x3, .int .u64 d.x4, .int .u64 d.x5, .int .u64 d.x6, .int .u64 d.x7], .pointer (some ⟨b, j * 21, none⟩), .pointer (some ⟨b, j * 21 + 1, none⟩), .pointer (some ⟨b, j * 21, none⟩), .pointer (some ⟨b, j * 21 + 4, none⟩)], defers := [] }) ((w1.setCell ⟨b, j * 21 + 1, none⟩ (.int .i64 2)).setCells b (j * 21 + 4) d.cells)) :
    PromReg n Q 5 #[true, true, true, true, false, false, false, false, false] ({ tmps := #[x0, x1, x2, x3, x4, .pointer (some ⟨n0, 0, none⟩), x6, .pointer (some ⟨b, j * 21, none⟩), x8, x9, x10, x11, x12, x13, x14, x15, x16, x17, .pointer (some ⟨b, j * 21, none⟩), .pointer (some ⟨b, j * 21, none⟩), .agg #[.int .u64 d.x0, .int .u64 d.x1, .int .u64 d.x2, .int .u64 d.x3, .int .u64 d.x4, .int .u64 d.x5, .int .u64 d.x6, .int .u64 d.x7], .pointer (some ⟨b, j * 21, none⟩), x22, x23, x24], defers := [] }) w1 := by
  have HQ := Lib.hid hQ; clear hQ
  have HE := Lib.hid hE; clear hE
  have HN4 := Lib.hid (pr_01234 n n0 b j d st x0 x1 x2 x3 x4 x6 x8 x9 x10 x11 x12 x13 x14 x15 x16 x17 _x18 _x19 _x20 _x21 x22 x23 x24 Q w1 HE.out HQ.out)
  unfold PromReg
  refine wpAnyIn_ready (rs := [4]) (by kernel_rfl) (by simp) ?_
  refine AllReadyIn.cons rfl (fun K hK => ?_) ?_
  · go_simp
    refine hK _ _ ?_; clear hK K
    exact HN4.out
  exact AllReadyIn.nil

set_option maxRecDepth 100000 in
set_option maxHeartbeats 1000000 in
theorem pr_0234 (n n0 b j : Nat) (d : L8) (st : Int) (x0 x1 x2 x3 x4 x6 x8 x9 x10 x11 x12 x13 x14 x15 x16 x17 _x18 x19 _x20 _x21 _x22 x23 x24 : Value) (Q : Exit → Act → World → Prop) (w1 : World) (hE : PromAt w1 b j n0 d st) (hQ : Q .normal ({ tmps := #[x0, x1, x2, x3, x4, .pointer (some ⟨n0, 0, none⟩), x6, .pointer (some ⟨b, j * 21, none⟩), x8, x9, x10, x11, x12, x13, x14, x15, x16, x17, .pointer (some ⟨b, j * 21, none⟩), .pointer (some ⟨b, j * 21, none⟩), .agg #[.int .u64 d.x0, .int .u64 d.x1, .int .u64 d.x2, .int .u64 d.x3, .int .u64 d.x4, .int .u64 d.x5, .int .u64 d.x6, .int .u64 d.x7], .pointer (some ⟨b, j * 21, none⟩), .pointer (some ⟨b, j * 21 + 1, none⟩), .pointer (some ⟨b, j * 21, none⟩), .pointer (some ⟨b, j * 21 + 4, none⟩)], defers := [] }) ((w1.setCell ⟨b, j * 21 + 1, none⟩ (.int .i64 2)).setCells b (j * 21 + 4) d.cells)) :
    PromReg n Q 5 #[true, false, true, true, true, false, false, false, false] ({ tmps := #[x0, x1, x2, x3, x4, .pointer (some ⟨n0, 0, none⟩), x6, .pointer (some ⟨b, j * 21, none⟩), x8, x9, x10, x11, x12, x13, x14, x15, x16, x17, .pointer (some ⟨b, j * 21, none⟩), x19, .agg #[.int .u64 d.x0, .int .u64 d.x1, .int .u64 d.x2, .int .u64 d.x3, .int .u64 d.x4, .int .u64 d.x5, .int .u64 d.x6, .int .u64 d.x7], .pointer (some ⟨b, j * 21, none⟩), .pointer (some ⟨b, j * 21 + 1, none⟩), x23, x24], defers := [] }) w1 := by
  have HQ := Lib.hid hQ; clear hQ
  have HE := Lib.hid hE; clear hE
  have HN1 := Lib.hid (pr_01234 n n0 b j d st x0 x1 x2 x3 x4 x6 x8 x9 x10 x11 x12 x13 x14 x15 x16 x17 _x18 x19 _x20 _x21 _x22 x23 x24 Q w1 HE.out HQ.out)
  have HN5 := Lib.hid (pr_02345 n n0 b j d st x0 x1 x2 x3 x4 x6 x8 x9 x10 x11 x12 x13 x14 x15 x16 x17 _x18 x19 _x20 _x21 _x22 x23 x24 Q w1 HE.out HQ.out)
  have c1 := HE.out.c1
  have f1 := HE.out.f1
  unfold PromReg
  refine wpAnyIn_ready (rs := [1, 5]) (by kernel_rfl) (by simp) ?_
  refine AllReadyIn.cons rfl (fun K hK => ?_) ?_
  · go_simp
    refine hK _ _ ?_; clear hK K
    exact HN1.out
  refine AllReadyIn.cons rfl (fun K hK => ?_) ?_
  · go_simp
    refine hK _ _ ?_; clear hK K
    exact HN5.out
  exact AllReadyIn.nil

set_option maxRecDepth 100000 in
set_option maxHeartbeats 1000000 in
theorem pr_0134 (n n0 b j : Nat) (d : L8) (st : Int) (x0 x1 x2 x3 x4 x6 x8 x9 x10 x11 x12 x13 x14 x15 x16 x17 _x18 _x19 x20 _x21 _x22 x23 x24 : Value) (Q : Exit → Act → World → Prop) (w1 : World) (hE : PromAt w1 b j n0 d st) (hQ : Q .normal ({ tmps := #[x0, x1, x2, x3, x4, .pointer (some ⟨n0, 0, none⟩), x6, .pointer (some ⟨b, j * 21, none⟩), x8, x9, x10, x11, x12, x13, x14, x15, x16, x17, .pointer (some ⟨b, j * 21, none⟩), .pointer (some ⟨b, j * 21, none⟩), .agg #[.int .u64 d.x0, .int .u64 d.x1, .int .u64 d.x2, .int .u64 d.x3, .int .u64 d.x4, .int .u64 d.x5, .int .u64 d.x6, .int .u64 d.x7], .pointer (some ⟨b, j * 21, none⟩), .pointer (some ⟨b, j * 21 + 1, none⟩), .pointer (some ⟨b, j * 21, none⟩), .pointer (some ⟨b, j * 21 + 4, none⟩)], defers := [] }) ((w1.setCell ⟨b, j * 21 + 1, none⟩ (.int .i64 2)).setCells b (j * 21 + 4) d.cells)) :
    PromReg n Q 5 #[true, true, false, true, true, false, false, false, false] ({ tmps := #[x0, x1, x2, x3, x4, .pointer (some ⟨n0, 0, none⟩), x6, .pointer (some ⟨b, j * 21, none⟩), x8, x9, x10, x11, x12, x13, x14, x15, x16, x17, .pointer (some ⟨b, j * 21, none⟩), .pointer (some ⟨b, j * 21, none⟩), x20, .pointer (some ⟨b, j * 21, none⟩), .pointer (some ⟨b, j * 21 + 1, none⟩), x23, x24], defers := [] }) w1 := by
  have HQ := Lib.hid hQ; clear hQ
  have HE := Lib.hid hE; clear hE
  have HN2 := Lib.hid (pr_01234 n n0 b j d st x0 x1 x2 x3 x4 x6 x8 x9 x10 x11 x12 x13 x14 x15 x16 x17 _x18 _x19 x20 _x21 _x22 x23 x24 Q w1 HE.out HQ.out)
  have HN5 := Lib.hid (pr_01345 n n0 b j d st x0 x1 x2 x3 x4 x6 x8 x9 x10 x11 x12 x13 x14 x15 x16 x17 _x18 _x19 x20 _x21 _x22 x23 x24 Q w1 HE.out HQ.out)
  have c1 := HE.out.c1
  have f1 := HE.out.f1
  unfold PromReg
  refine wpAnyIn_ready (rs := [2, 5]) (by kernel_rfl) (by simp) ?_
  refine AllReadyIn.cons rfl (fun K hK => ?_) ?_
  · refine step_load_in rfl 36 (.tmp 5) rfl n0 0 rfl d.cells _ HE.out.r1 Try.underlying36 rfl Try.size36 ?_
    refine hK _ _ ?_; clear hK K
    exact HN2.out
  refine AllReadyIn.cons rfl (fun K hK => ?_) ?_
  · go_simp
    refine hK _ _ ?_; clear hK K
    exact HN5.out
  exact AllReadyIn.nil

set_option maxRecDepth 100000 in
set_option maxHeartbeats 1000000 in
theorem pr_0345 (n n0 b j : Nat) (d : L8) (st : Int) (x0 x1 x2 x3 x4 x6 x8 x9 x10 x11 x12 x13 x14 x15 x16 x17 _x18 x19 x20 _x21 _x22 x23 x24 : Value) (Q : Exit → Act → World → Prop) (w1 : World) (hE : PromAt w1 b j n0 d st) (hQ : Q .normal ({ tmps := #[x0, x1, x2, x3, x4, .pointer (some ⟨n0, 0, none⟩), x6, .pointer (some ⟨b, j * 21, none⟩), x8, x9, x10, x11, x12, x13, x14, x15, x16, x17, .pointer (some ⟨b, j * 21, none⟩), .pointer (some ⟨b, j * 21, none⟩), .agg #[.int .u64 d.x0, .int .u64 d.x1, .int .u64 d.x2, .int .u64 d.x3, .int .u64 d.x4, .int .u64 d.x5, .int .u64 d.x6, .int .u64 d.x7], .pointer (some ⟨b, j * 21, none⟩), .pointer (some ⟨b, j * 21 + 1, none⟩), .pointer (some ⟨b, j * 21, none⟩), .pointer (some ⟨b, j * 21 + 4, none⟩)], defers := [] }) ((w1.setCell ⟨b, j * 21 + 1, none⟩ (.int .i64 2)).setCells b (j * 21 + 4) d.cells)) :
    PromReg n Q 5 #[true, false, false, true, true, true, false, false, false] ({ tmps := #[x0, x1, x2, x3, x4, .pointer (some ⟨n0, 0, none⟩), x6, .pointer (some ⟨b, j * 21, none⟩), x8, x9, x10, x11, x12, x13, x14, x15, x16, x17, .pointer (some ⟨b, j * 21, none⟩), x19, x20, .pointer (some ⟨b, j * 21, none⟩), .pointer (some ⟨b, j * 21 + 1, none⟩), x23, x24], defers := [] }) (w1.setCell ⟨b, j * 21 + 1, none⟩ (.int .i64 2)) := by
  have HQ := Lib.hid hQ; clear hQ
  have HE := Lib.hid hE; clear hE
  have HN1 := Lib.hid (pr_01345 n n0 b j d st x0 x1 x2 x3 x4 x6 x8 x9 x10 x11 x12 x13 x14 x15 x16 x17 _x18 x19 x20 _x21 _x22 x23 x24 Q w1 HE.out HQ.out)
  have HN2 := Lib.hid (pr_02345 n n0 b j d st x0 x1 x2 x3 x4 x6 x8 x9 x10 x11 x12 x13 x14 x15 x16 x17 _x18 x19 x20 _x21 _x22 x23 x24 Q w1 HE.out HQ.out)
  unfold PromReg
  refine wpAnyIn_ready (rs := [1, 2]) (by kernel_rfl) (by simp) ?_
  refine AllReadyIn.cons rfl (fun K hK => ?_) ?_
  · go_simp
    refine hK _ _ ?_; clear hK K
    exact HN1.out
  refine AllReadyIn.cons rfl (fun K hK => ?_) ?_
  · refine step_load_in rfl 36 (.tmp 5) rfl n0 0 rfl d.cells _ HE.out.r2 Try.underlying36 rfl Try.size36 ?_
    refine hK _ _ ?_; clear hK K
    exact HN2.out
  exact AllReadyIn.nil

set_option maxRecDepth 100000 in
set_option maxHeartbeats 1000000 in
theorem pr_012 (n n0 b j : Nat) (d : L8) (st : Int) (x0 x1 x2 x3 x4 x6 x8 x9 x10 x11 x12 x13 x14 x15 x16 x17 _x18 _x19 _x20 x21 x22 x23 x24 : Value) (Q : Exit → Act → World → Prop) (w1 : World) (hE : PromAt w1 b j n0 d st) (hQ : Q .normal ({ tmps := #[x0, x1, x2, x3, x4, .pointer (some ⟨n0, 0, none⟩), x6, .pointer (some ⟨b, j * 21, none⟩), x8, x9, x10, x11, x12, x13, x14, x15, x16, x17, .pointer (some ⟨b, j * 21, none⟩), .pointer (some ⟨b, j * 21, none⟩), .agg #[.int .u64 d.x0, .int .u64 d.x1, .int .u64 d.x2, .int .u64 d.x3, .int .u64 d.x4, .int .u64 d.x5, .int .u64 d.x6, .int .u64 d.x7], .pointer (some ⟨b, j * 21, none⟩), .pointer (some ⟨b, j * 21 + 1, none⟩), .pointer (some ⟨b, j * 21, none⟩), .pointer (some ⟨b, j * 21 + 4, none⟩)], defers := [] }) ((w1.setCell ⟨b, j * 21 + 1, none⟩ (.int .i64 2)).setCells b (j * 21 + 4) d.cells)) :
    PromReg n Q 6 #[true, true, true, false, false, false, false, false, false] ({ tmps := #[x0, x1, x2, x3, x4, .pointer (some ⟨n0, 0, none⟩), x6, .pointer (some ⟨b, j * 21, none⟩), x8, x9, x10, x11, x12, x13, x14, x15, x16, x17, .pointer (some ⟨b, j * 21, none⟩), .pointer (some ⟨b, j * 21, none⟩), .agg #[.int .u64 d.x0, .int .u64 d.x1, .int .u64 d.x2, .int .u64 d.x3, .int .u64 d.x4, .int .u64 d.x5, .int .u64 d.x6, .int .u64 d.x7], x21, x22, x23, x24], defers := [] }) w1 := by
  have HQ := Lib.hid hQ; clear hQ
  have HE := Lib.hid hE; clear hE
  have HN3 := Lib.hid (pr_0123 n n0 b j d st x0 x1 x2 x3 x4 x6 x8 x9 x10 x11 x12 x13 x14 x15 x16 x17 _x18 _x19 _x20 x21 x22 x23 x24 Q w1 HE.out HQ.out)
  unfold PromReg
  refine wpAnyIn_ready (rs := [3]) (by kernel_rfl) (by simp) ?_
  refine AllReadyIn.cons rfl (fun K hK => ?_) ?_
  · go_simp
    refine hK _ _ ?_; clear hK K
    exact HN3.out
  exact AllReadyIn.nil

set_option maxRecDepth 100000 in
set_option maxHeartbeats 1000000 in
theorem pr_023 (n n0 b j : Nat) (d : L8) (st : Int) (x0 x1 x2 x3 x4 x6 x8 x9 x10 x11 x12 x13 x14 x15 x16 x17 _x18 x19 _x20 _x21 x22 x23 x24 : Value) (Q : Exit → Act → World → Prop) (w1 : World) (hE : PromAt w1 b j n0 d st) (hQ : Q .normal ({ tmps := #[x0, x1, x2, x3, x4, .pointer (some ⟨n0, 0, none⟩), x6, .pointer (some ⟨b, j * 21, none⟩), x8, x9, x10, x11, x12, x13, x14, x15, x16, x17, .pointer (some ⟨b, j * 21, none⟩), .pointer (some ⟨b, j * 21, none⟩), .agg #[.int .u64 d.x0, .int .u64 d.x1, .int .u64 d.x2, .int .u64 d.x3, .int .u64 d.x4, .int .u64 d.x5, .int .u64 d.x6, .int .u64 d.x7], .pointer (some ⟨b, j * 21, none⟩), .pointer (some ⟨b, j * 21 + 1, none⟩), .pointer (some ⟨b, j * 21, none⟩), .pointer (some ⟨b, j * 21 + 4, none⟩)], defers := [] }) ((w1.setCell ⟨b, j * 21 + 1, none⟩ (.int .i64 2)).setCells b (j * 21 + 4) d.cells)) :
    PromReg n Q 6 #[true, false, true, true, false, false, false, false, false] ({ tmps := #[x0, x1, x2, x3, x4, .pointer (some ⟨n0, 0, none⟩), x6, .pointer (some ⟨b, j * 21, none⟩), x8, x9, x10, x11, x12, x13, x14, x15, x16, x17, .pointer (some ⟨b, j * 21, none⟩), x19, .agg #[.int .u64 d.x0, .int .u64 d.x1, .int .u64 d.x2, .int .u64 d.x3, .int .u64 d.x4, .int .u64 d.x5, .int .u64 d.x6, .int .u64 d.x7], .pointer (some ⟨b, j * 21, none⟩), x22, x23, x24], defers := [] }) w1 := by
  have HQ := Lib.hid hQ; clear hQ
  have HE := Lib.hid hE; clear hE
  have HN1 := Lib.hid (pr_0123 n n0 b j d st x0 x1 x2 x3 x4 x6 x8 x9 x10 x11 x12 x13 x14 x15 x16 x17 _x18 x19 _x20 _x21 x22 x23 x24 Q w1 HE.out HQ.out)
  have HN4 := Lib.hid (pr_0234 n n0 b j d st x0 x1 x2 x3 x4 x6 x8 x9 x10 x11 x12 x13 x14 x15 x16 x17 _x18 x19 _x20 _x21 x22 x23 x24 Q w1 HE.out HQ.out)
  unfold PromReg
  refine wpAnyIn_ready (rs := [1, 4]) (by kernel_rfl) (by simp) ?_
  refine AllReadyIn.cons rfl (fun K hK => ?_) ?_
  · go_simp
    refine hK _ _ ?_; clear hK K
    exact HN1.out
  refine AllReadyIn.cons rfl (fun K hK => ?_) ?_
  · go_simp
    refine hK _ _ ?_; clear hK K
    exact HN4.out
  exact AllReadyIn.nil

set_option maxRecDepth 100000 in
set_option maxHeartbeats 1000000 in
theorem pr_013 (n n0 b j : Nat) (d : L8) (st : Int) (x0 x1 x2 x3 x4 x6 x8 x9 x10 x11 x12 x13 x14 x15 x16 x17 _x18 _x19 x20 _x21 x22 x23 x24 : Value) (Q : Exit → Act → World → Prop) (w1 : World) (hE : PromAt w1 b j n0 d st) (hQ : Q .normal ({ tmps := #[x0, x1, x2, x3, x4, .pointer (some ⟨n0, 0, none⟩), x6, .pointer (some ⟨b, j * 21, none⟩), x8, x9, x10, x11, x12, x13, x14, x15, x16, x17, .pointer (some ⟨b, j * 21, none⟩), .pointer (some ⟨b, j * 21, none⟩), .agg #[.int .u64 d.x0, .int .u64 d.x1, .int .u64 d.x2, .int .u64 d.x3, .int .u64 d.x4, .int .u64 d.x5, .int .u64 d.x6, .int .u64 d.x7], .pointer (some ⟨b, j * 21, none⟩), .pointer (some ⟨b, j * 21 + 1, none⟩), .pointer (some ⟨b, j * 21, none⟩), .pointer (some ⟨b, j * 21 + 4, none⟩)], defers := [] }) ((w1.setCell ⟨b, j * 21 + 1, none⟩ (.int .i64 2)).setCells b (j * 21 + 4) d.cells)) :
    PromReg n Q 6 #[true, true, false, true, false, false, false, false, false] ({ tmps := #[x0, x1, x2, x3, x4, .pointer (some ⟨n0, 0, none⟩), x6, .pointer (some ⟨b, j * 21, none⟩), x8, x9, x10, x11, x12, x13, x14, x15, x16, x17, .pointer (some ⟨b, j * 21, none⟩), .pointer (some ⟨b, j * 21, none⟩), x20, .pointer (some ⟨b, j * 21, none⟩), x22, x23, x24], defers := [] }) w1 := by
  have HQ := Lib.hid hQ; clear hQ
  have HE := Lib.hid hE; clear hE
  have HN2 := Lib.hid (pr_0123 n n0 b j d st x0 x1 x2 x3 x4 x6 x8 x9 x10 x11 x12 x13 x14 x15 x16 x17 _x18 _x19 x20 _x21 x22 x23 x24 Q w1 HE.out HQ.out)
  have HN4 := Lib.hid (pr_0134 n n0 b j d st x0 x1 x2 x3 x4 x6 x8 x9 x10 x11 x12 x13 x14 x15 x16 x17 _x18 _x19 x20 _x21 x22 x23 x24 Q w1 HE.out HQ.out)
  unfold PromReg
  refine wpAnyIn_ready (rs := [2, 4]) (by kernel_rfl) (by simp) ?_
  refine AllReadyIn.cons rfl (fun K hK => ?_) ?_
  · refine step_load_in rfl 36 (.tmp 5) rfl n0 0 rfl d.cells _ HE.out.r1 Try.underlying36 rfl Try.size36 ?_
    refine hK _ _ ?_; clear hK K
    exact HN2.out
  refine AllReadyIn.cons rfl (fun K hK => ?_) ?_
  · go_simp
    refine hK _ _ ?_; clear hK K
    exact HN4.out
  exact AllReadyIn.nil

set_option maxRecDepth 100000 in
set_option maxHeartbeats 1000000 in
theorem pr_034 (n n0 b j : Nat) (d : L8) (st : Int) (x0 x1 x2 x3 x4 x6 x8 x9 x10 x11 x12 x13 x14 x15 x16 x17 _x18 x19 x20 _x21 _x22 x23 x24 : Value) (Q : Exit → Act → World → Prop) (w1 : World) (hE : PromAt w1 b j n0 d st) (hQ : Q .normal ({ tmps := #[x0, x1, x2, x3, x4, .pointer (some ⟨n0, 0, none⟩), x6, .pointer (some ⟨b, j * 21, none⟩), x8, x9, x10, x11, x12, x13, x14, x15, x16, x17, .pointer (some ⟨b, j * 21, none⟩), .pointer (some ⟨b, j * 21, none⟩), .agg #[.int .u64 d.x0, .int .u64 d.x1, .int .u64 d.x2, .int .u64 d.x3, .int .u64 d.x4, .int .u64 d.x5, .int .u64 d.x6, .int .u64 d.x7], .pointer (some ⟨b, j * 21, none⟩), .pointer (some ⟨b, j * 21 + 1, none⟩), .pointer (some ⟨b, j * 21, none⟩), .pointer (some ⟨b, j * 21 + 4, none⟩)], defers := [] }) ((w1.setCell ⟨b, j * 21 + 1, none⟩ (.int .i64 2)).setCells b (j * 21 + 4) d.cells)) :
    PromReg n Q 6 #[true, false, false, true, true, false, false, false, false] ({ tmps := #[x0, x1, x2, x3, x4, .pointer (some ⟨n0, 0, none⟩), x6, .pointer (some ⟨b, j * 21, none⟩), x8, x9, x10, x11, x12, x13, x14, x15, x16, x17, .pointer (some ⟨b, j * 21, none⟩), x19, x20, .pointer (some ⟨b, j * 21, none⟩), .pointer (some ⟨b, j * 21 + 1, none⟩), x23, x24], defers := [] }) w1 := by
  have HQ := Lib.hid hQ; clear hQ
  have HE := Lib.hid hE; clear hE
  have HN1 := Lib.hid (pr_0134 n n0 b j d st x0 x1 x2 x3 x4 x6 x8 x9 x10 x11 x12 x13 x14 x15 x16 x17 _x18 x19 x20 _x21 _x22 x23 x24 Q w1 HE.out HQ.out)
  have HN2 := Lib.hid (pr_0234 n n0 b j d st x0 x1 x2 x3 x4 x6 x8 x9 x10 x11 x12 x13 x14 x15 x16 x17 _x18 x19 x20 _x21 _x22 x23 x24 Q w1 HE.out HQ.out)
  have HN5 := Lib.hid (pr_0345 n n0 b j d st x0 x1 x2 x3 x4 x6 x8 x9 x10 x11 x12 x13 x14 x15 x16 x17 _x18 x19 x20 _x21 _x22 x23 x24 Q w1 HE.out HQ.out)
  have c1 := HE.out.c1
  have f1 := HE.out.f1
  unfold PromReg
  refine wpAnyIn_ready (rs := [1, 2, 5]) (by kernel_rfl) (by simp) ?_
  refine AllReadyIn.cons rfl (fun K hK => ?_) ?_
  · go_simp
    refine hK _ _ ?_; clear hK K
    exact HN1.out
  refine AllReadyIn.cons rfl (fun K hK => ?_) ?_
  · refine step_load_in rfl 36 (.tmp 5) rfl n0 0 rfl d.cells _ HE.out.r1 Try.underlying36 rfl Try.size36 ?_
    refine hK _ _ ?_; clear hK K
    exact HN2.out
  refine AllReadyIn.cons rfl (fun K hK => ?_) ?_
  · go_simp
    refine hK _ _ ?_; clear hK K
    exact HN5.out
  exact AllReadyIn.nil

set_option maxRecDepth 100000 in
set_option maxHeartbeats 1000000 in
theorem pr_12 (n n0 b j : Nat) (d : L8) (st : Int) (x0 x1 x2 x3 x4 x6 x8 x9 x10 x11 x12 x13 x14 x15 x16 x17 x18 _x19 _x20 x21 x22 x23 x24 : Value) (Q : Exit → Act → World → Prop) (w1 : World) (hE : PromAt w1 b j n0 d st) (hQ : Q .normal ({ tmps := #[x0, x1, x2, x3, x4, .pointer (some ⟨n0, 0, none⟩), x6, .pointer (some ⟨b, j * 21, none⟩), x8, x9, x10, x11, x12, x13, x14, x15, x16, x17, .pointer (some ⟨b, j * 21, none⟩), .pointer (some ⟨b, j * 21, none⟩), .agg #[.int .u64 d.x0, .int .u64 d.x1, .int .u64 d.x2, .int .u64 d.x3, .int .u64 d.x4, .int .u64 d.x5, .int .u64 d.x6, .int .u64 d.x7], .pointer (some ⟨b, j * 21, none⟩), .pointer (some ⟨b, j * 21 + 1, none⟩), .pointer (some ⟨b, j * 21, none⟩), .pointer (some ⟨b, j * 21 + 4, none⟩)], defers := [] }) ((w1.setCell ⟨b, j * 21 + 1, none⟩ (.int .i64 2)).setCells b (j * 21 + 4) d.cells)) :
    PromReg n Q 7 #[false, true, true, false, false, false, false, false, false] ({ tmps := #[x0, x1, x2, x3, x4, .pointer (some ⟨n0, 0, none⟩), x6, .pointer (some ⟨b, j * 21, none⟩), x8, x9, x10, x11, x12, x13, x14, x15, x16, x17, x18, .pointer (some ⟨b, j * 21, none⟩), .agg #[.int .u64 d.x0, .int .u64 d.x1, .int .u64 d.x2, .int .u64 d.x3, .int .u64 d.x4, .int .u64 d.x5, .int .u64 d.x6, .int .u64 d.x7], x21, x22, x23, x24], defers := [] }) w1 := by
  have HQ := Lib.hid hQ; clear hQ
  have HE := Lib.hid hE; clear hE
  have HN0 := Lib.hid (pr_012 n n0 b j d st x0 x1 x2 x3 x4 x6 x8 x9 x10 x11 x12 x13 x14 x15 x16 x17 x18 _x19 _x20 x21 x22 x23 x24 Q w1 HE.out HQ.out)
  unfold PromReg
  refine wpAnyIn_ready (rs := [0]) (by kernel_rfl) (by simp) ?_
  refine AllReadyIn.cons rfl (fun K hK => ?_) ?_
  · go_simp
    refine hK _ _ ?_; clear hK K
    exact HN0.out
  exact AllReadyIn.nil

set_option maxRecDepth 100000 in
set_option maxHeartbeats 1000000 in
theorem pr_02 (n n0 b j : Nat) (d : L8) (st : Int) (x0 x1 x2 x3 x4 x6 x8 x9 x10 x11 x12 x13 x14 x15 x16 x17 _x18 x19 _x20 x21 x22 x23 x24 : Value) (Q : Exit → Act → World → Prop) (w1 : World) (hE : PromAt w1 b j n0 d st) (hQ : Q .normal ({ tmps := #[x0, x1, x2, x3, x4, .pointer (some ⟨n0, 0, none⟩), x6, .pointer (some ⟨b, j * 21, none⟩), x8, x9, x10, x11, x12, x13, x14, x15, x16, x17, .pointer (some ⟨b, j * 21, none⟩), .pointer (some ⟨b, j * 21, none⟩), .agg #[.int .u64 d.x0, .int .u64 d.x1, .int .u64 d.x2, .int .u64 d.x3, .int .u64 d.x4, .int .u64 d.x5, .int .u64 d.x6, .int .u64 d.x7], .pointer (some ⟨b, j * 21, none⟩), .pointer (some ⟨b, j * 21 + 1, none⟩), .pointer (some ⟨b, j * 21, none⟩), .pointer (some ⟨b, j * 21 + 4, none⟩)], defers := [] }) ((w1.setCell ⟨b, j * 21 + 1, none⟩ (.int .i64 2)).setCells b (j * 21 + 4) d.cells)) :
    PromReg n Q 7 #[true, false, true, false, false, false, false, false, false] ({ tmps := #[x0, x1, x2, x3, x4, .pointer (some ⟨n0, 0, none⟩), x6, .pointer (some ⟨b, j * 21, none⟩), x8, x9, x10, x11, x12, x13, x14, x15, x16, x17, .pointer (some ⟨b, j * 21, none⟩), x19, .agg #[.int .u64 d.x0, .int .u64 d.x1, .int .u64 d.x2, .int .u64 d.x3, .int .u64 d.x4, .int .u64 d.x5, .int .u64 d.x6, .int .u64 d.x7], x21, x22, x23, x24], defers := [] }) w1 := by
  have HQ := Lib.hid hQ; clear hQ
  have HE := Lib.hid hE; clear hE
  have HN1 := Lib.hid (pr_012 n n0 b j d st x0 x1 x2 x3 x4 x6 x8 x9 x10 x11 x12 x13 x14 x15 x16 x17 _x18 x19 _x20 x21 x22 x23 x24 Q w1 HE.out HQ.out)
  have HN3 := Lib.hid (pr_023 n n0 b j d st x0 x1 x2 x3 x4 x6 x8 x9 x10 x11 x12 x13 x14 x15 x16 x17 _x18 x19 _x20 x21 x22 x23 x24 Q w1 HE.out HQ.out)
  unfold PromReg
  refine wpAnyIn_ready (rs := [1, 3]) (by kernel_rfl) (by simp) ?_
  refine AllReadyIn.cons rfl (fun K hK => ?_) ?_
  · go_simp
    refine hK _ _ ?_; clear hK K
    exact HN1.out
  refine AllReadyIn.cons rfl (fun K hK => ?_) ?_
  · go_simp
    refine hK _ _ ?_; clear hK K
    exact HN3.out
  exact AllReadyIn.nil

set_option maxRecDepth 100000 in
set_option maxHeartbeats 1000000 in
theorem pr_01 (n n0 b j : Nat) (d : L8) (st : Int) (x0 x1 x2 x3 x4 x6 x8 x9 x10 x11 x12 x13 x14 x15 x16 x17 _x18 _x19 x20 x21 x22 x23 x24 : Value) (Q : Exit → Act → World → Prop) (w1 : World) (hE : PromAt w1 b j n0 d st) (hQ : Q .normal ({ tmps := #[x0, x1, x2, x3, x4, .pointer (some ⟨n0, 0, none⟩), x6, .pointer (some ⟨b, j * 21, none⟩), x8, x9, x10, x11, x12, x13, x14, x15, x16, x17, .pointer (some ⟨b, j * 21, none⟩), .pointer (some ⟨b, j * 21, none⟩), .agg #[.int .u64 d.x0, .int .u64 d.x1, .int .u64 d.x2, .int .u64 d.x3, .int .u64 d.x4, .int .u64 d.x5, .int .u64 d.x6, .int .u64 d.x7], .pointer (some ⟨b, j * 21, none⟩), .pointer (some ⟨b, j * 21 + 1, none⟩), .pointer (some ⟨b, j * 21, none⟩), .pointer (some ⟨b, j * 21 + 4, none⟩)], defers := [] }) ((w1.setCell ⟨b, j * 21 + 1, none⟩ (.int .i64 2)).setCells b (j * 21 + 4) d.cells)) :
    PromReg n Q 7 #[true, true, false, false, false, false, false, false, false] ({ tmps := #[x0, x1, x2, x3, x4, .pointer (some ⟨n0, 0, none⟩), x6, .pointer (some ⟨b, j * 21, none⟩), x8, x9, x10, x11, x12, x13, x14, x15, x16, x17, .pointer (some ⟨b, j * 21, none⟩), .pointer (some ⟨b, j * 21, none⟩), x20, x21, x22, x23, x24], defers := [] }) w1 := by
  have HQ := Lib.hid hQ; clear hQ
  have HE := Lib.hid hE; clear hE
  have HN2 := Lib.hid (pr_012 n n0 b j d st x0 x1 x2 x3 x4 x6 x8 x9 x10 x11 x12 x13 x14 x15 x16 x17 _x18 _x19 x20 x21 x22 x23 x24 Q w1 HE.out HQ.out)
  have HN3 := Lib.hid (pr_013 n n0 b j d st x0 x1 x2 x3 x4 x6 x8 x9 x10 x11 x12 x13 x14 x15 x16 x17 _x18 _x19 x20 x21 x22 x23 x24 Q w1 HE.out HQ.out)
  unfold PromReg
  refine wpAnyIn_ready (rs := [2, 3]) (by kernel_rfl) (by simp) ?_
  refine AllReadyIn.cons rfl (fun K hK => ?_) ?_
  · refine step_load_in rfl 36 (.tmp 5) rfl n0 0 rfl d.cells _ HE.out.r1 Try.underlying36 rfl Try.size36 ?_
    refine hK _ _ ?_; clear hK K
    exact HN2.out
  refine AllReadyIn.cons rfl (fun K hK => ?_) ?_
  · go_simp
    refine hK _ _ ?_; clear hK K
    exact HN3.out
  exact AllReadyIn.nil

set_option maxRecDepth 100000 in
set_option maxHeartbeats 1000000 in
theorem pr_03 (n n0 b j : Nat) (d : L8) (st : Int) (x0 x1 x2 x3 x4 x6 x8 x9 x10 x11 x12 x13 x14 x15 x16 x17 _x18 x19 x20 _x21 x22 x23 x24 : Value) (Q : Exit → Act → World → Prop) (w1 : World) (hE : PromAt w1 b j n0 d st) (hQ : Q .normal ({ tmps := #[x0, x1, x2, x3, x4, .pointer (some ⟨n0, 0, none⟩), x6, .pointer (some ⟨b, j * 21, none⟩), x8, x9, x10, x11, x12, x13, x14, x15, x16, x17, .pointer (some ⟨b, j * 21, none⟩), .pointer (some ⟨b, j * 21, none⟩), .agg #[.int .u64 d.x0, .int .u64 d.x1, .int .u64 d.x2, .int .u64 d.x3, .int .u64 d.x4, .int .u64 d.x5, .int .u64 d.x6, .int .u64 d.x7], .pointer (some ⟨b, j * 21, none⟩), .pointer (some ⟨b, j * 21 + 1, none⟩), .pointer (some ⟨b, j * 21, none⟩), .pointer (some ⟨b, j * 21 + 4, none⟩)], defers := [] }) ((w1.setCell ⟨b, j * 21 + 1, none⟩ (.int .i64 2)).setCells b (j * 21 + 4) d.cells)) :
    PromReg n Q 7 #[true, false, false, true, false, false, false, false, false] ({ tmps := #[x0, x1, x2, x3, x4, .pointer (some ⟨n0, 0, none⟩), x6, .pointer (some ⟨b, j * 21, none⟩), x8, x9, x10, x11, x12, x13, x14, x15, x16, x17, .pointer (some ⟨b, j * 21, none⟩), x19, x20, .pointer (some ⟨b, j * 21, none⟩), x22, x23, x24], defers := [] }) w1 := by
  have HQ := Lib.hid hQ; clear hQ
  have HE := Lib.hid hE; clear hE
  have HN1 := Lib.hid (pr_013 n n0 b j d st x0 x1 x2 x3 x4 x6 x8 x9 x10 x11 x12 x13 x14 x15 x16 x17 _x18 x19 x20 _x21 x22 x23 x24 Q w1 HE.out HQ.out)
  have HN2 := Lib.hid (pr_023 n n0 b j d st x0 x1 x2 x3 x4 x6 x8 x9 x10 x11 x12 x13 x14 x15 x16 x17 _x18 x19 x20 _x21 x22 x23 x24 Q w1 HE.out HQ.out)
  have HN4 := Lib.hid (pr_034 n n0 b j d st x0 x1 x2 x3 x4 x6 x8 x9 x10 x11 x12 x13 x14 x15 x16 x17 _x18 x19 x20 _x21 x22 x23 x24 Q w1 HE.out HQ.out)
  unfold PromReg
  refine wpAnyIn_ready (rs := [1, 2, 4]) (by kernel_rfl) (by simp) ?_
  refine AllReadyIn.cons rfl (fun K hK => ?_) ?_
  · go_simp
    refine hK _ _ ?_; clear hK K
    exact HN1.out
  refine AllReadyIn.cons rfl (fun K hK => ?_) ?_
  · refine step_load_in rfl 36 (.tmp 5) rfl n0 0 rfl d.cells _ HE.out.r1 Try.underlying36 rfl Try.size36 ?_
    refine hK _ _ ?_; clear hK K
    exact HN2.out
  refine AllReadyIn.cons rfl (fun K hK => ?_) ?_
  · go_simp
    refine hK _ _ ?_; clear hK K
    exact HN4.out
  exact AllReadyIn.nil

set_option maxRecDepth 100000 in
set_option maxHeartbeats 1000000 in
theorem pr_2 (n n0 b j : Nat) (d : L8) (st : Int) (x0 x1 x2 x3 x4 x6 x8 x9 x10 x11 x12 x13 x14 x15 x16 x17 x18 x19 _x20 x21 x22 x23 x24 : Value) (Q : Exit → Act → World → Prop) (w1 : World) (hE : PromAt w1 b j n0 d st) (hQ : Q .normal ({ tmps := #[x0, x1, x2, x3, x4, .pointer (some ⟨n0, 0, none⟩), x6, .pointer (some ⟨b, j * 21, none⟩), x8, x9, x10, x11, x12, x13, x14, x15, x16, x17, .pointer (some ⟨b, j * 21, none⟩), .pointer (some ⟨b, j * 21, none⟩), .agg #[.int .u64 d.x0, .int .u64 d.x1, .int .u64 d.x2, .int .u64 d.x3, .int .u64 d.x4, .int .u64 d.x5, .int .u64 d.x6, .int .u64 d.x7], .pointer (some ⟨b, j * 21, none⟩), .pointer (some ⟨b, j * 21 + 1, none⟩), .pointer (some ⟨b, j * 21, none⟩), .pointer (some ⟨b, j * 21 + 4, none⟩)], defers := [] }) ((w1.setCell ⟨b, j * 21 + 1, none⟩ (.int .i64 2)).setCells b (j * 21 + 4) d.cells)) :
    PromReg n Q 8 #[false, false, true, false, false, false, false, false, false] ({ tmps := #[x0, x1, x2, x3, x4, .pointer (some ⟨n0, 0, none⟩), x6, .pointer (some ⟨b, j * 21, none⟩), x8, x9, x10, x11, x12, x13, x14, x15, x16, x17, x18, x19, .agg #[.int .u64 d.x0, .int .u64 d.x1, .int .u64 d.x2, .int .u64 d.x3, .int .u64 d.x4, .int .u64 d.x5, .int .u64 d.x6, .int .u64 d.x7], x21, x22, x23, x24], defers := [] }) w1 := by
  have HQ := Lib.hid hQ; clear hQ
  have HE := Lib.hid hE; clear hE
  have HN0 := Lib.hid (pr_02 n n0 b j d st x0 x1 x2 x3 x4 x6 x8 x9 x10 x11 x12 x13 x14 x15 x16 x17 x18 x19 _x20 x21 x22 x23 x24 Q w1 HE.out HQ.out)
  have HN1 := Lib.hid (pr_12 n n0 b j d st x0 x1 x2 x3 x4 x6 x8 x9 x10 x11 x12 x13 x14 x15 x16 x17 x18 x19 _x20 x21 x22 x23 x24 Q w1 HE.out HQ.out)
  unfold PromReg
  refine wpAnyIn_ready (rs := [0, 1]) (by kernel_rfl) (by simp) ?_
  refine AllReadyIn.cons rfl (fun K hK => ?_) ?_
  · go_simp
    refine hK _ _ ?_; clear hK K
    exact HN0.out
  refine AllReadyIn.cons rfl (fun K hK => ?_) ?_
  · go_simp
    refine hK _ _ ?_; clear hK K
    exact HN1.out
  exact AllReadyIn.nil

set_option maxRecDepth 100000 in
set_option maxHeartbeats 1000000 in
theorem pr_1 (n n0 b j : Nat) (d : L8) (st : Int) (x0 x1 x2 x3 x4 x6 x8 x9 x10 x11 x12 x13 x14 x15 x16 x17 x18 _x19 x20 x21 x22 x23 x24 : Value) (Q : Exit → Act → World → Prop) (w1 : World) (hE : PromAt w1 b j n0 d st) (hQ : Q .normal ({ tmps := #[x0, x1, x2, x3, x4, .pointer (some ⟨n0, 0, none⟩), x6, .pointer (some ⟨b, j * 21, none⟩), x8, x9, x10, x11, x12, x13, x14, x15, x16, x17, .pointer (some ⟨b, j * 21, none⟩), .pointer (some ⟨b, j * 21, none⟩), .agg #[.int .u64 d.x0, .int .u64 d.x1, .int .u64 d.x2, .int .u64 d.x3, .int .u64 d.x4, .int .u64 d.x5, .int .u64 d.x6, .int .u64 d.x7], .pointer (some ⟨b, j * 21, none⟩), .pointer (some ⟨b, j * 21 + 1, none⟩), .pointer (some ⟨b, j * 21, none⟩), .pointer (some ⟨b, j * 21 + 4, none⟩)], defers := [] }) ((w1.setCell ⟨b, j * 21 + 1, none⟩ (.int .i64 2)).setCells b (j * 21 + 4) d.cells)) :
    PromReg n Q 8 #[false, true, false, false, false, false, false, false, false] ({ tmps := #[x0, x1, x2, x3, x4, .pointer (some ⟨n0, 0, none⟩), x6, .pointer (some ⟨b, j * 21, none⟩), x8, x9, x10, x11, x12, x13, x14, x15, x16, x17, x18, .pointer (some ⟨b, j * 21, none⟩), x20, x21, x22, x23, x24], defers := [] }) w1 := by
  have HQ := Lib.hid hQ; clear hQ
  have HE := Lib.hid hE; clear hE
  have HN0 := Lib.hid (pr_01 n n0 b j d st x0 x1 x2 x3 x4 x6 x8 x9 x10 x11 x12 x13 x14 x15 x16 x17 x18 _x19 x20 x21 x22 x23 x24 Q w1 HE.out HQ.out)
  have HN2 := Lib.hid (pr_12 n n0 b j d st x0 x1 x2 x3 x4 x6 x8 x9 x10 x11 x12 x13 x14 x15 x16 x17 x18 _x19 x20 x21 x22 x23 x24 Q w1 HE.out HQ.out)
  unfold PromReg
  refine wpAnyIn_ready (rs := [0, 2]) (by kernel_rfl) (by simp) ?_
  refine AllReadyIn.cons rfl (fun K hK => ?_) ?_
  · go_simp
    refine hK _ _ ?_; clear hK K
    exact HN0.out
  refine AllReadyIn.cons rfl (fun K hK => ?_) ?_
  · refine step_load_in rfl 36 (.tmp 5) rfl n0 0 rfl d.cells _ HE.out.r1 Try.underlying36 rfl Try.size36 ?_
    refine hK _ _ ?_; clear hK K
    exact HN2.out
  exact AllReadyIn.nil

set_option maxRecDepth 100000 in
set_option maxHeartbeats 1000000 in
theorem pr_0 (n n0 b j : Nat) (d : L8) (st : Int) (x0 x1 x2 x3 x4 x6 x8 x9 x10 x11 x12 x13 x14 x15 x16 x17 _x18 x19 x20 x21 x22 x23 x24 : Value) (Q : Exit → Act → World → Prop) (w1 : World) (hE : PromAt w1 b j n0 d st) (hQ : Q .normal ({ tmps := #[x0, x1, x2, x3, x4, .pointer (some ⟨n0, 0, none⟩), x6, .pointer (some ⟨b, j * 21, none⟩), x8, x9, x10, x11, x12, x13, x14, x15, x16, x17, .pointer (some ⟨b, j * 21, none⟩), .pointer (some ⟨b, j * 21, none⟩), .agg #[.int .u64 d.x0, .int .u64 d.x1, .int .u64 d.x2, .int .u64 d.x3, .int .u64 d.x4, .int .u64 d.x5, .int .u64 d.x6, .int .u64 d.x7], .pointer (some ⟨b, j * 21, none⟩), .pointer (some ⟨b, j * 21 + 1, none⟩), .pointer (some ⟨b, j * 21, none⟩), .pointer (some ⟨b, j * 21 + 4, none⟩)], defers := [] }) ((w1.setCell ⟨b, j * 21 + 1, none⟩ (.int .i64 2)).setCells b (j * 21 + 4) d.cells)) :
    PromReg n Q 8 #[true, false, false, false, false, false, false, false, false] ({ tmps := #[x0, x1, x2, x3, x4, .pointer (some ⟨n0, 0, none⟩), x6, .pointer (some ⟨b, j * 21, none⟩), x8, x9, x10, x11, x12, x13, x14, x15, x16, x17, .pointer (some ⟨b, j * 21, none⟩), x19, x20, x21, x22, x23, x24], defers := [] }) w1 := by
  have HQ := Lib.hid hQ; clear hQ
  have HE := Lib.hid hE; clear hE
  have HN1 := Lib.hid (pr_01 n n0 b j d st x0 x1 x2 x3 x4 x6 x8 x9 x10 x11 x12 x13 x14 x15 x16 x17 _x18 x19 x20 x21 x22 x23 x24 Q w1 HE.out HQ.out)
  have HN2 := Lib.hid (pr_02 n n0 b j d st x0 x1 x2 x3 x4 x6 x8 x9 x10 x11 x12 x13 x14 x15 x16 x17 _x18 x19 x20 x21 x22 x23 x24 Q w1 HE.out HQ.out)
  have HN3 := Lib.hid (pr_03 n n0 b j d st x0 x1 x2 x3 x4 x6 x8 x9 x10 x11 x12 x13 x14 x15 x16 x17 _x18 x19 x20 x21 x22 x23 x24 Q w1 HE.out HQ.out)
  unfold PromReg
  refine wpAnyIn_ready (rs := [1, 2, 3]) (by kernel_rfl) (by simp) ?_
  refine AllReadyIn.cons rfl (fun K hK => ?_) ?_
  · go_simp
    refine hK _ _ ?_; clear hK K
    exact HN1.out
  refine AllReadyIn.cons rfl (fun K hK => ?_) ?_
  · refine step_load_in rfl 36 (.tmp 5) rfl n0 0 rfl d.cells _ HE.out.r1 Try.underlying36 rfl Try.size36 ?_
    refine hK _ _ ?_; clear hK K
    exact HN2.out
  refine AllReadyIn.cons rfl (fun K hK => ?_) ?_
  · go_simp
    refine hK _ _ ?_; clear hK K
    exact HN3.out
  exact AllReadyIn.nil

set_option maxRecDepth 100000 in
set_option maxHeartbeats 1000000 in
theorem pr_s (n n0 b j : Nat) (d : L8) (st : Int) (x0 x1 x2 x3 x4 x6 x8 x9 x10 x11 x12 x13 x14 x15 x16 x17 x18 x19 x20 x21 x22 x23 x24 : Value) (Q : Exit → Act → World → Prop) (w1 : World) (hE : PromAt w1 b j n0 d st) (hQ : Q .normal ({ tmps := #[x0, x1, x2, x3, x4, .pointer (some ⟨n0, 0, none⟩), x6, .pointer (some ⟨b, j * 21, none⟩), x8, x9, x10, x11, x12, x13, x14, x15, x16, x17, .pointer (some ⟨b, j * 21, none⟩), .pointer (some ⟨b, j * 21, none⟩), .agg #[.int .u64 d.x0, .int .u64 d.x1, .int .u64 d.x2, .int .u64 d.x3, .int .u64 d.x4, .int .u64 d.x5, .int .u64 d.x6, .int .u64 d.x7], .pointer (some ⟨b, j * 21, none⟩), .pointer (some ⟨b, j * 21 + 1, none⟩), .pointer (some ⟨b, j * 21, none⟩), .pointer (some ⟨b, j * 21 + 4, none⟩)], defers := [] }) ((w1.setCell ⟨b, j * 21 + 1, none⟩ (.int .i64 2)).setCells b (j * 21 + 4) d.cells)) :
    PromReg n Q 9 #[false, false, false, false, false, false, false, false, false] ({ tmps := #[x0, x1, x2, x3, x4, .pointer (some ⟨n0, 0, none⟩), x6, .pointer (some ⟨b, j * 21, none⟩), x8, x9, x10, x11, x12, x13, x14, x15, x16, x17, x18, x19, x20, x21, x22, x23, x24], defers := [] }) w1 := by
  have HQ := Lib.hid hQ; clear hQ
  have HE := Lib.hid hE; clear hE
  have HN0 := Lib.hid (pr_0 n n0 b j d st x0 x1 x2 x3 x4 x6 x8 x9 x10 x11 x12 x13 x14 x15 x16 x17 x18 x19 x20 x21 x22 x23 x24 Q w1 HE.out HQ.out)
  have HN1 := Lib.hid (pr_1 n n0 b j d st x0 x1 x2 x3 x4 x6 x8 x9 x10 x11 x12 x13 x14 x15 x16 x17 x18 x19 x20 x21 x22 x23 x24 Q w1 HE.out HQ.out)
  have HN2 := Lib.hid (pr_2 n n0 b j d st x0 x1 x2 x3 x4 x6 x8 x9 x10 x11 x12 x13 x14 x15 x16 x17 x18 x19 x20 x21 x22 x23 x24 Q w1 HE.out HQ.out)
  unfold PromReg
  refine wpAnyIn_ready (rs := [0, 1, 2]) (by kernel_rfl) (by simp) ?_
  refine AllReadyIn.cons rfl (fun K hK => ?_) ?_
  · go_simp
    refine hK _ _ ?_; clear hK K
    exact HN0.out
  refine AllReadyIn.cons rfl (fun K hK => ?_) ?_
  · go_simp
    refine hK _ _ ?_; clear hK K
    exact HN1.out
  refine AllReadyIn.cons rfl (fun K hK => ?_) ?_
  · refine step_load_in rfl 36 (.tmp 5) rfl n0 0 rfl d.cells _ HE.out.r1 Try.underlying36 rfl Try.size36 ?_
    refine hK _ _ ?_; clear hK K
    exact HN2.out
  exact AllReadyIn.nil

set_option maxRecDepth 100000 in
set_option maxHeartbeats 1000000 in
theorem prom_region (n n0 b j : Nat) (d : L8) (st : Int) (x0 x1 x2 x3 x4 x6 x8 x9 x10 x11 x12 x13 x14 x15 x16 x17 x18 x19 x20 x21 x22 x23 x24 : Value) (Q : Exit → Act → World → Prop) (w0 : World) (hE : PromAt w0.drew b j n0 d st) (hQ : Q .normal ({ tmps := #[x0, x1, x2, x3, x4, .pointer (some ⟨n0, 0, none⟩), x6, .pointer (some ⟨b, j * 21, none⟩), x8, x9, x10, x11, x12, x13, x14, x15, x16, x17, .pointer (some ⟨b, j * 21, none⟩), .pointer (some ⟨b, j * 21, none⟩), .agg #[.int .u64 d.x0, .int .u64 d.x1, .int .u64 d.x2, .int .u64 d.x3, .int .u64 d.x4, .int .u64 d.x5, .int .u64 d.x6, .int .u64 d.x7], .pointer (some ⟨b, j * 21, none⟩), .pointer (some ⟨b, j * 21 + 1, none⟩), .pointer (some ⟨b, j * 21, none⟩), .pointer (some ⟨b, j * 21 + 4, none⟩)], defers := [] }) ((w0.drew.setCell ⟨b, j * 21 + 1, none⟩ (.int .i64 2)).setCells b (j * 21 + 4) d.cells)) :
    (Code.region 4 #[{ dst := some 18, op := Op.move (Operand.tmp 7), type := 113, pos := "l1.go:112", after := #[], guard := none },
      { dst := some 19, op := Op.move (Operand.tmp 7), type := 113, pos := "l1.go:112", after := #[{ on := 5, ground := Ground.gcOnly Departure.lateStores }], guard := none },
      { dst := some 20, op := Op.load 36 (Operand.tmp 5), type := 36, pos := "l1.go:112", after := #[{ on := 5, ground := Ground.gcOnly Departure.lateStores }], guard := none },
      { dst := some 21, op := Op.nilCheck (Operand.tmp 18), type := 0, pos := "l1.go:112", after := #[{ on := 0, ground := Ground.data }, { on := 0, ground := Ground.phase }, { on := 1, ground := Ground.textOnly Departure.lateStores }, { on := 2, ground := Ground.textOnly Departure.lateStores }], guard := none },
      { dst := some 22, op := Op.fieldAddr 42 (Operand.tmp 21) 1, type := 0, pos := "l1.go:112", after := #[{ on := 3, ground := Ground.data }, { on := 0, ground := Ground.phase }, { on := 1, ground := Ground.textOnly Departure.lateStores }, { on := 2, ground := Ground.textOnly Departure.lateStores }], guard := none },
      { dst := none, op := Op.store 3 (Operand.tmp 22) (Operand.const (Value.int IntKind.i64 2)), type := 0, pos := "l1.go:112", after := #[{ on := 4, ground := Ground.data }, { on := 0, ground := Ground.phase }, { on := 1, ground := Ground.textOnly Departure.lateStores }, { on := 2, ground := Ground.textOnly Departure.lateStores }], guard := none },
      { dst := some 23, op := Op.nilCheck (Operand.tmp 19), type := 0, pos := "l1.go:112", after := #[{ on := 1, ground := Ground.data }, { on := 0, ground := Ground.phase }, { on := 1, ground := Ground.phase }, { on := 2, ground := Ground.phase }, { on := 3, ground := Ground.phase }, { on := 4, ground := Ground.phase }, { on := 5, ground := Ground.phase }], guard := none },
      { dst := some 24, op := Op.fieldAddr 42 (Operand.tmp 23) 4, type := 0, pos := "l1.go:112", after := #[{ on := 6, ground := Ground.data }, { on := 0, ground := Ground.phase }, { on := 1, ground := Ground.phase }, { on := 2, ground := Ground.phase }, { on := 3, ground := Ground.phase }, { on := 4, ground := Ground.phase }, { on := 5, ground := Ground.phase }], guard := none },
      { dst := none, op := Op.store 36 (Operand.tmp 24) (Operand.tmp 20), type := 0, pos := "l1.go:112", after := #[{ on := 7, ground := Ground.data }, { on := 2, ground := Ground.data }, { on := 5, ground := Ground.chain }, { on := 0, ground := Ground.phase }, { on := 1, ground := Ground.phase }, { on := 2, ground := Ground.phase }, { on := 3, ground := Ground.phase }, { on := 4, ground := Ground.phase }, { on := 5, ground := Ground.phase }], guard := none }] true).wpIn Fence.wide n Try.prog Q ({ tmps := #[x0, x1, x2, x3, x4, .pointer (some ⟨n0, 0, none⟩), x6, .pointer (some ⟨b, j * 21, none⟩), x8, x9, x10, x11, x12, x13, x14, x15, x16, x17, x18, x19, x20, x21, x22, x23, x24], defers := [] }) w0 := by
  have hn := pr_s n n0 b j d st x0 x1 x2 x3 x4 x6 x8 x9 x10 x11 x12 x13 x14 x15 x16 x17 x18 x19 x20 x21 x22 x23 x24 Q w0.drew hE hQ
  have HN := Lib.hid hn; clear hn hE hQ
  refine wpIn_region_any (by kernel_rfl) ?_
  exact HN.out

end Go.Proofs.Ytddajnpichchfaa
