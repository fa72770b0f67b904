/- Fill: the store of the new entry, in whatever order. Conditions: those stated in each theorem. -/
import Derived.Test.YtddajnpichchfaaNew
namespace Go.Proofs.Ytddajnpichchfaa
open Go.RowKit
attribute [local simp] wide_fn

theorem Holds.rangeAll {w : World} {b : Nat} {t : TypeId} {L : List Value} (h : Holds w b t L) : w.rangeAt b 0 L := fun i v hi => by rw [Nat.zero_add]; exact h.cell hi

/-- A store of a row in the midst of a block. -/
theorem step_store_in {F : Fence} {n : Nat} {P : Program} {ops : Array Oper} {o : Oper} {a : Act} {w : World} {K : Act → World → Prop} {Q : Exit → Act → World → Prop} {E : Prop} (hg : o.guard = none) (ty : TypeId) (x y : Operand) (hop : o.op = .store ty x y)
    (b off : Nat) (cells : Array Value) (hx : a.eval x = .pointer (some ⟨b, off, none⟩)) (hy : a.eval y = .agg cells) (ht : w.there b off cells.size) (hi : (P.info? ty).map (·.size) = some cells.size) (h1 : cells.all (·.oneCell') = true) (h : K (a.put o.dst undef) (w.setCells b off cells.toList)) :
    if Region.wanted o (yielded ops a.tmps) = true then o.wpIn F n P a w K Q else E := by
  have hw : Region.wanted o (yielded ops a.tmps) = true := by simp [Region.wanted, hg]
  rw [if_pos hw]
  unfold Oper.wpIn
  refine ⟨?_, ?_⟩
  · simp [Oper.about, hop]
  · rw [Oper.semAt_plain F _ _ (by rw [hop]; intro c hc'; cases hc')]
    unfold execOp
    simp only [hop, hx, hy, Instr.storeAt, Instr.sureAddr, Sem.run_bind, Sem.run_pure, Result.andThen_ok, run_storeVar_mid w b off ty cells ht hi h1]
    exact h

def FillReg (n : Nat) (Q : Exit → Act → World → Prop) (fuel : Nat) (listed : Array Bool) (a : Act) (w : World) : Prop :=
  wpAnyIn Fence.wide n Try.prog .any #[{ dst := some 47, op := Op.move (Operand.tmp 13), type := 113, pos := "l1.go:55", after := #[], guard := none },
      { dst := some 48, op := Op.move (Operand.tmp 1), type := 3, pos := "l1.go:55", after := #[], guard := none },
      { dst := some 49, op := Op.move (Operand.tmp 2), type := 3, pos := "l1.go:55", after := #[], guard := none },
      { dst := some 50, op := Op.load 36 (Operand.tmp 7), type := 36, pos := "l1.go:55", after := #[], guard := none },
      { dst := some 51, op := Op.move (Operand.tmp 0), type := 23, pos := "l1.go:55", after := #[], guard := none },
      { dst := some 52, op := Op.call { callee := Callee.value (Operand.func 71), args := #[Operand.tmp 51], argTypes := #[23] }, type := 3, pos := "l1.go:55", after := #[{ on := 4, ground := Ground.data }], guard := none },
      { dst := some 53, op := Op.build 42 #[(0, Operand.tmp 48), (1, Operand.tmp 49), (4, Operand.tmp 50), (6, Operand.tmp 52)], type := 42, pos := "l1.go:55", after := #[{ on := 1, ground := Ground.data }, { on := 2, ground := Ground.data }, { on := 3, ground := Ground.data }, { on := 5, ground := Ground.data }], guard := none },
      { dst := some 54, op := Op.nilCheck (Operand.tmp 47), type := 0, pos := "l1.go:55", after := #[{ on := 0, ground := Ground.data }, { on := 0, ground := Ground.phase }, { on := 1, ground := Ground.phase }, { on := 2, ground := Ground.phase }, { on := 3, ground := Ground.phase }, { on := 4, ground := Ground.phase }, { on := 5, ground := Ground.phase }, { on := 6, ground := Ground.phase }], guard := none },
      { dst := none, op := Op.store 42 (Operand.tmp 54) (Operand.tmp 53), type := 0, pos := "l1.go:55", after := #[{ on := 7, ground := Ground.data }, { on := 6, ground := Ground.data }, { on := 5, ground := Ground.chain }, { on := 0, ground := Ground.phase }, { on := 1, ground := Ground.phase }, { on := 2, ground := Ground.phase }, { on := 3, ground := Ground.phase }, { on := 4, ground := Ground.phase }, { on := 5, ground := Ground.phase }, { on := 6, ground := Ground.phase }], guard := none }] Q fuel listed a w

/-- An entry as it comes. -/
def Ent.fresh (k st : Int) (d : L8) (u : Int) : Ent := ⟨k, st, false, false, d, L8.zero, u⟩

set_option maxRecDepth 100000 in
set_option maxHeartbeats 1000000 in
theorem fr_8 (n n0 p b j : Nat) (k st u : Int) (d : L8) (x3 x4 x5 x6 x8 x9 x10 x11 x12 x14 x15 x16 x17 x18 x19 x20 x21 x22 x23 x24 x25 x26 x27 x28 x29 x30 x31 x32 x33 x34 x35 x36 x37 x38 x39 x40 x41 x42 x43 x44 x45 x46 _x47 _x48 _x49 _x50 _x51 _x52 _x53 _x54 x55 x56 x57 x58 : Value) (Q : Exit → Act → World → Prop) (w4 : World) (ht : w4.there b (j * 21) 21) (hQ : Q .normal ({ tmps := #[.pointer (some ⟨p, 0, none⟩), .int .i64 k, .int .i64 st, x3, x4, x5, x6, .pointer (some ⟨n0, 0, none⟩), x8, x9, x10, x11, x12, .pointer (some ⟨b, j * 21, none⟩), x14, x15, x16, x17, x18, x19, x20, x21, x22, x23, x24, x25, x26, x27, x28, x29, x30, x31, x32, x33, x34, x35, x36, x37, x38, x39, x40, x41, x42, x43, x44, x45, x46, .pointer (some ⟨b, j * 21, none⟩), .int .i64 k, .int .i64 st, .agg #[.int .u64 d.x0, .int .u64 d.x1, .int .u64 d.x2, .int .u64 d.x3, .int .u64 d.x4, .int .u64 d.x5, .int .u64 d.x6, .int .u64 d.x7], .pointer (some ⟨p, 0, none⟩), .int .i64 (u + 1), .agg #[.int .i64 k, .int .i64 st, .bool false, .bool false, .int .u64 d.x0, .int .u64 d.x1, .int .u64 d.x2, .int .u64 d.x3, .int .u64 d.x4, .int .u64 d.x5, .int .u64 d.x6, .int .u64 d.x7, .int .u64 0, .int .u64 0, .int .u64 0, .int .u64 0, .int .u64 0, .int .u64 0, .int .u64 0, .int .u64 0, .int .i64 (u + 1)], .pointer (some ⟨b, j * 21, none⟩), x55, x56, x57, x58], defers := [] }) (w4.setCells b (j * 21) (Ent.fresh k st d (u + 1)).cells)) :
    FillReg n Q 1 #[true, true, true, true, true, true, true, true, false] ({ tmps := #[.pointer (some ⟨p, 0, none⟩), .int .i64 k, .int .i64 st, x3, x4, x5, x6, .pointer (some ⟨n0, 0, none⟩), x8, x9, x10, x11, x12, .pointer (some ⟨b, j * 21, none⟩), x14, x15, x16, x17, x18, x19, x20, x21, x22, x23, x24, x25, x26, x27, x28, x29, x30, x31, x32, x33, x34, x35, x36, x37, x38, x39, x40, x41, x42, x43, x44, x45, x46, .pointer (some ⟨b, j * 21, none⟩), .int .i64 k, .int .i64 st, .agg #[.int .u64 d.x0, .int .u64 d.x1, .int .u64 d.x2, .int .u64 d.x3, .int .u64 d.x4, .int .u64 d.x5, .int .u64 d.x6, .int .u64 d.x7], .pointer (some ⟨p, 0, none⟩), .int .i64 (u + 1), .agg #[.int .i64 k, .int .i64 st, .bool false, .bool false, .int .u64 d.x0, .int .u64 d.x1, .int .u64 d.x2, .int .u64 d.x3, .int .u64 d.x4, .int .u64 d.x5, .int .u64 d.x6, .int .u64 d.x7, .int .u64 0, .int .u64 0, .int .u64 0, .int .u64 0, .int .u64 0, .int .u64 0, .int .u64 0, .int .u64 0, .int .i64 (u + 1)], .pointer (some ⟨b, j * 21, none⟩), x55, x56, x57, x58], defers := [] }) w4 := by
  unfold FillReg
  have HQ := Lib.hid hQ; clear hQ
  refine wpAnyIn_ready (rs := [8]) (by kernel_rfl) (by simp) ?_
  refine AllReadyIn.cons rfl (fun K hK => ?_) ?_
  · refine step_store_in rfl 42 (.tmp 54) (.tmp 53) rfl b (j * 21) (Ent.fresh k st d (u + 1)).cells.toArray rfl rfl ht Try.size42 (oneEnt _) ?_
    refine hK _ _ ?_; clear hK K
    refine wpAnyIn_done (by kernel_rfl) ?_ _
    exact HQ.out
  exact AllReadyIn.nil

set_option maxRecDepth 100000 in
set_option maxHeartbeats 1000000 in
theorem fr_7 (n n0 p b j : Nat) (k st u : Int) (d : L8) (x3 x4 x5 x6 x8 x9 x10 x11 x12 x14 x15 x16 x17 x18 x19 x20 x21 x22 x23 x24 x25 x26 x27 x28 x29 x30 x31 x32 x33 x34 x35 x36 x37 x38 x39 x40 x41 x42 x43 x44 x45 x46 x47 x48 x49 x50 x51 x52 x53 x54 x55 x56 x57 x58 : Value) (Q : Exit → Act → World → Prop) (w4 : World) (ht : w4.there b (j * 21) 21) (hQ : Q .normal ({ tmps := #[.pointer (some ⟨p, 0, none⟩), .int .i64 k, .int .i64 st, x3, x4, x5, x6, .pointer (some ⟨n0, 0, none⟩), x8, x9, x10, x11, x12, .pointer (some ⟨b, j * 21, none⟩), x14, x15, x16, x17, x18, x19, x20, x21, x22, x23, x24, x25, x26, x27, x28, x29, x30, x31, x32, x33, x34, x35, x36, x37, x38, x39, x40, x41, x42, x43, x44, x45, x46, .pointer (some ⟨b, j * 21, none⟩), .int .i64 k, .int .i64 st, .agg #[.int .u64 d.x0, .int .u64 d.x1, .int .u64 d.x2, .int .u64 d.x3, .int .u64 d.x4, .int .u64 d.x5, .int .u64 d.x6, .int .u64 d.x7], .pointer (some ⟨p, 0, none⟩), .int .i64 (u + 1), .agg #[.int .i64 k, .int .i64 st, .bool false, .bool false, .int .u64 d.x0, .int .u64 d.x1, .int .u64 d.x2, .int .u64 d.x3, .int .u64 d.x4, .int .u64 d.x5, .int .u64 d.x6, .int .u64 d.x7, .int .u64 0, .int .u64 0, .int .u64 0, .int .u64 0, .int .u64 0, .int .u64 0, .int .u64 0, .int .u64 0, .int .i64 (u + 1)], .pointer (some ⟨b, j * 21, none⟩), x55, x56, x57, x58], defers := [] }) (w4.setCells b (j * 21) (Ent.fresh k st d (u + 1)).cells)) :
    FillReg n Q 2 #[true, true, true, true, true, true, true, false, false] ({ tmps := #[.pointer (some ⟨p, 0, none⟩), .int .i64 k, .int .i64 st, x3, x4, x5, x6, .pointer (some ⟨n0, 0, none⟩), x8, x9, x10, x11, x12, .pointer (some ⟨b, j * 21, none⟩), x14, x15, x16, x17, x18, x19, x20, x21, x22, x23, x24, x25, x26, x27, x28, x29, x30, x31, x32, x33, x34, x35, x36, x37, x38, x39, x40, x41, x42, x43, x44, x45, x46, .pointer (some ⟨b, j * 21, none⟩), .int .i64 k, .int .i64 st, .agg #[.int .u64 d.x0, .int .u64 d.x1, .int .u64 d.x2, .int .u64 d.x3, .int .u64 d.x4, .int .u64 d.x5, .int .u64 d.x6, .int .u64 d.x7], .pointer (some ⟨p, 0, none⟩), .int .i64 (u + 1), .agg #[.int .i64 k, .int .i64 st, .bool false, .bool false, .int .u64 d.x0, .int .u64 d.x1, .int .u64 d.x2, .int .u64 d.x3, .int .u64 d.x4, .int .u64 d.x5, .int .u64 d.x6, .int .u64 d.x7, .int .u64 0, .int .u64 0, .int .u64 0, .int .u64 0, .int .u64 0, .int .u64 0, .int .u64 0, .int .u64 0, .int .i64 (u + 1)], x54, x55, x56, x57, x58], defers := [] }) w4 := by
  have hn := fr_8 n n0 p b j k st u d x3 x4 x5 x6 x8 x9 x10 x11 x12 x14 x15 x16 x17 x18 x19 x20 x21 x22 x23 x24 x25 x26 x27 x28 x29 x30 x31 x32 x33 x34 x35 x36 x37 x38 x39 x40 x41 x42 x43 x44 x45 x46 x47 x48 x49 x50 x51 x52 x53 x54 x55 x56 x57 x58 Q w4 ht hQ
  have HN := Lib.hid hn; clear hn hQ ht
  unfold FillReg
  refine wpAnyIn_ready (rs := [7]) (by kernel_rfl) (by simp) ?_
  refine AllReadyIn.cons rfl (fun K hK => ?_) ?_
  · go_simp
    refine hK _ _ ?_; clear hK K
    exact HN.out
  exact AllReadyIn.nil

set_option maxRecDepth 100000 in
set_option maxHeartbeats 1000000 in
theorem fr_6 (n n0 p b j : Nat) (k st u : Int) (d : L8) (x3 x4 x5 x6 x8 x9 x10 x11 x12 x14 x15 x16 x17 x18 x19 x20 x21 x22 x23 x24 x25 x26 x27 x28 x29 x30 x31 x32 x33 x34 x35 x36 x37 x38 x39 x40 x41 x42 x43 x44 x45 x46 x47 x48 x49 x50 x51 x52 x53 x54 x55 x56 x57 x58 : Value) (Q : Exit → Act → World → Prop) (w4 : World) (ht : w4.there b (j * 21) 21) (hQ : Q .normal ({ tmps := #[.pointer (some ⟨p, 0, none⟩), .int .i64 k, .int .i64 st, x3, x4, x5, x6, .pointer (some ⟨n0, 0, none⟩), x8, x9, x10, x11, x12, .pointer (some ⟨b, j * 21, none⟩), x14, x15, x16, x17, x18, x19, x20, x21, x22, x23, x24, x25, x26, x27, x28, x29, x30, x31, x32, x33, x34, x35, x36, x37, x38, x39, x40, x41, x42, x43, x44, x45, x46, .pointer (some ⟨b, j * 21, none⟩), .int .i64 k, .int .i64 st, .agg #[.int .u64 d.x0, .int .u64 d.x1, .int .u64 d.x2, .int .u64 d.x3, .int .u64 d.x4, .int .u64 d.x5, .int .u64 d.x6, .int .u64 d.x7], .pointer (some ⟨p, 0, none⟩), .int .i64 (u + 1), .agg #[.int .i64 k, .int .i64 st, .bool false, .bool false, .int .u64 d.x0, .int .u64 d.x1, .int .u64 d.x2, .int .u64 d.x3, .int .u64 d.x4, .int .u64 d.x5, .int .u64 d.x6, .int .u64 d.x7, .int .u64 0, .int .u64 0, .int .u64 0, .int .u64 0, .int .u64 0, .int .u64 0, .int .u64 0, .int .u64 0, .int .i64 (u + 1)], .pointer (some ⟨b, j * 21, none⟩), x55, x56, x57, x58], defers := [] }) (w4.setCells b (j * 21) (Ent.fresh k st d (u + 1)).cells)) :
    FillReg n Q 3 #[true, true, true, true, true, true, false, false, false] ({ tmps := #[.pointer (some ⟨p, 0, none⟩), .int .i64 k, .int .i64 st, x3, x4, x5, x6, .pointer (some ⟨n0, 0, none⟩), x8, x9, x10, x11, x12, .pointer (some ⟨b, j * 21, none⟩), x14, x15, x16, x17, x18, x19, x20, x21, x22, x23, x24, x25, x26, x27, x28, x29, x30, x31, x32, x33, x34, x35, x36, x37, x38, x39, x40, x41, x42, x43, x44, x45, x46, .pointer (some ⟨b, j * 21, none⟩), .int .i64 k, .int .i64 st, .agg #[.int .u64 d.x0, .int .u64 d.x1, .int .u64 d.x2, .int .u64 d.x3, .int .u64 d.x4, .int .u64 d.x5, .int .u64 d.x6, .int .u64 d.x7], .pointer (some ⟨p, 0, none⟩), .int .i64 (u + 1), x53, x54, x55, x56, x57, x58], defers := [] }) w4 := by
  have hn := fr_7 n n0 p b j k st u d x3 x4 x5 x6 x8 x9 x10 x11 x12 x14 x15 x16 x17 x18 x19 x20 x21 x22 x23 x24 x25 x26 x27 x28 x29 x30 x31 x32 x33 x34 x35 x36 x37 x38 x39 x40 x41 x42 x43 x44 x45 x46 x47 x48 x49 x50 x51 x52 x53 x54 x55 x56 x57 x58 Q w4 ht hQ
  have HN := Lib.hid hn; clear hn hQ ht
  unfold FillReg
  refine wpAnyIn_ready (rs := [6]) (by kernel_rfl) (by simp) ?_
  refine AllReadyIn.cons rfl (fun K hK => ?_) ?_
  · go_simp
    refine hK _ _ ?_; clear hK K
    exact HN.out
  exact AllReadyIn.nil

set_option maxRecDepth 100000 in
set_option maxHeartbeats 1000000 in
theorem fr_3b (n n0 p b j : Nat) (k st u : Int) (d : L8) (x3 x4 x5 x6 x8 x9 x10 x11 x12 x14 x15 x16 x17 x18 x19 x20 x21 x22 x23 x24 x25 x26 x27 x28 x29 x30 x31 x32 x33 x34 x35 x36 x37 x38 x39 x40 x41 x42 x43 x44 x45 x46 x47 x48 x49 x50 x51 x52 x53 x54 x55 x56 x57 x58 : Value) (Q : Exit → Act → World → Prop) (w4 : World) (hbox : w4.rangeAt n0 0 d.cells) (ht : w4.there b (j * 21) 21) (hQ : Q .normal ({ tmps := #[.pointer (some ⟨p, 0, none⟩), .int .i64 k, .int .i64 st, x3, x4, x5, x6, .pointer (some ⟨n0, 0, none⟩), x8, x9, x10, x11, x12, .pointer (some ⟨b, j * 21, none⟩), x14, x15, x16, x17, x18, x19, x20, x21, x22, x23, x24, x25, x26, x27, x28, x29, x30, x31, x32, x33, x34, x35, x36, x37, x38, x39, x40, x41, x42, x43, x44, x45, x46, .pointer (some ⟨b, j * 21, none⟩), .int .i64 k, .int .i64 st, .agg #[.int .u64 d.x0, .int .u64 d.x1, .int .u64 d.x2, .int .u64 d.x3, .int .u64 d.x4, .int .u64 d.x5, .int .u64 d.x6, .int .u64 d.x7], .pointer (some ⟨p, 0, none⟩), .int .i64 (u + 1), .agg #[.int .i64 k, .int .i64 st, .bool false, .bool false, .int .u64 d.x0, .int .u64 d.x1, .int .u64 d.x2, .int .u64 d.x3, .int .u64 d.x4, .int .u64 d.x5, .int .u64 d.x6, .int .u64 d.x7, .int .u64 0, .int .u64 0, .int .u64 0, .int .u64 0, .int .u64 0, .int .u64 0, .int .u64 0, .int .u64 0, .int .i64 (u + 1)], .pointer (some ⟨b, j * 21, none⟩), x55, x56, x57, x58], defers := [] }) (w4.setCells b (j * 21) (Ent.fresh k st d (u + 1)).cells)) :
    FillReg n Q 4 #[true, true, true, false, true, true, false, false, false] ({ tmps := #[.pointer (some ⟨p, 0, none⟩), .int .i64 k, .int .i64 st, x3, x4, x5, x6, .pointer (some ⟨n0, 0, none⟩), x8, x9, x10, x11, x12, .pointer (some ⟨b, j * 21, none⟩), x14, x15, x16, x17, x18, x19, x20, x21, x22, x23, x24, x25, x26, x27, x28, x29, x30, x31, x32, x33, x34, x35, x36, x37, x38, x39, x40, x41, x42, x43, x44, x45, x46, .pointer (some ⟨b, j * 21, none⟩), .int .i64 k, .int .i64 st, x50, .pointer (some ⟨p, 0, none⟩), .int .i64 (u + 1), x53, x54, x55, x56, x57, x58], defers := [] }) w4 := by
  have hn := fr_6 n n0 p b j k st u d x3 x4 x5 x6 x8 x9 x10 x11 x12 x14 x15 x16 x17 x18 x19 x20 x21 x22 x23 x24 x25 x26 x27 x28 x29 x30 x31 x32 x33 x34 x35 x36 x37 x38 x39 x40 x41 x42 x43 x44 x45 x46 x47 x48 x49 x50 x51 x52 x53 x54 x55 x56 x57 x58 Q w4 ht hQ
  have HN := Lib.hid hn; clear hn hQ ht
  unfold FillReg
  refine wpAnyIn_ready (rs := [3]) (by kernel_rfl) (by simp) ?_
  refine AllReadyIn.cons rfl (fun K hK => ?_) ?_
  · refine step_load_in rfl 36 (.tmp 7) rfl n0 0 rfl d.cells _ hbox Try.underlying36 rfl Try.size36 ?_
    refine hK _ _ ?_; clear hK K
    exact HN.out
  exact AllReadyIn.nil

set_option maxRecDepth 100000 in
set_option maxHeartbeats 1000000 in
theorem fr_5b (n n0 p b j : Nat) (k st u : Int) (d : L8) (x3 x4 x5 x6 x8 x9 x10 x11 x12 x14 x15 x16 x17 x18 x19 x20 x21 x22 x23 x24 x25 x26 x27 x28 x29 x30 x31 x32 x33 x34 x35 x36 x37 x38 x39 x40 x41 x42 x43 x44 x45 x46 x47 x48 x49 x50 x51 x52 x53 x54 x55 x56 x57 x58 : Value) (Q : Exit → Act → World → Prop) (w3 : World) (R : World → Prop) (huse : Calls Try.prog 71 #[.pointer (some ⟨p, 0, none⟩)] w3 fun e w' => e = .returned (.int .i64 (u + 1)) ∧ R w') (hQ : ∀ w4, R w4 → w4.rangeAt n0 0 d.cells ∧ w4.there b (j * 21) 21 ∧ Q .normal ({ tmps := #[.pointer (some ⟨p, 0, none⟩), .int .i64 k, .int .i64 st, x3, x4, x5, x6, .pointer (some ⟨n0, 0, none⟩), x8, x9, x10, x11, x12, .pointer (some ⟨b, j * 21, none⟩), x14, x15, x16, x17, x18, x19, x20, x21, x22, x23, x24, x25, x26, x27, x28, x29, x30, x31, x32, x33, x34, x35, x36, x37, x38, x39, x40, x41, x42, x43, x44, x45, x46, .pointer (some ⟨b, j * 21, none⟩), .int .i64 k, .int .i64 st, .agg #[.int .u64 d.x0, .int .u64 d.x1, .int .u64 d.x2, .int .u64 d.x3, .int .u64 d.x4, .int .u64 d.x5, .int .u64 d.x6, .int .u64 d.x7], .pointer (some ⟨p, 0, none⟩), .int .i64 (u + 1), .agg #[.int .i64 k, .int .i64 st, .bool false, .bool false, .int .u64 d.x0, .int .u64 d.x1, .int .u64 d.x2, .int .u64 d.x3, .int .u64 d.x4, .int .u64 d.x5, .int .u64 d.x6, .int .u64 d.x7, .int .u64 0, .int .u64 0, .int .u64 0, .int .u64 0, .int .u64 0, .int .u64 0, .int .u64 0, .int .u64 0, .int .i64 (u + 1)], .pointer (some ⟨b, j * 21, none⟩), x55, x56, x57, x58], defers := [] }) (w4.setCells b (j * 21) (Ent.fresh k st d (u + 1)).cells)) :
    FillReg n Q 4 #[true, true, true, true, true, false, false, false, false] ({ tmps := #[.pointer (some ⟨p, 0, none⟩), .int .i64 k, .int .i64 st, x3, x4, x5, x6, .pointer (some ⟨n0, 0, none⟩), x8, x9, x10, x11, x12, .pointer (some ⟨b, j * 21, none⟩), x14, x15, x16, x17, x18, x19, x20, x21, x22, x23, x24, x25, x26, x27, x28, x29, x30, x31, x32, x33, x34, x35, x36, x37, x38, x39, x40, x41, x42, x43, x44, x45, x46, .pointer (some ⟨b, j * 21, none⟩), .int .i64 k, .int .i64 st, .agg #[.int .u64 d.x0, .int .u64 d.x1, .int .u64 d.x2, .int .u64 d.x3, .int .u64 d.x4, .int .u64 d.x5, .int .u64 d.x6, .int .u64 d.x7], .pointer (some ⟨p, 0, none⟩), x52, x53, x54, x55, x56, x57, x58], defers := [] }) w3 := by
  have Huse := Lib.hid huse; clear huse
  have HQ := Lib.hid hQ; clear hQ
  unfold FillReg
  refine wpAnyIn_ready (rs := [5]) (by kernel_rfl) (by simp) ?_
  refine AllReadyIn.cons rfl (fun K hK => ?_) ?_
  · go_simp
    refine ⟨fun h => (by cases h), ?_⟩
    refine (callsIn_wide.2 Huse.out).mono ?_
    rintro e w4 ⟨rfl, hr⟩
    obtain ⟨q1, q2, q3⟩ := HQ.out w4 hr
    refine hK _ _ ?_; clear hK K
    exact fr_6 n n0 p b j k st u d x3 x4 x5 x6 x8 x9 x10 x11 x12 x14 x15 x16 x17 x18 x19 x20 x21 x22 x23 x24 x25 x26 x27 x28 x29 x30 x31 x32 x33 x34 x35 x36 x37 x38 x39 x40 x41 x42 x43 x44 x45 x46 x47 x48 x49 x50 x51 x52 x53 x54 x55 x56 x57 x58 Q w4 q2 q3
  exact AllReadyIn.nil

set_option maxRecDepth 100000 in
set_option maxHeartbeats 1000000 in
theorem fr_35 (n n0 p b j : Nat) (k st u : Int) (d : L8) (x3 x4 x5 x6 x8 x9 x10 x11 x12 x14 x15 x16 x17 x18 x19 x20 x21 x22 x23 x24 x25 x26 x27 x28 x29 x30 x31 x32 x33 x34 x35 x36 x37 x38 x39 x40 x41 x42 x43 x44 x45 x46 x47 x48 x49 x50 x51 x52 x53 x54 x55 x56 x57 x58 : Value) (Q : Exit → Act → World → Prop) (w3 : World) (R : World → Prop) (hbox : w3.rangeAt n0 0 d.cells) (huse : Calls Try.prog 71 #[.pointer (some ⟨p, 0, none⟩)] w3 fun e w' => e = .returned (.int .i64 (u + 1)) ∧ R w') (hQ : ∀ w4, R w4 → w4.rangeAt n0 0 d.cells ∧ w4.there b (j * 21) 21 ∧ Q .normal ({ tmps := #[.pointer (some ⟨p, 0, none⟩), .int .i64 k, .int .i64 st, x3, x4, x5, x6, .pointer (some ⟨n0, 0, none⟩), x8, x9, x10, x11, x12, .pointer (some ⟨b, j * 21, none⟩), x14, x15, x16, x17, x18, x19, x20, x21, x22, x23, x24, x25, x26, x27, x28, x29, x30, x31, x32, x33, x34, x35, x36, x37, x38, x39, x40, x41, x42, x43, x44, x45, x46, .pointer (some ⟨b, j * 21, none⟩), .int .i64 k, .int .i64 st, .agg #[.int .u64 d.x0, .int .u64 d.x1, .int .u64 d.x2, .int .u64 d.x3, .int .u64 d.x4, .int .u64 d.x5, .int .u64 d.x6, .int .u64 d.x7], .pointer (some ⟨p, 0, none⟩), .int .i64 (u + 1), .agg #[.int .i64 k, .int .i64 st, .bool false, .bool false, .int .u64 d.x0, .int .u64 d.x1, .int .u64 d.x2, .int .u64 d.x3, .int .u64 d.x4, .int .u64 d.x5, .int .u64 d.x6, .int .u64 d.x7, .int .u64 0, .int .u64 0, .int .u64 0, .int .u64 0, .int .u64 0, .int .u64 0, .int .u64 0, .int .u64 0, .int .i64 (u + 1)], .pointer (some ⟨b, j * 21, none⟩), x55, x56, x57, x58], defers := [] }) (w4.setCells b (j * 21) (Ent.fresh k st d (u + 1)).cells)) :
    FillReg n Q 5 #[true, true, true, false, true, false, false, false, false] ({ tmps := #[.pointer (some ⟨p, 0, none⟩), .int .i64 k, .int .i64 st, x3, x4, x5, x6, .pointer (some ⟨n0, 0, none⟩), x8, x9, x10, x11, x12, .pointer (some ⟨b, j * 21, none⟩), x14, x15, x16, x17, x18, x19, x20, x21, x22, x23, x24, x25, x26, x27, x28, x29, x30, x31, x32, x33, x34, x35, x36, x37, x38, x39, x40, x41, x42, x43, x44, x45, x46, .pointer (some ⟨b, j * 21, none⟩), .int .i64 k, .int .i64 st, x50, .pointer (some ⟨p, 0, none⟩), x52, x53, x54, x55, x56, x57, x58], defers := [] }) w3 := by
  have Huse := Lib.hid huse; clear huse
  have HQ := Lib.hid hQ; clear hQ
  unfold FillReg
  refine wpAnyIn_ready (rs := [3, 5]) (by kernel_rfl) (by simp) ?_
  refine AllReadyIn.cons rfl (fun K hK => ?_) ?_
  · refine step_load_in rfl 36 (.tmp 7) rfl n0 0 rfl d.cells _ hbox Try.underlying36 rfl Try.size36 ?_
    refine hK _ _ ?_; clear hK K
    exact fr_5b n n0 p b j k st u d x3 x4 x5 x6 x8 x9 x10 x11 x12 x14 x15 x16 x17 x18 x19 x20 x21 x22 x23 x24 x25 x26 x27 x28 x29 x30 x31 x32 x33 x34 x35 x36 x37 x38 x39 x40 x41 x42 x43 x44 x45 x46 x47 x48 x49 x50 x51 x52 x53 x54 x55 x56 x57 x58 Q w3 R Huse.out HQ.out
  refine AllReadyIn.cons rfl (fun K hK => ?_) ?_
  · go_simp
    refine ⟨fun h => (by cases h), ?_⟩
    refine (callsIn_wide.2 Huse.out).mono ?_
    rintro e w4 ⟨rfl, hr⟩
    obtain ⟨q1, q2, q3⟩ := HQ.out w4 hr
    refine hK _ _ ?_; clear hK K
    exact fr_3b n n0 p b j k st u d x3 x4 x5 x6 x8 x9 x10 x11 x12 x14 x15 x16 x17 x18 x19 x20 x21 x22 x23 x24 x25 x26 x27 x28 x29 x30 x31 x32 x33 x34 x35 x36 x37 x38 x39 x40 x41 x42 x43 x44 x45 x46 x47 x48 x49 x50 x51 x52 x53 x54 x55 x56 x57 x58 Q w4 q1 q2 q3
  exact AllReadyIn.nil

set_option maxRecDepth 100000 in
set_option maxHeartbeats 1000000 in
theorem fill_region (n n0 p b j : Nat) (k st u : Int) (d : L8) (x3 x4 x5 x6 x8 x9 x10 x11 x12 x14 x15 x16 x17 x18 x19 x20 x21 x22 x23 x24 x25 x26 x27 x28 x29 x30 x31 x32 x33 x34 x35 x36 x37 x38 x39 x40 x41 x42 x43 x44 x45 x46 x47 x48 x49 x50 x51 x52 x53 x54 x55 x56 x57 x58 : Value) (Q : Exit → Act → World → Prop) (hP : ∀ (c : List PanicEntry) (a : Act) (i : Nat) (v : Value) (w : World), Q (.panic c) (a.put (some i) v) w → Q (.panic c) a w) (w3 : World) (R : World → Prop) (hbox : w3.rangeAt n0 0 d.cells) (huse : Calls Try.prog 71 #[.pointer (some ⟨p, 0, none⟩)] w3.drew fun e w' => e = .returned (.int .i64 (u + 1)) ∧ R w') (hQ : ∀ w4, R w4 → w4.rangeAt n0 0 d.cells ∧ w4.there b (j * 21) 21 ∧ Q .normal ({ tmps := #[.pointer (some ⟨p, 0, none⟩), .int .i64 k, .int .i64 st, x3, x4, x5, x6, .pointer (some ⟨n0, 0, none⟩), x8, x9, x10, x11, x12, .pointer (some ⟨b, j * 21, none⟩), x14, x15, x16, x17, x18, x19, x20, x21, x22, x23, x24, x25, x26, x27, x28, x29, x30, x31, x32, x33, x34, x35, x36, x37, x38, x39, x40, x41, x42, x43, x44, x45, x46, .pointer (some ⟨b, j * 21, none⟩), .int .i64 k, .int .i64 st, .agg #[.int .u64 d.x0, .int .u64 d.x1, .int .u64 d.x2, .int .u64 d.x3, .int .u64 d.x4, .int .u64 d.x5, .int .u64 d.x6, .int .u64 d.x7], .pointer (some ⟨p, 0, none⟩), .int .i64 (u + 1), .agg #[.int .i64 k, .int .i64 st, .bool false, .bool false, .int .u64 d.x0, .int .u64 d.x1, .int .u64 d.x2, .int .u64 d.x3, .int .u64 d.x4, .int .u64 d.x5, .int .u64 d.x6, .int .u64 d.x7, .int .u64 0, .int .u64 0, .int .u64 0, .int .u64 0, .int .u64 0, .int .u64 0, .int .u64 0, .int .u64 0, .int .i64 (u + 1)], .pointer (some ⟨b, j * 21, none⟩), x55, x56, x57, x58], defers := [] }) (w4.setCells b (j * 21) (Ent.fresh k st d (u + 1)).cells)) :
    (Code.region 12 #[{ dst := some 47, op := Op.move (Operand.tmp 13), type := 113, pos := "l1.go:55", after := #[], guard := none },
      { dst := some 48, op := Op.move (Operand.tmp 1), type := 3, pos := "l1.go:55", after := #[], guard := none },
      { dst := some 49, op := Op.move (Operand.tmp 2), type := 3, pos := "l1.go:55", after := #[], guard := none },
      { dst := some 50, op := Op.load 36 (Operand.tmp 7), type := 36, pos := "l1.go:55", after := #[], guard := none },
      { dst := some 51, op := Op.move (Operand.tmp 0), type := 23, pos := "l1.go:55", after := #[], guard := none },
      { dst := some 52, op := Op.call { callee := Callee.value (Operand.func 71), args := #[Operand.tmp 51], argTypes := #[23] }, type := 3, pos := "l1.go:55", after := #[{ on := 4, ground := Ground.data }], guard := none },
      { dst := some 53, op := Op.build 42 #[(0, Operand.tmp 48), (1, Operand.tmp 49), (4, Operand.tmp 50), (6, Operand.tmp 52)], type := 42, pos := "l1.go:55", after := #[{ on := 1, ground := Ground.data }, { on := 2, ground := Ground.data }, { on := 3, ground := Ground.data }, { on := 5, ground := Ground.data }], guard := none },
      { dst := some 54, op := Op.nilCheck (Operand.tmp 47), type := 0, pos := "l1.go:55", after := #[{ on := 0, ground := Ground.data }, { on := 0, ground := Ground.phase }, { on := 1, ground := Ground.phase }, { on := 2, ground := Ground.phase }, { on := 3, ground := Ground.phase }, { on := 4, ground := Ground.phase }, { on := 5, ground := Ground.phase }, { on := 6, ground := Ground.phase }], guard := none },
      { dst := none, op := Op.store 42 (Operand.tmp 54) (Operand.tmp 53), type := 0, pos := "l1.go:55", after := #[{ on := 7, ground := Ground.data }, { on := 6, ground := Ground.data }, { on := 5, ground := Ground.chain }, { on := 0, ground := Ground.phase }, { on := 1, ground := Ground.phase }, { on := 2, ground := Ground.phase }, { on := 3, ground := Ground.phase }, { on := 4, ground := Ground.phase }, { on := 5, ground := Ground.phase }, { on := 6, ground := Ground.phase }], guard := none }] true).wpIn Fence.wide n Try.prog Q ({ tmps := #[.pointer (some ⟨p, 0, none⟩), .int .i64 k, .int .i64 st, x3, x4, x5, x6, .pointer (some ⟨n0, 0, none⟩), x8, x9, x10, x11, x12, .pointer (some ⟨b, j * 21, none⟩), x14, x15, x16, x17, x18, x19, x20, x21, x22, x23, x24, x25, x26, x27, x28, x29, x30, x31, x32, x33, x34, x35, x36, x37, x38, x39, x40, x41, x42, x43, x44, x45, x46, x47, x48, x49, x50, x51, x52, x53, x54, x55, x56, x57, x58], defers := [] }) w3 := by
  have hn := fr_35 n n0 p b j k st u d x3 x4 x5 x6 x8 x9 x10 x11 x12 x14 x15 x16 x17 x18 x19 x20 x21 x22 x23 x24 x25 x26 x27 x28 x29 x30 x31 x32 x33 x34 x35 x36 x37 x38 x39 x40 x41 x42 x43 x44 x45 x46 x47 x48 x49 x50 x51 x52 x53 x54 x55 x56 x57 x58 Q w3.drew R hbox huse hQ
  have HN := Lib.hid hn; clear hn huse hQ hbox
  refine wpIn_region_any (by kernel_rfl) ?_
  change wpAnyIn _ _ _ _ _ _ _ _ _ (World.drew _)
  refine wpAnyIn_take (i := 0) (v := ?_) rfl rfl (by kernel_rfl) (by kernel_rfl) (by kernel_rfl) (fun _ _ _ h => hP _ _ _ _ _ h) ⟨Or.inl ⟨by rfl, ?_⟩, fun _ => rfl⟩ ?_
  rotate_left
  · intro w; go_simp; first | done | (with_reducible rfl)
  refine wpAnyIn_take (i := 1) (v := ?_) rfl rfl (by kernel_rfl) (by kernel_rfl) (by kernel_rfl) (fun _ _ _ h => hP _ _ _ _ _ h) ⟨Or.inl ⟨by rfl, ?_⟩, fun _ => rfl⟩ ?_
  rotate_left
  · intro w; go_simp; first | done | (with_reducible rfl)
  refine wpAnyIn_take (i := 2) (v := ?_) rfl rfl (by kernel_rfl) (by kernel_rfl) (by kernel_rfl) (fun _ _ _ h => hP _ _ _ _ _ h) ⟨Or.inl ⟨by rfl, ?_⟩, fun _ => rfl⟩ ?_
  rotate_left
  · intro w; go_simp; first | done | (with_reducible rfl)
  refine wpAnyIn_take (i := 4) (v := ?_) rfl rfl (by kernel_rfl) (by kernel_rfl) (by kernel_rfl) (fun _ _ _ h => hP _ _ _ _ _ h) ⟨Or.inl ⟨by rfl, ?_⟩, fun _ => rfl⟩ ?_
  rotate_left
  · intro w; go_simp; first | done | (with_reducible rfl)
  exact HN.out

end Go.Proofs.Ytddajnpichchfaa
