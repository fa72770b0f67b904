/- The append in All's round, in whatever order. Conditions: those stated in each theorem. -/
import Derived.Test.YtimoaiebikoojaaDisc
namespace Go.Proofs.Ytimoaiebikoojaa
open Go.RowKit Go.Shelf
attribute [local go_sem] Oper.semAt_some
attribute [local simp] wide_fn

set_option maxHeartbeats 400000 in
theorem alls_nil (w : World) : Calls Try.prog 10 #[.pointer none] w fun e w' => e = .returned (.slice none 0 0) ∧ w = w' := by
  go_enter Try.func10, Try.ntmps10
  go_wp2
  go_ret
  exact ⟨rfl, rfl⟩

theorem Try.infoE : (Try.prog.info? 42).map (fun i => (i.zero, i.size, i.bytes)) = some (some (.agg Ent.zero.cells.toArray), 21, 160) := by kernel_rfl

/-- A built-in append whose run is known. -/
theorem step_append_in {F : Fence} {n : Nat} {P : Program} {ops : Array Oper} {o : Oper} {a : Act} {w w' : World} {K : Act → World → Prop} {Q : Exit → Act → World → Prop} {E : Prop} (hg : o.guard = none) (s x : Operand) (t : TypeId)
    (hop : o.op = Op.call { callee := Callee.builtin Builtin.append, args := #[s, x], argTypes := #[t, t] }) {v y v' : Value} (hs : a.eval s = v) (hx : a.eval x = y) (hrun : (Builtin.append_ #[t, t] o.type #[v, y]).run P w = .ok v' w') (h : K (a.put o.dst v') w') :
    if Region.wanted o (yielded ops a.tmps) = true then o.wpIn F n P a w K Q else E := by
  have hw : Region.wanted o (yielded ops a.tmps) = true := by simp [Region.wanted, hg]
  rw [if_pos hw]
  unfold Oper.wpIn
  refine ⟨?_, ?_⟩
  · simp [Oper.about, hop, resolve, Target.leads, Sem.run_pure]
  · rw [Oper.semAt_plain F _ _ (by rw [hop]; intro c hc'; cases hc')]
    simp [execOp, hop, resolve, invoke, builtin, hs, hx, hrun, Result.andThen]
    exact h

/-- A load of a row in the midst of a block. -/
theorem step_load_in {F : Fence} {n : Nat} {P : Program} {ops : Array Oper} {o : Oper} {a : Act} {w : World} {K : Act → World → Prop} {Q : Exit → Act → World → Prop} {E : Prop} (hg : o.guard = none) (ty : TypeId) (x : Operand) (hop : o.op = .load ty x)
    (b off : Nat) (hx : a.eval x = .pointer (some ⟨b, off, none⟩)) (cs : List Value) (d : TypeDesc) (hc : w.rangeAt b off cs) (hu : P.underlying ty = some d) (hd : d.isRow = true) (hi : (P.info? ty).map (·.size) = some cs.length) (h : K (a.put o.dst (.agg cs.toArray)) w) :
    if Region.wanted o (yielded ops a.tmps) = true then o.wpIn F n P a w K Q else E := by
  have hw : Region.wanted o (yielded ops a.tmps) = true := by simp [Region.wanted, hg]
  rw [if_pos hw]
  unfold Oper.wpIn
  refine ⟨?_, ?_⟩
  · simp [Oper.about, hop]
  · rw [Oper.semAt_plain F _ _ (by rw [hop]; intro c hc'; cases hc')]
    unfold execOp
    simp only [hop, hx, Instr.loadAt, Instr.sureAddr, Sem.run_bind, Sem.run_pure, Result.andThen_ok, run_loadVar_mid w b off ty cs d hc hu hd hi]
    exact h

def AllReg (l n : Nat) (F : Fence) (Q : Exit → Act → World → Prop) (fuel : Nat) (listed : Array Bool) (a : Act) (w : World) : Prop :=
  wpAnyIn (F.inRound l) n Try.prog .any #[{ dst := some 10, op := Op.load 27 (Operand.tmp 3), type := 27, pos := "l1.go:157", after := #[], guard := none },
      { dst := some 11, op := Op.move (Operand.tmp 4), type := 82, pos := "l1.go:157", after := #[], guard := none },
      { dst := some 12, op := Op.nilCheck (Operand.tmp 11), type := 0, pos := "l1.go:157", after := #[{ on := 1, ground := Ground.data }], guard := none },
      { dst := some 13, op := Op.load 42 (Operand.tmp 12), type := 42, pos := "l1.go:157", after := #[{ on := 2, ground := Ground.data }], guard := none },
      { dst := some 14, op := Op.buildSlice 27 1 #[(0, Operand.tmp 13)], type := 27, pos := "l1.go:157", after := #[{ on := 3, ground := Ground.data }], guard := none },
      { dst := some 15, op := Op.call { callee := Callee.builtin Builtin.append, args := #[Operand.tmp 10, Operand.tmp 14], argTypes := #[27, 27] }, type := 27, pos := "l1.go:157", after := #[{ on := 0, ground := Ground.data }, { on := 4, ground := Ground.data }], guard := none },
      { dst := none, op := Op.store 27 (Operand.tmp 3) (Operand.tmp 15), type := 0, pos := "l1.go:157", after := #[{ on := 5, ground := Ground.data }, { on := 5, ground := Ground.chain }, { on := 0, ground := Ground.phase }, { on := 1, ground := Ground.phase }, { on := 2, ground := Ground.phase }, { on := 3, ground := Ground.phase }, { on := 4, ground := Ground.phase }, { on := 5, ground := Ground.phase }], guard := none }] Q fuel listed a w

set_option maxRecDepth 100000 in
set_option maxHeartbeats 1000000 in
theorem st_d (F : Fence) (l n n0 b j : Nat) (e : Ent) (v : Value) (g mm cap : Nat) (W2 w' : World) (x0 x1 x2 x5 x6 x7 x8 x9 _x10 _x11 _x12 _x13 _x14 _x15 x16 x17 x18 : Value) (Q : Exit → Act → World → Prop) (_hn0 : n0 < W2.heap.size) (_hbl : b < W2.heap.size) (_hc3 : W2.cell? ⟨n0, 0, none⟩ = some v)
    (hg : W2.rangeAt b (j * 21) e.cells)
    (_hrun : (Builtin.append_ #[27, 27] 27 #[v, .slice (some ⟨W2.heap.size, 0, none⟩) 1 1]).run Try.prog (W2.alloc (.cells #[.int .i64 e.line, .int .i64 e.state, .bool e.read, .bool e.write, .int .u64 e.data.x0, .int .u64 e.data.x1, .int .u64 e.data.x2, .int .u64 e.data.x3, .int .u64 e.data.x4, .int .u64 e.data.x5, .int .u64 e.data.x6, .int .u64 e.data.x7, .int .u64 e.old.x0, .int .u64 e.old.x1, .int .u64 e.old.x2, .int .u64 e.old.x3, .int .u64 e.old.x4, .int .u64 e.old.x5, .int .u64 e.old.x6, .int .u64 e.old.x7, .int .i64 e.used] 42)).drew = .ok (.slice (some ⟨g, 0, none⟩) mm cap) w')
    (hcw : w'.cell? ⟨n0, 0, none⟩ = some v) (hfw : w'.frozen? ⟨n0, 0, none⟩ = false) (hQ : ∀ a, Q .normal a (w'.setCell ⟨n0, 0, none⟩ (.slice (some ⟨g, 0, none⟩) mm cap))) :
    AllReg l n F Q 1 #[true, true, true, true, true, true, false] ({ tmps := #[x0, x1, x2, .pointer (some ⟨n0, 0, none⟩), .pointer (some ⟨b, j * 21, none⟩), x5, x6, x7, x8, x9, v, .pointer (some ⟨b, j * 21, none⟩), .pointer (some ⟨b, j * 21, none⟩), .agg #[.int .i64 e.line, .int .i64 e.state, .bool e.read, .bool e.write, .int .u64 e.data.x0, .int .u64 e.data.x1, .int .u64 e.data.x2, .int .u64 e.data.x3, .int .u64 e.data.x4, .int .u64 e.data.x5, .int .u64 e.data.x6, .int .u64 e.data.x7, .int .u64 e.old.x0, .int .u64 e.old.x1, .int .u64 e.old.x2, .int .u64 e.old.x3, .int .u64 e.old.x4, .int .u64 e.old.x5, .int .u64 e.old.x6, .int .u64 e.old.x7, .int .i64 e.used], .slice (some ⟨W2.heap.size, 0, none⟩) 1 1, .slice (some ⟨g, 0, none⟩) mm cap, x16, x17, x18], defers := [] }) (w') := by
  have Hg := Lib.hid hg
  have HQ := Lib.hid hQ
  unfold AllReg
  clear hg hQ _hrun
  refine wpAnyIn_ready (rs := [6]) (by kernel_rfl) (by simp) ?_
  refine AllReadyIn.cons rfl (fun K hK => ?_) ?_
  · go_simp
    refine hK _ _ ?_; clear hK K
    refine wpAnyIn_done (by kernel_rfl) ?_ _
    exact HQ.out _
  exact AllReadyIn.nil

set_option maxRecDepth 100000 in
set_option maxHeartbeats 1000000 in
theorem st_a_4 (F : Fence) (l n n0 b j : Nat) (e : Ent) (v : Value) (g mm cap : Nat) (W2 w' : World) (x0 x1 x2 x5 x6 x7 x8 x9 x10 x11 x12 x13 x14 x15 x16 x17 x18 : Value) (Q : Exit → Act → World → Prop) (hn0 : n0 < W2.heap.size) (hbl : b < W2.heap.size) (hc3 : W2.cell? ⟨n0, 0, none⟩ = some v)
    (hg : W2.rangeAt b (j * 21) e.cells)
    (hrun : (Builtin.append_ #[27, 27] 27 #[v, .slice (some ⟨W2.heap.size, 0, none⟩) 1 1]).run Try.prog (W2.alloc (.cells #[.int .i64 e.line, .int .i64 e.state, .bool e.read, .bool e.write, .int .u64 e.data.x0, .int .u64 e.data.x1, .int .u64 e.data.x2, .int .u64 e.data.x3, .int .u64 e.data.x4, .int .u64 e.data.x5, .int .u64 e.data.x6, .int .u64 e.data.x7, .int .u64 e.old.x0, .int .u64 e.old.x1, .int .u64 e.old.x2, .int .u64 e.old.x3, .int .u64 e.old.x4, .int .u64 e.old.x5, .int .u64 e.old.x6, .int .u64 e.old.x7, .int .i64 e.used] 42)).drew = .ok (.slice (some ⟨g, 0, none⟩) mm cap) w')
    (hcw : w'.cell? ⟨n0, 0, none⟩ = some v) (hfw : w'.frozen? ⟨n0, 0, none⟩ = false) (hQ : ∀ a, Q .normal a (w'.setCell ⟨n0, 0, none⟩ (.slice (some ⟨g, 0, none⟩) mm cap))) :
    AllReg l n F Q 2 #[true, true, true, true, true, false, false] ({ tmps := #[x0, x1, x2, .pointer (some ⟨n0, 0, none⟩), .pointer (some ⟨b, j * 21, none⟩), x5, x6, x7, x8, x9, v, .pointer (some ⟨b, j * 21, none⟩), .pointer (some ⟨b, j * 21, none⟩), .agg #[.int .i64 e.line, .int .i64 e.state, .bool e.read, .bool e.write, .int .u64 e.data.x0, .int .u64 e.data.x1, .int .u64 e.data.x2, .int .u64 e.data.x3, .int .u64 e.data.x4, .int .u64 e.data.x5, .int .u64 e.data.x6, .int .u64 e.data.x7, .int .u64 e.old.x0, .int .u64 e.old.x1, .int .u64 e.old.x2, .int .u64 e.old.x3, .int .u64 e.old.x4, .int .u64 e.old.x5, .int .u64 e.old.x6, .int .u64 e.old.x7, .int .i64 e.used], .slice (some ⟨W2.heap.size, 0, none⟩) 1 1, x15, x16, x17, x18], defers := [] }) ((W2.alloc (.cells #[.int .i64 e.line, .int .i64 e.state, .bool e.read, .bool e.write, .int .u64 e.data.x0, .int .u64 e.data.x1, .int .u64 e.data.x2, .int .u64 e.data.x3, .int .u64 e.data.x4, .int .u64 e.data.x5, .int .u64 e.data.x6, .int .u64 e.data.x7, .int .u64 e.old.x0, .int .u64 e.old.x1, .int .u64 e.old.x2, .int .u64 e.old.x3, .int .u64 e.old.x4, .int .u64 e.old.x5, .int .u64 e.old.x6, .int .u64 e.old.x7, .int .i64 e.used] 42)).drew) := by
  have Hg := Lib.hid hg
  have HQ := Lib.hid hQ
  unfold AllReg
  clear hg hQ
  have hnext := st_d F l n n0 b j e v g mm cap W2 w' x0 x1 x2 x5 x6 x7 x8 x9 x10 x11 x12 x13 x14 x15 x16 x17 x18 Q hn0 hbl hc3 Hg.out hrun hcw hfw HQ.out
  have HN := Lib.hid hnext; clear hnext
  refine wpAnyIn_ready (rs := [5]) (by kernel_rfl) (by simp) ?_
  refine AllReadyIn.cons rfl (fun K hK => ?_) ?_
  · refine step_append_in rfl (.tmp 10) (.tmp 14) 27 rfl rfl rfl hrun ?_
    refine hK _ _ ?_; clear hK K
    exact HN.out
  exact AllReadyIn.nil

set_option maxRecDepth 100000 in
set_option maxHeartbeats 1000000 in
theorem st_a_3 (F : Fence) (l n n0 b j : Nat) (e : Ent) (v : Value) (g mm cap : Nat) (W2 w' : World) (x0 x1 x2 x5 x6 x7 x8 x9 x10 x11 x12 x13 x14 x15 x16 x17 x18 : Value) (Q : Exit → Act → World → Prop) (hn0 : n0 < W2.heap.size) (hbl : b < W2.heap.size) (hc3 : W2.cell? ⟨n0, 0, none⟩ = some v)
    (hg : W2.rangeAt b (j * 21) e.cells)
    (hrun : (Builtin.append_ #[27, 27] 27 #[v, .slice (some ⟨W2.heap.size, 0, none⟩) 1 1]).run Try.prog (W2.alloc (.cells #[.int .i64 e.line, .int .i64 e.state, .bool e.read, .bool e.write, .int .u64 e.data.x0, .int .u64 e.data.x1, .int .u64 e.data.x2, .int .u64 e.data.x3, .int .u64 e.data.x4, .int .u64 e.data.x5, .int .u64 e.data.x6, .int .u64 e.data.x7, .int .u64 e.old.x0, .int .u64 e.old.x1, .int .u64 e.old.x2, .int .u64 e.old.x3, .int .u64 e.old.x4, .int .u64 e.old.x5, .int .u64 e.old.x6, .int .u64 e.old.x7, .int .i64 e.used] 42)).drew = .ok (.slice (some ⟨g, 0, none⟩) mm cap) w')
    (hcw : w'.cell? ⟨n0, 0, none⟩ = some v) (hfw : w'.frozen? ⟨n0, 0, none⟩ = false) (hQ : ∀ a, Q .normal a (w'.setCell ⟨n0, 0, none⟩ (.slice (some ⟨g, 0, none⟩) mm cap))) :
    AllReg l n F Q 3 #[true, true, true, true, false, false, false] ({ tmps := #[x0, x1, x2, .pointer (some ⟨n0, 0, none⟩), .pointer (some ⟨b, j * 21, none⟩), x5, x6, x7, x8, x9, v, .pointer (some ⟨b, j * 21, none⟩), .pointer (some ⟨b, j * 21, none⟩), .agg #[.int .i64 e.line, .int .i64 e.state, .bool e.read, .bool e.write, .int .u64 e.data.x0, .int .u64 e.data.x1, .int .u64 e.data.x2, .int .u64 e.data.x3, .int .u64 e.data.x4, .int .u64 e.data.x5, .int .u64 e.data.x6, .int .u64 e.data.x7, .int .u64 e.old.x0, .int .u64 e.old.x1, .int .u64 e.old.x2, .int .u64 e.old.x3, .int .u64 e.old.x4, .int .u64 e.old.x5, .int .u64 e.old.x6, .int .u64 e.old.x7, .int .i64 e.used], x14, x15, x16, x17, x18], defers := [] }) (W2.drew) := by
  have Hg := Lib.hid hg
  have HQ := Lib.hid hQ
  unfold AllReg
  have Hrun := Lib.hid hrun
  clear hg hQ hrun
  have hnext0 := st_a_4 F l n n0 b j e v g mm cap W2 w' x0 x1 x2 x5 x6 x7 x8 x9 x10 x11 x12 x13 x14 x15 x16 x17 x18 Q hn0 hbl hc3 Hg.out Hrun.out hcw hfw HQ.out
  have HN0 := Lib.hid hnext0; clear hnext0
  refine wpAnyIn_ready (rs := [4]) (by kernel_rfl) (by simp) ?_
  refine AllReadyIn.cons rfl (fun K hK => ?_) ?_
  · go_simp
    refine hK _ _ ?_; clear hK K
    exact HN0.out
  exact AllReadyIn.nil

set_option maxRecDepth 100000 in
set_option maxHeartbeats 1000000 in
theorem st_a_2 (F : Fence) (l n n0 b j : Nat) (e : Ent) (v : Value) (g mm cap : Nat) (W2 w' : World) (x0 x1 x2 x5 x6 x7 x8 x9 x10 x11 x12 x13 x14 x15 x16 x17 x18 : Value) (Q : Exit → Act → World → Prop) (hn0 : n0 < W2.heap.size) (hbl : b < W2.heap.size) (hc3 : W2.cell? ⟨n0, 0, none⟩ = some v)
    (hg : W2.rangeAt b (j * 21) e.cells)
    (hrun : (Builtin.append_ #[27, 27] 27 #[v, .slice (some ⟨W2.heap.size, 0, none⟩) 1 1]).run Try.prog (W2.alloc (.cells #[.int .i64 e.line, .int .i64 e.state, .bool e.read, .bool e.write, .int .u64 e.data.x0, .int .u64 e.data.x1, .int .u64 e.data.x2, .int .u64 e.data.x3, .int .u64 e.data.x4, .int .u64 e.data.x5, .int .u64 e.data.x6, .int .u64 e.data.x7, .int .u64 e.old.x0, .int .u64 e.old.x1, .int .u64 e.old.x2, .int .u64 e.old.x3, .int .u64 e.old.x4, .int .u64 e.old.x5, .int .u64 e.old.x6, .int .u64 e.old.x7, .int .i64 e.used] 42)).drew = .ok (.slice (some ⟨g, 0, none⟩) mm cap) w')
    (hcw : w'.cell? ⟨n0, 0, none⟩ = some v) (hfw : w'.frozen? ⟨n0, 0, none⟩ = false) (hQ : ∀ a, Q .normal a (w'.setCell ⟨n0, 0, none⟩ (.slice (some ⟨g, 0, none⟩) mm cap))) :
    AllReg l n F Q 4 #[true, true, true, false, false, false, false] ({ tmps := #[x0, x1, x2, .pointer (some ⟨n0, 0, none⟩), .pointer (some ⟨b, j * 21, none⟩), x5, x6, x7, x8, x9, v, .pointer (some ⟨b, j * 21, none⟩), .pointer (some ⟨b, j * 21, none⟩), x13, x14, x15, x16, x17, x18], defers := [] }) (W2.drew) := by
  have Hg := Lib.hid hg
  have HQ := Lib.hid hQ
  unfold AllReg
  have Hrun := Lib.hid hrun
  clear hg hQ hrun
  have hnext0 := st_a_3 F l n n0 b j e v g mm cap W2 w' x0 x1 x2 x5 x6 x7 x8 x9 x10 x11 x12 x13 x14 x15 x16 x17 x18 Q hn0 hbl hc3 Hg.out Hrun.out hcw hfw HQ.out
  have HN0 := Lib.hid hnext0; clear hnext0
  refine wpAnyIn_ready (rs := [3]) (by kernel_rfl) (by simp) ?_
  refine AllReadyIn.cons rfl (fun K hK => ?_) ?_
  · refine step_load_in rfl 42 (.tmp 12) rfl b (j * 21) rfl e.cells _ Hg.out Try.underlying42 rfl Try.size42 ?_
    refine hK _ _ ?_; clear hK K
    exact HN0.out
  exact AllReadyIn.nil

set_option maxRecDepth 100000 in
set_option maxHeartbeats 1000000 in
theorem st_a_1 (F : Fence) (l n n0 b j : Nat) (e : Ent) (v : Value) (g mm cap : Nat) (W2 w' : World) (x0 x1 x2 x5 x6 x7 x8 x9 x10 x11 x12 x13 x14 x15 x16 x17 x18 : Value) (Q : Exit → Act → World → Prop) (hn0 : n0 < W2.heap.size) (hbl : b < W2.heap.size) (hc3 : W2.cell? ⟨n0, 0, none⟩ = some v)
    (hg : W2.rangeAt b (j * 21) e.cells)
    (hrun : (Builtin.append_ #[27, 27] 27 #[v, .slice (some ⟨W2.heap.size, 0, none⟩) 1 1]).run Try.prog (W2.alloc (.cells #[.int .i64 e.line, .int .i64 e.state, .bool e.read, .bool e.write, .int .u64 e.data.x0, .int .u64 e.data.x1, .int .u64 e.data.x2, .int .u64 e.data.x3, .int .u64 e.data.x4, .int .u64 e.data.x5, .int .u64 e.data.x6, .int .u64 e.data.x7, .int .u64 e.old.x0, .int .u64 e.old.x1, .int .u64 e.old.x2, .int .u64 e.old.x3, .int .u64 e.old.x4, .int .u64 e.old.x5, .int .u64 e.old.x6, .int .u64 e.old.x7, .int .i64 e.used] 42)).drew = .ok (.slice (some ⟨g, 0, none⟩) mm cap) w')
    (hcw : w'.cell? ⟨n0, 0, none⟩ = some v) (hfw : w'.frozen? ⟨n0, 0, none⟩ = false) (hQ : ∀ a, Q .normal a (w'.setCell ⟨n0, 0, none⟩ (.slice (some ⟨g, 0, none⟩) mm cap))) :
    AllReg l n F Q 5 #[true, true, false, false, false, false, false] ({ tmps := #[x0, x1, x2, .pointer (some ⟨n0, 0, none⟩), .pointer (some ⟨b, j * 21, none⟩), x5, x6, x7, x8, x9, v, .pointer (some ⟨b, j * 21, none⟩), x12, x13, x14, x15, x16, x17, x18], defers := [] }) (W2.drew) := by
  have Hg := Lib.hid hg
  have HQ := Lib.hid hQ
  unfold AllReg
  have Hrun := Lib.hid hrun
  clear hg hQ hrun
  have hnext0 := st_a_2 F l n n0 b j e v g mm cap W2 w' x0 x1 x2 x5 x6 x7 x8 x9 x10 x11 x12 x13 x14 x15 x16 x17 x18 Q hn0 hbl hc3 Hg.out Hrun.out hcw hfw HQ.out
  have HN0 := Lib.hid hnext0; clear hnext0
  refine wpAnyIn_ready (rs := [2]) (by kernel_rfl) (by simp) ?_
  refine AllReadyIn.cons rfl (fun K hK => ?_) ?_
  · go_simp
    refine hK _ _ ?_; clear hK K
    exact HN0.out
  exact AllReadyIn.nil

set_option maxRecDepth 100000 in
set_option maxHeartbeats 1000000 in
theorem st_a_0 (F : Fence) (l n n0 b j : Nat) (e : Ent) (v : Value) (g mm cap : Nat) (W2 w' : World) (x0 x1 x2 x5 x6 x7 x8 x9 x10 x11 x12 x13 x14 x15 x16 x17 x18 : Value) (Q : Exit → Act → World → Prop) (hn0 : n0 < W2.heap.size) (hbl : b < W2.heap.size) (hc3 : W2.cell? ⟨n0, 0, none⟩ = some v)
    (hg : W2.rangeAt b (j * 21) e.cells)
    (hrun : (Builtin.append_ #[27, 27] 27 #[v, .slice (some ⟨W2.heap.size, 0, none⟩) 1 1]).run Try.prog (W2.alloc (.cells #[.int .i64 e.line, .int .i64 e.state, .bool e.read, .bool e.write, .int .u64 e.data.x0, .int .u64 e.data.x1, .int .u64 e.data.x2, .int .u64 e.data.x3, .int .u64 e.data.x4, .int .u64 e.data.x5, .int .u64 e.data.x6, .int .u64 e.data.x7, .int .u64 e.old.x0, .int .u64 e.old.x1, .int .u64 e.old.x2, .int .u64 e.old.x3, .int .u64 e.old.x4, .int .u64 e.old.x5, .int .u64 e.old.x6, .int .u64 e.old.x7, .int .i64 e.used] 42)).drew = .ok (.slice (some ⟨g, 0, none⟩) mm cap) w')
    (hcw : w'.cell? ⟨n0, 0, none⟩ = some v) (hfw : w'.frozen? ⟨n0, 0, none⟩ = false) (hQ : ∀ a, Q .normal a (w'.setCell ⟨n0, 0, none⟩ (.slice (some ⟨g, 0, none⟩) mm cap))) :
    AllReg l n F Q 6 #[true, false, false, false, false, false, false] ({ tmps := #[x0, x1, x2, .pointer (some ⟨n0, 0, none⟩), .pointer (some ⟨b, j * 21, none⟩), x5, x6, x7, x8, x9, v, x11, x12, x13, x14, x15, x16, x17, x18], defers := [] }) (W2.drew) := by
  have Hg := Lib.hid hg
  have HQ := Lib.hid hQ
  unfold AllReg
  have Hrun := Lib.hid hrun
  clear hg hQ hrun
  have hnext0 := st_a_1 F l n n0 b j e v g mm cap W2 w' x0 x1 x2 x5 x6 x7 x8 x9 x10 x11 x12 x13 x14 x15 x16 x17 x18 Q hn0 hbl hc3 Hg.out Hrun.out hcw hfw HQ.out
  have HN0 := Lib.hid hnext0; clear hnext0
  refine wpAnyIn_ready (rs := [1]) (by kernel_rfl) (by simp) ?_
  refine AllReadyIn.cons rfl (fun K hK => ?_) ?_
  · go_simp
    refine hK _ _ ?_; clear hK K
    exact HN0.out
  exact AllReadyIn.nil

set_option maxRecDepth 100000 in
set_option maxHeartbeats 1000000 in
theorem st_n_4 (F : Fence) (l n n0 b j : Nat) (e : Ent) (v : Value) (g mm cap : Nat) (W2 w' : World) (x0 x1 x2 x5 x6 x7 x8 x9 x10 x11 x12 x13 x14 x15 x16 x17 x18 : Value) (Q : Exit → Act → World → Prop) (hn0 : n0 < W2.heap.size) (hbl : b < W2.heap.size) (hc3 : W2.cell? ⟨n0, 0, none⟩ = some v)
    (hg : W2.rangeAt b (j * 21) e.cells)
    (hrun : (Builtin.append_ #[27, 27] 27 #[v, .slice (some ⟨W2.heap.size, 0, none⟩) 1 1]).run Try.prog (W2.alloc (.cells #[.int .i64 e.line, .int .i64 e.state, .bool e.read, .bool e.write, .int .u64 e.data.x0, .int .u64 e.data.x1, .int .u64 e.data.x2, .int .u64 e.data.x3, .int .u64 e.data.x4, .int .u64 e.data.x5, .int .u64 e.data.x6, .int .u64 e.data.x7, .int .u64 e.old.x0, .int .u64 e.old.x1, .int .u64 e.old.x2, .int .u64 e.old.x3, .int .u64 e.old.x4, .int .u64 e.old.x5, .int .u64 e.old.x6, .int .u64 e.old.x7, .int .i64 e.used] 42)).drew = .ok (.slice (some ⟨g, 0, none⟩) mm cap) w')
    (hcw : w'.cell? ⟨n0, 0, none⟩ = some v) (hfw : w'.frozen? ⟨n0, 0, none⟩ = false) (hQ : ∀ a, Q .normal a (w'.setCell ⟨n0, 0, none⟩ (.slice (some ⟨g, 0, none⟩) mm cap))) :
    AllReg l n F Q 3 #[false, true, true, true, true, false, false] ({ tmps := #[x0, x1, x2, .pointer (some ⟨n0, 0, none⟩), .pointer (some ⟨b, j * 21, none⟩), x5, x6, x7, x8, x9, x10, .pointer (some ⟨b, j * 21, none⟩), .pointer (some ⟨b, j * 21, none⟩), .agg #[.int .i64 e.line, .int .i64 e.state, .bool e.read, .bool e.write, .int .u64 e.data.x0, .int .u64 e.data.x1, .int .u64 e.data.x2, .int .u64 e.data.x3, .int .u64 e.data.x4, .int .u64 e.data.x5, .int .u64 e.data.x6, .int .u64 e.data.x7, .int .u64 e.old.x0, .int .u64 e.old.x1, .int .u64 e.old.x2, .int .u64 e.old.x3, .int .u64 e.old.x4, .int .u64 e.old.x5, .int .u64 e.old.x6, .int .u64 e.old.x7, .int .i64 e.used], .slice (some ⟨W2.heap.size, 0, none⟩) 1 1, x15, x16, x17, x18], defers := [] }) ((W2.alloc (.cells #[.int .i64 e.line, .int .i64 e.state, .bool e.read, .bool e.write, .int .u64 e.data.x0, .int .u64 e.data.x1, .int .u64 e.data.x2, .int .u64 e.data.x3, .int .u64 e.data.x4, .int .u64 e.data.x5, .int .u64 e.data.x6, .int .u64 e.data.x7, .int .u64 e.old.x0, .int .u64 e.old.x1, .int .u64 e.old.x2, .int .u64 e.old.x3, .int .u64 e.old.x4, .int .u64 e.old.x5, .int .u64 e.old.x6, .int .u64 e.old.x7, .int .i64 e.used] 42)).drew) := by
  have Hg := Lib.hid hg
  have HQ := Lib.hid hQ
  unfold AllReg
  have Hrun := Lib.hid hrun
  clear hg hQ hrun
  have hnext0 := st_a_4 F l n n0 b j e v g mm cap W2 w' x0 x1 x2 x5 x6 x7 x8 x9 x10 x11 x12 x13 x14 x15 x16 x17 x18 Q hn0 hbl hc3 Hg.out Hrun.out hcw hfw HQ.out
  have HN0 := Lib.hid hnext0; clear hnext0
  refine wpAnyIn_ready (rs := [0]) (by kernel_rfl) (by simp) ?_
  refine AllReadyIn.cons rfl (fun K hK => ?_) ?_
  · go_simp
    refine hK _ _ ?_; clear hK K
    exact HN0.out
  exact AllReadyIn.nil

set_option maxRecDepth 100000 in
set_option maxHeartbeats 1000000 in
theorem st_n_3 (F : Fence) (l n n0 b j : Nat) (e : Ent) (v : Value) (g mm cap : Nat) (W2 w' : World) (x0 x1 x2 x5 x6 x7 x8 x9 x10 x11 x12 x13 x14 x15 x16 x17 x18 : Value) (Q : Exit → Act → World → Prop) (hn0 : n0 < W2.heap.size) (hbl : b < W2.heap.size) (hc3 : W2.cell? ⟨n0, 0, none⟩ = some v)
    (hg : W2.rangeAt b (j * 21) e.cells)
    (hrun : (Builtin.append_ #[27, 27] 27 #[v, .slice (some ⟨W2.heap.size, 0, none⟩) 1 1]).run Try.prog (W2.alloc (.cells #[.int .i64 e.line, .int .i64 e.state, .bool e.read, .bool e.write, .int .u64 e.data.x0, .int .u64 e.data.x1, .int .u64 e.data.x2, .int .u64 e.data.x3, .int .u64 e.data.x4, .int .u64 e.data.x5, .int .u64 e.data.x6, .int .u64 e.data.x7, .int .u64 e.old.x0, .int .u64 e.old.x1, .int .u64 e.old.x2, .int .u64 e.old.x3, .int .u64 e.old.x4, .int .u64 e.old.x5, .int .u64 e.old.x6, .int .u64 e.old.x7, .int .i64 e.used] 42)).drew = .ok (.slice (some ⟨g, 0, none⟩) mm cap) w')
    (hcw : w'.cell? ⟨n0, 0, none⟩ = some v) (hfw : w'.frozen? ⟨n0, 0, none⟩ = false) (hQ : ∀ a, Q .normal a (w'.setCell ⟨n0, 0, none⟩ (.slice (some ⟨g, 0, none⟩) mm cap))) :
    AllReg l n F Q 4 #[false, true, true, true, false, false, false] ({ tmps := #[x0, x1, x2, .pointer (some ⟨n0, 0, none⟩), .pointer (some ⟨b, j * 21, none⟩), x5, x6, x7, x8, x9, x10, .pointer (some ⟨b, j * 21, none⟩), .pointer (some ⟨b, j * 21, none⟩), .agg #[.int .i64 e.line, .int .i64 e.state, .bool e.read, .bool e.write, .int .u64 e.data.x0, .int .u64 e.data.x1, .int .u64 e.data.x2, .int .u64 e.data.x3, .int .u64 e.data.x4, .int .u64 e.data.x5, .int .u64 e.data.x6, .int .u64 e.data.x7, .int .u64 e.old.x0, .int .u64 e.old.x1, .int .u64 e.old.x2, .int .u64 e.old.x3, .int .u64 e.old.x4, .int .u64 e.old.x5, .int .u64 e.old.x6, .int .u64 e.old.x7, .int .i64 e.used], x14, x15, x16, x17, x18], defers := [] }) (W2.drew) := by
  have Hg := Lib.hid hg
  have HQ := Lib.hid hQ
  unfold AllReg
  have Hrun := Lib.hid hrun
  clear hg hQ hrun
  have hnext0 := st_a_3 F l n n0 b j e v g mm cap W2 w' x0 x1 x2 x5 x6 x7 x8 x9 x10 x11 x12 x13 x14 x15 x16 x17 x18 Q hn0 hbl hc3 Hg.out Hrun.out hcw hfw HQ.out
  have HN0 := Lib.hid hnext0; clear hnext0
  have hnext1 := st_n_4 F l n n0 b j e v g mm cap W2 w' x0 x1 x2 x5 x6 x7 x8 x9 x10 x11 x12 x13 x14 x15 x16 x17 x18 Q hn0 hbl hc3 Hg.out Hrun.out hcw hfw HQ.out
  have HN1 := Lib.hid hnext1; clear hnext1
  refine wpAnyIn_ready (rs := [0, 4]) (by kernel_rfl) (by simp) ?_
  refine AllReadyIn.cons rfl (fun K hK => ?_) ?_
  · go_simp
    refine hK _ _ ?_; clear hK K
    exact HN0.out
  refine AllReadyIn.cons rfl (fun K hK => ?_) ?_
  · go_simp
    refine hK _ _ ?_; clear hK K
    exact HN1.out
  exact AllReadyIn.nil

set_option maxRecDepth 100000 in
set_option maxHeartbeats 1000000 in
theorem st_n_2 (F : Fence) (l n n0 b j : Nat) (e : Ent) (v : Value) (g mm cap : Nat) (W2 w' : World) (x0 x1 x2 x5 x6 x7 x8 x9 x10 x11 x12 x13 x14 x15 x16 x17 x18 : Value) (Q : Exit → Act → World → Prop) (hn0 : n0 < W2.heap.size) (hbl : b < W2.heap.size) (hc3 : W2.cell? ⟨n0, 0, none⟩ = some v)
    (hg : W2.rangeAt b (j * 21) e.cells)
    (hrun : (Builtin.append_ #[27, 27] 27 #[v, .slice (some ⟨W2.heap.size, 0, none⟩) 1 1]).run Try.prog (W2.alloc (.cells #[.int .i64 e.line, .int .i64 e.state, .bool e.read, .bool e.write, .int .u64 e.data.x0, .int .u64 e.data.x1, .int .u64 e.data.x2, .int .u64 e.data.x3, .int .u64 e.data.x4, .int .u64 e.data.x5, .int .u64 e.data.x6, .int .u64 e.data.x7, .int .u64 e.old.x0, .int .u64 e.old.x1, .int .u64 e.old.x2, .int .u64 e.old.x3, .int .u64 e.old.x4, .int .u64 e.old.x5, .int .u64 e.old.x6, .int .u64 e.old.x7, .int .i64 e.used] 42)).drew = .ok (.slice (some ⟨g, 0, none⟩) mm cap) w')
    (hcw : w'.cell? ⟨n0, 0, none⟩ = some v) (hfw : w'.frozen? ⟨n0, 0, none⟩ = false) (hQ : ∀ a, Q .normal a (w'.setCell ⟨n0, 0, none⟩ (.slice (some ⟨g, 0, none⟩) mm cap))) :
    AllReg l n F Q 5 #[false, true, true, false, false, false, false] ({ tmps := #[x0, x1, x2, .pointer (some ⟨n0, 0, none⟩), .pointer (some ⟨b, j * 21, none⟩), x5, x6, x7, x8, x9, x10, .pointer (some ⟨b, j * 21, none⟩), .pointer (some ⟨b, j * 21, none⟩), x13, x14, x15, x16, x17, x18], defers := [] }) (W2.drew) := by
  have Hg := Lib.hid hg
  have HQ := Lib.hid hQ
  unfold AllReg
  have Hrun := Lib.hid hrun
  clear hg hQ hrun
  have hnext0 := st_a_2 F l n n0 b j e v g mm cap W2 w' x0 x1 x2 x5 x6 x7 x8 x9 x10 x11 x12 x13 x14 x15 x16 x17 x18 Q hn0 hbl hc3 Hg.out Hrun.out hcw hfw HQ.out
  have HN0 := Lib.hid hnext0; clear hnext0
  have hnext1 := st_n_3 F l n n0 b j e v g mm cap W2 w' x0 x1 x2 x5 x6 x7 x8 x9 x10 x11 x12 x13 x14 x15 x16 x17 x18 Q hn0 hbl hc3 Hg.out Hrun.out hcw hfw HQ.out
  have HN1 := Lib.hid hnext1; clear hnext1
  refine wpAnyIn_ready (rs := [0, 3]) (by kernel_rfl) (by simp) ?_
  refine AllReadyIn.cons rfl (fun K hK => ?_) ?_
  · go_simp
    refine hK _ _ ?_; clear hK K
    exact HN0.out
  refine AllReadyIn.cons rfl (fun K hK => ?_) ?_
  · refine step_load_in rfl 42 (.tmp 12) rfl b (j * 21) rfl e.cells _ Hg.out Try.underlying42 rfl Try.size42 ?_
    refine hK _ _ ?_; clear hK K
    exact HN1.out
  exact AllReadyIn.nil

set_option maxRecDepth 100000 in
set_option maxHeartbeats 1000000 in
theorem st_n_1 (F : Fence) (l n n0 b j : Nat) (e : Ent) (v : Value) (g mm cap : Nat) (W2 w' : World) (x0 x1 x2 x5 x6 x7 x8 x9 x10 x11 x12 x13 x14 x15 x16 x17 x18 : Value) (Q : Exit → Act → World → Prop) (hn0 : n0 < W2.heap.size) (hbl : b < W2.heap.size) (hc3 : W2.cell? ⟨n0, 0, none⟩ = some v)
    (hg : W2.rangeAt b (j * 21) e.cells)
    (hrun : (Builtin.append_ #[27, 27] 27 #[v, .slice (some ⟨W2.heap.size, 0, none⟩) 1 1]).run Try.prog (W2.alloc (.cells #[.int .i64 e.line, .int .i64 e.state, .bool e.read, .bool e.write, .int .u64 e.data.x0, .int .u64 e.data.x1, .int .u64 e.data.x2, .int .u64 e.data.x3, .int .u64 e.data.x4, .int .u64 e.data.x5, .int .u64 e.data.x6, .int .u64 e.data.x7, .int .u64 e.old.x0, .int .u64 e.old.x1, .int .u64 e.old.x2, .int .u64 e.old.x3, .int .u64 e.old.x4, .int .u64 e.old.x5, .int .u64 e.old.x6, .int .u64 e.old.x7, .int .i64 e.used] 42)).drew = .ok (.slice (some ⟨g, 0, none⟩) mm cap) w')
    (hcw : w'.cell? ⟨n0, 0, none⟩ = some v) (hfw : w'.frozen? ⟨n0, 0, none⟩ = false) (hQ : ∀ a, Q .normal a (w'.setCell ⟨n0, 0, none⟩ (.slice (some ⟨g, 0, none⟩) mm cap))) :
    AllReg l n F Q 6 #[false, true, false, false, false, false, false] ({ tmps := #[x0, x1, x2, .pointer (some ⟨n0, 0, none⟩), .pointer (some ⟨b, j * 21, none⟩), x5, x6, x7, x8, x9, x10, .pointer (some ⟨b, j * 21, none⟩), x12, x13, x14, x15, x16, x17, x18], defers := [] }) (W2.drew) := by
  have Hg := Lib.hid hg
  have HQ := Lib.hid hQ
  unfold AllReg
  have Hrun := Lib.hid hrun
  clear hg hQ hrun
  have hnext0 := st_a_1 F l n n0 b j e v g mm cap W2 w' x0 x1 x2 x5 x6 x7 x8 x9 x10 x11 x12 x13 x14 x15 x16 x17 x18 Q hn0 hbl hc3 Hg.out Hrun.out hcw hfw HQ.out
  have HN0 := Lib.hid hnext0; clear hnext0
  have hnext1 := st_n_2 F l n n0 b j e v g mm cap W2 w' x0 x1 x2 x5 x6 x7 x8 x9 x10 x11 x12 x13 x14 x15 x16 x17 x18 Q hn0 hbl hc3 Hg.out Hrun.out hcw hfw HQ.out
  have HN1 := Lib.hid hnext1; clear hnext1
  refine wpAnyIn_ready (rs := [0, 2]) (by kernel_rfl) (by simp) ?_
  refine AllReadyIn.cons rfl (fun K hK => ?_) ?_
  · go_simp
    refine hK _ _ ?_; clear hK K
    exact HN0.out
  refine AllReadyIn.cons rfl (fun K hK => ?_) ?_
  · go_simp
    refine hK _ _ ?_; clear hK K
    exact HN1.out
  exact AllReadyIn.nil

set_option maxRecDepth 100000 in
set_option maxHeartbeats 1000000 in
theorem st_n_0 (F : Fence) (l n n0 b j : Nat) (e : Ent) (v : Value) (g mm cap : Nat) (W2 w' : World) (x0 x1 x2 x5 x6 x7 x8 x9 x10 x11 x12 x13 x14 x15 x16 x17 x18 : Value) (Q : Exit → Act → World → Prop) (hn0 : n0 < W2.heap.size) (hbl : b < W2.heap.size) (hc3 : W2.cell? ⟨n0, 0, none⟩ = some v)
    (hg : W2.rangeAt b (j * 21) e.cells)
    (hrun : (Builtin.append_ #[27, 27] 27 #[v, .slice (some ⟨W2.heap.size, 0, none⟩) 1 1]).run Try.prog (W2.alloc (.cells #[.int .i64 e.line, .int .i64 e.state, .bool e.read, .bool e.write, .int .u64 e.data.x0, .int .u64 e.data.x1, .int .u64 e.data.x2, .int .u64 e.data.x3, .int .u64 e.data.x4, .int .u64 e.data.x5, .int .u64 e.data.x6, .int .u64 e.data.x7, .int .u64 e.old.x0, .int .u64 e.old.x1, .int .u64 e.old.x2, .int .u64 e.old.x3, .int .u64 e.old.x4, .int .u64 e.old.x5, .int .u64 e.old.x6, .int .u64 e.old.x7, .int .i64 e.used] 42)).drew = .ok (.slice (some ⟨g, 0, none⟩) mm cap) w')
    (hcw : w'.cell? ⟨n0, 0, none⟩ = some v) (hfw : w'.frozen? ⟨n0, 0, none⟩ = false) (hQ : ∀ a, Q .normal a (w'.setCell ⟨n0, 0, none⟩ (.slice (some ⟨g, 0, none⟩) mm cap))) :
    AllReg l n F Q 7 #[false, false, false, false, false, false, false] ({ tmps := #[x0, x1, x2, .pointer (some ⟨n0, 0, none⟩), .pointer (some ⟨b, j * 21, none⟩), x5, x6, x7, x8, x9, x10, x11, x12, x13, x14, x15, x16, x17, x18], defers := [] }) (W2.drew) := by
  have Hg := Lib.hid hg
  have HQ := Lib.hid hQ
  unfold AllReg
  have Hrun := Lib.hid hrun
  clear hg hQ hrun
  have hnext0 := st_a_0 F l n n0 b j e v g mm cap W2 w' x0 x1 x2 x5 x6 x7 x8 x9 x10 x11 x12 x13 x14 x15 x16 x17 x18 Q hn0 hbl hc3 Hg.out Hrun.out hcw hfw HQ.out
  have HN0 := Lib.hid hnext0; clear hnext0
  have hnext1 := st_n_1 F l n n0 b j e v g mm cap W2 w' x0 x1 x2 x5 x6 x7 x8 x9 x10 x11 x12 x13 x14 x15 x16 x17 x18 Q hn0 hbl hc3 Hg.out Hrun.out hcw hfw HQ.out
  have HN1 := Lib.hid hnext1; clear hnext1
  refine wpAnyIn_ready (rs := [0, 1]) (by kernel_rfl) (by simp) ?_
  refine AllReadyIn.cons rfl (fun K hK => ?_) ?_
  · go_simp
    refine hK _ _ ?_; clear hK K
    exact HN0.out
  refine AllReadyIn.cons rfl (fun K hK => ?_) ?_
  · go_simp
    refine hK _ _ ?_; clear hK K
    exact HN1.out
  exact AllReadyIn.nil

theorem all_region (F : Fence) (l n n0 b j : Nat) (e : Ent) (v : Value) (g mm cap : Nat) (W2 w' : World) (x0 x1 x2 x5 x6 x7 x8 x9 x10 x11 x12 x13 x14 x15 x16 x17 x18 : Value) (Q : Exit → Act → World → Prop) (hn0 : n0 < W2.heap.size) (hbl : b < W2.heap.size) (hc3 : W2.cell? ⟨n0, 0, none⟩ = some v)
    (hg : W2.rangeAt b (j * 21) e.cells)
    (hrun : (Builtin.append_ #[27, 27] 27 #[v, .slice (some ⟨W2.heap.size, 0, none⟩) 1 1]).run Try.prog (W2.alloc (.cells #[.int .i64 e.line, .int .i64 e.state, .bool e.read, .bool e.write, .int .u64 e.data.x0, .int .u64 e.data.x1, .int .u64 e.data.x2, .int .u64 e.data.x3, .int .u64 e.data.x4, .int .u64 e.data.x5, .int .u64 e.data.x6, .int .u64 e.data.x7, .int .u64 e.old.x0, .int .u64 e.old.x1, .int .u64 e.old.x2, .int .u64 e.old.x3, .int .u64 e.old.x4, .int .u64 e.old.x5, .int .u64 e.old.x6, .int .u64 e.old.x7, .int .i64 e.used] 42)).drew = .ok (.slice (some ⟨g, 0, none⟩) mm cap) w')
    (hcw : w'.cell? ⟨n0, 0, none⟩ = some v) (hfw : w'.frozen? ⟨n0, 0, none⟩ = false) (hQ : ∀ a, Q .normal a (w'.setCell ⟨n0, 0, none⟩ (.slice (some ⟨g, 0, none⟩) mm cap))) :
    (Code.region 6 #[{ dst := some 10, op := Op.load 27 (Operand.tmp 3), type := 27, pos := "l1.go:157", after := #[], guard := none },
      { dst := some 11, op := Op.move (Operand.tmp 4), type := 82, pos := "l1.go:157", after := #[], guard := none },
      { dst := some 12, op := Op.nilCheck (Operand.tmp 11), type := 0, pos := "l1.go:157", after := #[{ on := 1, ground := Ground.data }], guard := none },
      { dst := some 13, op := Op.load 42 (Operand.tmp 12), type := 42, pos := "l1.go:157", after := #[{ on := 2, ground := Ground.data }], guard := none },
      { dst := some 14, op := Op.buildSlice 27 1 #[(0, Operand.tmp 13)], type := 27, pos := "l1.go:157", after := #[{ on := 3, ground := Ground.data }], guard := none },
      { dst := some 15, op := Op.call { callee := Callee.builtin Builtin.append, args := #[Operand.tmp 10, Operand.tmp 14], argTypes := #[27, 27] }, type := 27, pos := "l1.go:157", after := #[{ on := 0, ground := Ground.data }, { on := 4, ground := Ground.data }], guard := none },
      { dst := none, op := Op.store 27 (Operand.tmp 3) (Operand.tmp 15), type := 0, pos := "l1.go:157", after := #[{ on := 5, ground := Ground.data }, { on := 5, ground := Ground.chain }, { on := 0, ground := Ground.phase }, { on := 1, ground := Ground.phase }, { on := 2, ground := Ground.phase }, { on := 3, ground := Ground.phase }, { on := 4, ground := Ground.phase }, { on := 5, ground := Ground.phase }], guard := none }] true).wpIn (F.inRound l) n Try.prog Q ({ tmps := #[x0, x1, x2, .pointer (some ⟨n0, 0, none⟩), .pointer (some ⟨b, j * 21, none⟩), x5, x6, x7, x8, x9, x10, x11, x12, x13, x14, x15, x16, x17, x18], defers := [] }) W2 := by
  refine wpIn_region_any (by kernel_rfl) ?_
  exact st_n_0 F l n n0 b j e v g mm cap W2 w' x0 x1 x2 x5 x6 x7 x8 x9 x10 x11 x12 x13 x14 x15 x16 x17 x18 Q hn0 hbl hc3 hg hrun hcw hfw hQ

end Go.Proofs.Ytimoaiebikoojaa
