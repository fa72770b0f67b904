/- An instruction's line: its form and its numbers, in whatever order. Conditions: those stated in each theorem. -/
import Derived.Test.YteijhcibdglkeaaGreatDoorTxtA
namespace Go.Proofs.YteijhcibdglkeaaGreatDoor
open Go.RowKit Go.BigFrame
attribute [local simp] wide_fn

theorem Tryz.sizeInstr : (Tryz.prog.info? 43).map (·.size) = some 5 := by kernel_rfl
theorem Tryz.sizeNums : (Tryz.prog.info? 65).map (·.size) = some 5 := by kernel_rfl
theorem oneIn (i : In) : i.cells.toArray.all (·.oneCell') = true := by simp [In.cells, Value.oneCell']
/-- A store of a row in the midst of a block. -/
theorem step_store_in {F : Fence} {n : Nat} {P : Program} {ops : Array Oper} {o : Oper} {a : Act} {w : World} {K : Act → World → Prop} {Q : Exit → Act → World → Prop} {E : Prop} (hg : o.guard = none) (ty : TypeId) (x y : Operand) (hop : o.op = .store ty x y)
    (b off : Nat) (cells : Array Value) (hx : a.eval x = .pointer (some ⟨b, off, none⟩)) (hy : a.eval y = .agg cells) (ht : w.there b off cells.size) (hi : (P.info? ty).map (·.size) = some cells.size) (h1 : cells.all (·.oneCell') = true) (h : K (a.put o.dst undef) (w.setCells b off cells.toList)) :
    if Region.wanted o (yielded ops a.tmps) = true then o.wpIn F n P a w K Q else E := by
  have hw : Region.wanted o (yielded ops a.tmps) = true := by simp [Region.wanted, hg]
  rw [if_pos hw]
  unfold Oper.wpIn
  refine ⟨?_, ?_⟩
  · simp [Oper.about, hop]
  · rw [Oper.semAt_plain F _ _ (by rw [hop]; intro c hc'; cases hc')]
    unfold execOp
    simp only [hop, hx, hy, Instr.storeAt, Instr.sureAddr, Sem.run_bind, Sem.run_pure, Result.andThen_ok, run_storeVar_mid w b off ty cells ht hi h1]
    exact h
/-- A load of a row in the midst of a block. -/
theorem step_load_in {F : Fence} {n : Nat} {P : Program} {ops : Array Oper} {o : Oper} {a : Act} {w : World} {K : Act → World → Prop} {Q : Exit → Act → World → Prop} {E : Prop} (hg : o.guard = none) (ty : TypeId) (x : Operand) (hop : o.op = .load ty x)
    (b off : Nat) (hx : a.eval x = .pointer (some ⟨b, off, none⟩)) (cs : List Value) (d : TypeDesc) (hc : w.rangeAt b off cs) (hu : P.underlying ty = some d) (hd : d.isRow = true) (hi : (P.info? ty).map (·.size) = some cs.length) (h : K (a.put o.dst (.agg cs.toArray)) w) :
    if Region.wanted o (yielded ops a.tmps) = true then o.wpIn F n P a w K Q else E := by
  have hw : Region.wanted o (yielded ops a.tmps) = true := by simp [Region.wanted, hg]
  rw [if_pos hw]
  unfold Oper.wpIn
  refine ⟨?_, ?_⟩
  · simp [Oper.about, hop]
  · rw [Oper.semAt_plain F _ _ (by rw [hop]; intro c hc'; cases hc')]
    unfold execOp
    simp only [hop, hx, Instr.loadAt, Instr.sureAddr, Sem.run_bind, Sem.run_pure, Result.andThen_ok, run_loadVar_mid w b off ty cs d hc hu hd hi]
    exact h

def TxtReg (n : Nat) (Q : Exit → Act → World → Prop) (fuel : Nat) (listed : Array Bool) (a : Act) (w : World) : Prop :=
  wpAnyIn Fence.wide n Tryz.prog .any #[{ dst := some 7, op := Op.load 43 (Operand.tmp 1), type := 43, pos := "isa.go:77", after := #[], guard := none },
      { dst := some 8, op := Op.call { callee := Callee.value (Operand.func 85), args := #[Operand.tmp 7], argTypes := #[43] }, type := 71, pos := "isa.go:77", after := #[{ on := 0, ground := Ground.data }], guard := none },
      { dst := some 9, op := Op.load 43 (Operand.tmp 1), type := 43, pos := "isa.go:77", after := #[], guard := none },
      { dst := some 10, op := Op.call { callee := Callee.value (Operand.func 24), args := #[Operand.tmp 9], argTypes := #[43] }, type := 65, pos := "isa.go:77", after := #[{ on := 2, ground := Ground.data }, { on := 1, ground := Ground.chain }], guard := none },
      { dst := some 3, op := Op.alloc 71, type := 0, pos := "isa.go:77", after := #[], guard := none },
      { dst := some 4, op := Op.alloc 65, type := 0, pos := "isa.go:77", after := #[], guard := none },
      { dst := none, op := Op.store 71 (Operand.tmp 3) (Operand.tmp 8), type := 0, pos := "isa.go:77", after := #[{ on := 4, ground := Ground.data }, { on := 1, ground := Ground.data }, { on := 3, ground := Ground.chain }, { on := 0, ground := Ground.phase }, { on := 1, ground := Ground.phase }, { on := 2, ground := Ground.textOnly Departure.lateStores }, { on := 3, ground := Ground.textOnly Departure.lateStoresUnsure }, { on := 4, ground := Ground.phase }, { on := 5, ground := Ground.phase }], guard := none },
      { dst := none, op := Op.store 65 (Operand.tmp 4) (Operand.tmp 10), type := 0, pos := "isa.go:77", after := #[{ on := 5, ground := Ground.data }, { on := 3, ground := Ground.data }, { on := 6, ground := Ground.chain }, { on := 0, ground := Ground.phase }, { on := 1, ground := Ground.phase }, { on := 2, ground := Ground.phase }, { on := 3, ground := Ground.phase }, { on := 4, ground := Ground.phase }, { on := 5, ground := Ground.phase }, { on := 6, ground := Ground.phase }], guard := none }] Q fuel listed a w

theorem setNums {W : World} {q : Nat} {L : List Value} (h : Holds W q 65 L) (hL : L.length = 5) (i : In) : Holds (W.setCells q 0 i.cells) q 65 i.cells := by
  have := h.sets i.cells 0
  match L, hL with
  | [_, _, _, _, _], _ => exact this

set_option maxRecDepth 100000 in
set_option maxHeartbeats 1000000 in
theorem tr_0123456 (n : Nat) (op a b c imm : Int) (r n0 : Nat) (W0 : World) (Q : Exit → Act → World → Prop) (H0 : Holds W0 n0 43 [.int .i64 op, .int .i64 a, .int .i64 b, .int .i64 c, .int .i64 imm]) (HF : FormsAt W0) (Hfo : ∀ W, FormsAt W → Calls Tryz.prog 85 #[.agg #[.int .i64 op, .int .i64 a, .int .i64 b, .int .i64 c, .int .i64 imm]] W fun e w' => e = .returned (.agg #[.string (wordS r), .int .i64 (mask r)]) ∧ Below W.heap.size W w') (HQ : ∀ V q3 q4, Below W0.heap.size W0 V → W0.heap.size ≤ q3 ∧ Holds V q3 71 (rowCells r) → W0.heap.size ≤ q4 ∧ Holds V q4 65 [.int .i64 op, .int .i64 a, .int .i64 b, .int .i64 c, .int .i64 imm] → q3 ≠ q4 → Q .normal ({ tmps := #[.agg #[.int .i64 op, .int .i64 a, .int .i64 b, .int .i64 c, .int .i64 imm], .pointer (some ⟨n0, 0, none⟩), .string ⟨#[]⟩, .pointer (some ⟨q3, 0, none⟩), .pointer (some ⟨q4, 0, none⟩), undef, undef, .agg #[.int .i64 op, .int .i64 a, .int .i64 b, .int .i64 c, .int .i64 imm], .agg #[.string (wordS r), .int .i64 (mask r)], .agg #[.int .i64 op, .int .i64 a, .int .i64 b, .int .i64 c, .int .i64 imm], .agg #[.int .i64 op, .int .i64 a, .int .i64 b, .int .i64 c, .int .i64 imm], undef, undef, undef, undef, undef, undef, undef, undef, undef, undef, undef, undef, undef, undef, undef, undef, undef], defers := [] }) V) (V : World) (hB : Below W0.heap.size W0 V) (q3 : Nat) (h3 : W0.heap.size ≤ q3 ∧ Holds V q3 71 (rowCells r)) (q4 : Nat) (h4 : W0.heap.size ≤ q4 ∧ Holds V q4 65 [.int .i64 0, .int .i64 0, .int .i64 0, .int .i64 0, .int .i64 0]) (hne : q3 ≠ q4) :
    TxtReg n Q 1 #[true, true, true, true, true, true, true, false] ({ tmps := #[.agg #[.int .i64 op, .int .i64 a, .int .i64 b, .int .i64 c, .int .i64 imm], .pointer (some ⟨n0, 0, none⟩), .string ⟨#[]⟩, .pointer (some ⟨q3, 0, none⟩), .pointer (some ⟨q4, 0, none⟩), undef, undef, .agg #[.int .i64 op, .int .i64 a, .int .i64 b, .int .i64 c, .int .i64 imm], .agg #[.string (wordS r), .int .i64 (mask r)], .agg #[.int .i64 op, .int .i64 a, .int .i64 b, .int .i64 c, .int .i64 imm], .agg #[.int .i64 op, .int .i64 a, .int .i64 b, .int .i64 c, .int .i64 imm], undef, undef, undef, undef, undef, undef, undef, undef, undef, undef, undef, undef, undef, undef, undef, undef, undef], defers := [] }) V := by
  have hs := hB.size
  have K_ := Lib.hid (And.intro H0 (And.intro HF (And.intro Hfo (And.intro HQ (And.intro hB (And.intro hs (And.intro h3 (And.intro h4 (hne)))))))))
  clear hne h4 h3 hs hB HQ Hfo HF H0
  unfold TxtReg
  refine wpAnyIn_ready (rs := [7]) (by kernel_rfl) (by simp) ?_
  refine AllReadyIn.cons rfl (fun K hK => ?_) ?_
  · obtain ⟨H0, HF, Hfo, HQ, hB, hs, h3, h4, hne⟩ := K_.out
    refine step_store_in rfl 65 (.tmp 4) (.tmp 10) rfl q4 0 (In.cells ⟨op, a, b, c, imm⟩).toArray rfl rfl (h4.2.there (by simp [In.cells])) Tryz.sizeNums (oneIn _) ?_
    refine hK _ _ ?_; clear hK K
    refine wpAnyIn_done (by kernel_rfl) ?_ _
    exact HQ _ q3 q4 (below_cells h4.1 _ 0 _ hB) ⟨h3.1, Holds.others hne _ 0 h3.2⟩ ⟨h4.1, setNums h4.2 rfl ⟨op, a, b, c, imm⟩⟩ hne
  exact AllReadyIn.nil

set_option maxRecDepth 100000 in
set_option maxHeartbeats 1000000 in
theorem tr_012345 (n : Nat) (op a b c imm : Int) (r n0 : Nat) (W0 : World) (Q : Exit → Act → World → Prop) (H0 : Holds W0 n0 43 [.int .i64 op, .int .i64 a, .int .i64 b, .int .i64 c, .int .i64 imm]) (HF : FormsAt W0) (Hfo : ∀ W, FormsAt W → Calls Tryz.prog 85 #[.agg #[.int .i64 op, .int .i64 a, .int .i64 b, .int .i64 c, .int .i64 imm]] W fun e w' => e = .returned (.agg #[.string (wordS r), .int .i64 (mask r)]) ∧ Below W.heap.size W w') (HQ : ∀ V q3 q4, Below W0.heap.size W0 V → W0.heap.size ≤ q3 ∧ Holds V q3 71 (rowCells r) → W0.heap.size ≤ q4 ∧ Holds V q4 65 [.int .i64 op, .int .i64 a, .int .i64 b, .int .i64 c, .int .i64 imm] → q3 ≠ q4 → Q .normal ({ tmps := #[.agg #[.int .i64 op, .int .i64 a, .int .i64 b, .int .i64 c, .int .i64 imm], .pointer (some ⟨n0, 0, none⟩), .string ⟨#[]⟩, .pointer (some ⟨q3, 0, none⟩), .pointer (some ⟨q4, 0, none⟩), undef, undef, .agg #[.int .i64 op, .int .i64 a, .int .i64 b, .int .i64 c, .int .i64 imm], .agg #[.string (wordS r), .int .i64 (mask r)], .agg #[.int .i64 op, .int .i64 a, .int .i64 b, .int .i64 c, .int .i64 imm], .agg #[.int .i64 op, .int .i64 a, .int .i64 b, .int .i64 c, .int .i64 imm], undef, undef, undef, undef, undef, undef, undef, undef, undef, undef, undef, undef, undef, undef, undef, undef, undef], defers := [] }) V) (V : World) (hB : Below W0.heap.size W0 V) (q3 : Nat) (h3 : W0.heap.size ≤ q3 ∧ Holds V q3 71 [.string ⟨#[]⟩, .int .i64 0]) (q4 : Nat) (h4 : W0.heap.size ≤ q4 ∧ Holds V q4 65 [.int .i64 0, .int .i64 0, .int .i64 0, .int .i64 0, .int .i64 0]) (hne : q3 ≠ q4) :
    TxtReg n Q 2 #[true, true, true, true, true, true, false, false] ({ tmps := #[.agg #[.int .i64 op, .int .i64 a, .int .i64 b, .int .i64 c, .int .i64 imm], .pointer (some ⟨n0, 0, none⟩), .string ⟨#[]⟩, .pointer (some ⟨q3, 0, none⟩), .pointer (some ⟨q4, 0, none⟩), undef, undef, .agg #[.int .i64 op, .int .i64 a, .int .i64 b, .int .i64 c, .int .i64 imm], .agg #[.string (wordS r), .int .i64 (mask r)], .agg #[.int .i64 op, .int .i64 a, .int .i64 b, .int .i64 c, .int .i64 imm], .agg #[.int .i64 op, .int .i64 a, .int .i64 b, .int .i64 c, .int .i64 imm], undef, undef, undef, undef, undef, undef, undef, undef, undef, undef, undef, undef, undef, undef, undef, undef, undef], defers := [] }) V := by
  have hs := hB.size
  have K_ := Lib.hid (And.intro H0 (And.intro HF (And.intro Hfo (And.intro HQ (And.intro hB (And.intro hs (And.intro h3 (And.intro h4 (hne)))))))))
  clear hne h4 h3 hs hB HQ Hfo HF H0
  unfold TxtReg
  refine wpAnyIn_ready (rs := [6]) (by kernel_rfl) (by simp) ?_
  refine AllReadyIn.cons rfl (fun K hK => ?_) ?_
  · obtain ⟨H0, HF, Hfo, HQ, hB, hs, h3, h4, hne⟩ := K_.out
    refine step_store_in rfl 71 (.tmp 3) (.tmp 8) rfl q3 0 (rowCells r).toArray rfl rfl (h3.2.there (by simp [rowCells])) Tryz.sizeForm (oneForm r) ?_
    refine hK _ _ ?_; clear hK K
    exact tr_0123456 n op a b c imm r n0 W0 Q H0 HF Hfo HQ _ (below_cells h3.1 _ 0 _ hB) q3 (⟨h3.1, setForm h3.2 rfl r⟩) q4 (⟨h4.1, Holds.others hne.symm _ 0 h4.2⟩) (hne)
  exact AllReadyIn.nil

set_option maxRecDepth 100000 in
set_option maxHeartbeats 1000000 in
theorem tr_01245 (n : Nat) (op a b c imm : Int) (r n0 : Nat) (W0 : World) (Q : Exit → Act → World → Prop) (H0 : Holds W0 n0 43 [.int .i64 op, .int .i64 a, .int .i64 b, .int .i64 c, .int .i64 imm]) (HF : FormsAt W0) (Hfo : ∀ W, FormsAt W → Calls Tryz.prog 85 #[.agg #[.int .i64 op, .int .i64 a, .int .i64 b, .int .i64 c, .int .i64 imm]] W fun e w' => e = .returned (.agg #[.string (wordS r), .int .i64 (mask r)]) ∧ Below W.heap.size W w') (HQ : ∀ V q3 q4, Below W0.heap.size W0 V → W0.heap.size ≤ q3 ∧ Holds V q3 71 (rowCells r) → W0.heap.size ≤ q4 ∧ Holds V q4 65 [.int .i64 op, .int .i64 a, .int .i64 b, .int .i64 c, .int .i64 imm] → q3 ≠ q4 → Q .normal ({ tmps := #[.agg #[.int .i64 op, .int .i64 a, .int .i64 b, .int .i64 c, .int .i64 imm], .pointer (some ⟨n0, 0, none⟩), .string ⟨#[]⟩, .pointer (some ⟨q3, 0, none⟩), .pointer (some ⟨q4, 0, none⟩), undef, undef, .agg #[.int .i64 op, .int .i64 a, .int .i64 b, .int .i64 c, .int .i64 imm], .agg #[.string (wordS r), .int .i64 (mask r)], .agg #[.int .i64 op, .int .i64 a, .int .i64 b, .int .i64 c, .int .i64 imm], .agg #[.int .i64 op, .int .i64 a, .int .i64 b, .int .i64 c, .int .i64 imm], undef, undef, undef, undef, undef, undef, undef, undef, undef, undef, undef, undef, undef, undef, undef, undef, undef], defers := [] }) V) (V : World) (hB : Below W0.heap.size W0 V) (q3 : Nat) (h3 : W0.heap.size ≤ q3 ∧ Holds V q3 71 [.string ⟨#[]⟩, .int .i64 0]) (q4 : Nat) (h4 : W0.heap.size ≤ q4 ∧ Holds V q4 65 [.int .i64 0, .int .i64 0, .int .i64 0, .int .i64 0, .int .i64 0]) (hne : q3 ≠ q4) :
    TxtReg n Q 3 #[true, true, true, false, true, true, false, false] ({ tmps := #[.agg #[.int .i64 op, .int .i64 a, .int .i64 b, .int .i64 c, .int .i64 imm], .pointer (some ⟨n0, 0, none⟩), .string ⟨#[]⟩, .pointer (some ⟨q3, 0, none⟩), .pointer (some ⟨q4, 0, none⟩), undef, undef, .agg #[.int .i64 op, .int .i64 a, .int .i64 b, .int .i64 c, .int .i64 imm], .agg #[.string (wordS r), .int .i64 (mask r)], .agg #[.int .i64 op, .int .i64 a, .int .i64 b, .int .i64 c, .int .i64 imm], undef, undef, undef, undef, undef, undef, undef, undef, undef, undef, undef, undef, undef, undef, undef, undef, undef, undef], defers := [] }) V := by
  have hs := hB.size
  have K_ := Lib.hid (And.intro H0 (And.intro HF (And.intro Hfo (And.intro HQ (And.intro hB (And.intro hs (And.intro h3 (And.intro h4 (hne)))))))))
  clear hne h4 h3 hs hB HQ Hfo HF H0
  unfold TxtReg
  refine wpAnyIn_ready (rs := [3]) (by kernel_rfl) (by simp) ?_
  refine AllReadyIn.cons rfl (fun K hK => ?_) ?_
  · go_simp
    refine ⟨fun h => (by cases h), ?_⟩
    obtain ⟨H0, HF, Hfo, HQ, hB, hs, h3, h4, hne⟩ := K_.out
    refine (callsIn_wide.2 (numbersOf_any ⟨op, a, b, c, imm⟩ _)).mono ?_
    rintro e V2 ⟨rfl, hb⟩
    refine hK _ _ ?_; clear hK K
    exact tr_012345 n op a b c imm r n0 W0 Q H0 HF Hfo HQ V2 (hB.trans (hb.mono hs)) q3 (⟨h3.1, h3.2.below hb⟩) q4 (⟨h4.1, h4.2.below hb⟩) (hne)
  exact AllReadyIn.nil

set_option maxRecDepth 100000 in
set_option maxHeartbeats 1000000 in
theorem tr_01235 (n : Nat) (op a b c imm : Int) (r n0 : Nat) (W0 : World) (Q : Exit → Act → World → Prop) (H0 : Holds W0 n0 43 [.int .i64 op, .int .i64 a, .int .i64 b, .int .i64 c, .int .i64 imm]) (HF : FormsAt W0) (Hfo : ∀ W, FormsAt W → Calls Tryz.prog 85 #[.agg #[.int .i64 op, .int .i64 a, .int .i64 b, .int .i64 c, .int .i64 imm]] W fun e w' => e = .returned (.agg #[.string (wordS r), .int .i64 (mask r)]) ∧ Below W.heap.size W w') (HQ : ∀ V q3 q4, Below W0.heap.size W0 V → W0.heap.size ≤ q3 ∧ Holds V q3 71 (rowCells r) → W0.heap.size ≤ q4 ∧ Holds V q4 65 [.int .i64 op, .int .i64 a, .int .i64 b, .int .i64 c, .int .i64 imm] → q3 ≠ q4 → Q .normal ({ tmps := #[.agg #[.int .i64 op, .int .i64 a, .int .i64 b, .int .i64 c, .int .i64 imm], .pointer (some ⟨n0, 0, none⟩), .string ⟨#[]⟩, .pointer (some ⟨q3, 0, none⟩), .pointer (some ⟨q4, 0, none⟩), undef, undef, .agg #[.int .i64 op, .int .i64 a, .int .i64 b, .int .i64 c, .int .i64 imm], .agg #[.string (wordS r), .int .i64 (mask r)], .agg #[.int .i64 op, .int .i64 a, .int .i64 b, .int .i64 c, .int .i64 imm], .agg #[.int .i64 op, .int .i64 a, .int .i64 b, .int .i64 c, .int .i64 imm], undef, undef, undef, undef, undef, undef, undef, undef, undef, undef, undef, undef, undef, undef, undef, undef, undef], defers := [] }) V) (V : World) (hB : Below W0.heap.size W0 V) (q4 : Nat) (h4 : W0.heap.size ≤ q4 ∧ Holds V q4 65 [.int .i64 0, .int .i64 0, .int .i64 0, .int .i64 0, .int .i64 0]) :
    TxtReg n Q 3 #[true, true, true, true, false, true, false, false] ({ tmps := #[.agg #[.int .i64 op, .int .i64 a, .int .i64 b, .int .i64 c, .int .i64 imm], .pointer (some ⟨n0, 0, none⟩), .string ⟨#[]⟩, undef, .pointer (some ⟨q4, 0, none⟩), undef, undef, .agg #[.int .i64 op, .int .i64 a, .int .i64 b, .int .i64 c, .int .i64 imm], .agg #[.string (wordS r), .int .i64 (mask r)], .agg #[.int .i64 op, .int .i64 a, .int .i64 b, .int .i64 c, .int .i64 imm], .agg #[.int .i64 op, .int .i64 a, .int .i64 b, .int .i64 c, .int .i64 imm], undef, undef, undef, undef, undef, undef, undef, undef, undef, undef, undef, undef, undef, undef, undef, undef, undef], defers := [] }) V := by
  have hs := hB.size
  have K_ := Lib.hid (And.intro H0 (And.intro HF (And.intro Hfo (And.intro HQ (And.intro hB (And.intro hs (h4)))))))
  clear h4 hs hB HQ Hfo HF H0
  unfold TxtReg
  refine wpAnyIn_ready (rs := [4]) (by kernel_rfl) (by simp) ?_
  refine AllReadyIn.cons rfl (fun K hK => ?_) ?_
  · go_simp
    refine hK _ _ ?_; clear hK K
    obtain ⟨H0, HF, Hfo, HQ, hB, hs, h4⟩ := K_.out
    exact tr_012345 n op a b c imm r n0 W0 Q H0 HF Hfo HQ _ (hB.alloc hs _) _ (⟨hs, Holds.new V 71 [.string ⟨#[]⟩, .int .i64 0]⟩) q4 (⟨h4.1, h4.2.alloc _⟩) ((by have := h4.2.lt; omega))
  exact AllReadyIn.nil

set_option maxRecDepth 100000 in
set_option maxHeartbeats 1000000 in
theorem tr_01234 (n : Nat) (op a b c imm : Int) (r n0 : Nat) (W0 : World) (Q : Exit → Act → World → Prop) (H0 : Holds W0 n0 43 [.int .i64 op, .int .i64 a, .int .i64 b, .int .i64 c, .int .i64 imm]) (HF : FormsAt W0) (Hfo : ∀ W, FormsAt W → Calls Tryz.prog 85 #[.agg #[.int .i64 op, .int .i64 a, .int .i64 b, .int .i64 c, .int .i64 imm]] W fun e w' => e = .returned (.agg #[.string (wordS r), .int .i64 (mask r)]) ∧ Below W.heap.size W w') (HQ : ∀ V q3 q4, Below W0.heap.size W0 V → W0.heap.size ≤ q3 ∧ Holds V q3 71 (rowCells r) → W0.heap.size ≤ q4 ∧ Holds V q4 65 [.int .i64 op, .int .i64 a, .int .i64 b, .int .i64 c, .int .i64 imm] → q3 ≠ q4 → Q .normal ({ tmps := #[.agg #[.int .i64 op, .int .i64 a, .int .i64 b, .int .i64 c, .int .i64 imm], .pointer (some ⟨n0, 0, none⟩), .string ⟨#[]⟩, .pointer (some ⟨q3, 0, none⟩), .pointer (some ⟨q4, 0, none⟩), undef, undef, .agg #[.int .i64 op, .int .i64 a, .int .i64 b, .int .i64 c, .int .i64 imm], .agg #[.string (wordS r), .int .i64 (mask r)], .agg #[.int .i64 op, .int .i64 a, .int .i64 b, .int .i64 c, .int .i64 imm], .agg #[.int .i64 op, .int .i64 a, .int .i64 b, .int .i64 c, .int .i64 imm], undef, undef, undef, undef, undef, undef, undef, undef, undef, undef, undef, undef, undef, undef, undef, undef, undef], defers := [] }) V) (V : World) (hB : Below W0.heap.size W0 V) (q3 : Nat) (h3 : W0.heap.size ≤ q3 ∧ Holds V q3 71 [.string ⟨#[]⟩, .int .i64 0]) :
    TxtReg n Q 3 #[true, true, true, true, true, false, false, false] ({ tmps := #[.agg #[.int .i64 op, .int .i64 a, .int .i64 b, .int .i64 c, .int .i64 imm], .pointer (some ⟨n0, 0, none⟩), .string ⟨#[]⟩, .pointer (some ⟨q3, 0, none⟩), undef, undef, undef, .agg #[.int .i64 op, .int .i64 a, .int .i64 b, .int .i64 c, .int .i64 imm], .agg #[.string (wordS r), .int .i64 (mask r)], .agg #[.int .i64 op, .int .i64 a, .int .i64 b, .int .i64 c, .int .i64 imm], .agg #[.int .i64 op, .int .i64 a, .int .i64 b, .int .i64 c, .int .i64 imm], undef, undef, undef, undef, undef, undef, undef, undef, undef, undef, undef, undef, undef, undef, undef, undef, undef], defers := [] }) V := by
  have hs := hB.size
  have K_ := Lib.hid (And.intro H0 (And.intro HF (And.intro Hfo (And.intro HQ (And.intro hB (And.intro hs (h3)))))))
  clear h3 hs hB HQ Hfo HF H0
  unfold TxtReg
  refine wpAnyIn_ready (rs := [5]) (by kernel_rfl) (by simp) ?_
  refine AllReadyIn.cons rfl (fun K hK => ?_) ?_
  · go_simp
    refine hK _ _ ?_; clear hK K
    obtain ⟨H0, HF, Hfo, HQ, hB, hs, h3⟩ := K_.out
    exact tr_012345 n op a b c imm r n0 W0 Q H0 HF Hfo HQ _ (hB.alloc hs _) q3 (⟨h3.1, h3.2.alloc _⟩) _ (⟨hs, Holds.new V 65 [.int .i64 0, .int .i64 0, .int .i64 0, .int .i64 0, .int .i64 0]⟩) ((by have := h3.2.lt; omega))
  exact AllReadyIn.nil

set_option maxRecDepth 100000 in
set_option maxHeartbeats 1000000 in
theorem tr_0245 (n : Nat) (op a b c imm : Int) (r n0 : Nat) (W0 : World) (Q : Exit → Act → World → Prop) (H0 : Holds W0 n0 43 [.int .i64 op, .int .i64 a, .int .i64 b, .int .i64 c, .int .i64 imm]) (HF : FormsAt W0) (Hfo : ∀ W, FormsAt W → Calls Tryz.prog 85 #[.agg #[.int .i64 op, .int .i64 a, .int .i64 b, .int .i64 c, .int .i64 imm]] W fun e w' => e = .returned (.agg #[.string (wordS r), .int .i64 (mask r)]) ∧ Below W.heap.size W w') (HQ : ∀ V q3 q4, Below W0.heap.size W0 V → W0.heap.size ≤ q3 ∧ Holds V q3 71 (rowCells r) → W0.heap.size ≤ q4 ∧ Holds V q4 65 [.int .i64 op, .int .i64 a, .int .i64 b, .int .i64 c, .int .i64 imm] → q3 ≠ q4 → Q .normal ({ tmps := #[.agg #[.int .i64 op, .int .i64 a, .int .i64 b, .int .i64 c, .int .i64 imm], .pointer (some ⟨n0, 0, none⟩), .string ⟨#[]⟩, .pointer (some ⟨q3, 0, none⟩), .pointer (some ⟨q4, 0, none⟩), undef, undef, .agg #[.int .i64 op, .int .i64 a, .int .i64 b, .int .i64 c, .int .i64 imm], .agg #[.string (wordS r), .int .i64 (mask r)], .agg #[.int .i64 op, .int .i64 a, .int .i64 b, .int .i64 c, .int .i64 imm], .agg #[.int .i64 op, .int .i64 a, .int .i64 b, .int .i64 c, .int .i64 imm], undef, undef, undef, undef, undef, undef, undef, undef, undef, undef, undef, undef, undef, undef, undef, undef, undef], defers := [] }) V) (V : World) (hB : Below W0.heap.size W0 V) (q3 : Nat) (h3 : W0.heap.size ≤ q3 ∧ Holds V q3 71 [.string ⟨#[]⟩, .int .i64 0]) (q4 : Nat) (h4 : W0.heap.size ≤ q4 ∧ Holds V q4 65 [.int .i64 0, .int .i64 0, .int .i64 0, .int .i64 0, .int .i64 0]) (hne : q3 ≠ q4) :
    TxtReg n Q 4 #[true, false, true, false, true, true, false, false] ({ tmps := #[.agg #[.int .i64 op, .int .i64 a, .int .i64 b, .int .i64 c, .int .i64 imm], .pointer (some ⟨n0, 0, none⟩), .string ⟨#[]⟩, .pointer (some ⟨q3, 0, none⟩), .pointer (some ⟨q4, 0, none⟩), undef, undef, .agg #[.int .i64 op, .int .i64 a, .int .i64 b, .int .i64 c, .int .i64 imm], undef, .agg #[.int .i64 op, .int .i64 a, .int .i64 b, .int .i64 c, .int .i64 imm], undef, undef, undef, undef, undef, undef, undef, undef, undef, undef, undef, undef, undef, undef, undef, undef, undef, undef], defers := [] }) V := by
  have hs := hB.size
  have K_ := Lib.hid (And.intro H0 (And.intro HF (And.intro Hfo (And.intro HQ (And.intro hB (And.intro hs (And.intro h3 (And.intro h4 (hne)))))))))
  clear hne h4 h3 hs hB HQ Hfo HF H0
  unfold TxtReg
  refine wpAnyIn_ready (rs := [1]) (by kernel_rfl) (by simp) ?_
  refine AllReadyIn.cons rfl (fun K hK => ?_) ?_
  · go_simp
    refine ⟨fun h => (by cases h), ?_⟩
    obtain ⟨H0, HF, Hfo, HQ, hB, hs, h3, h4, hne⟩ := K_.out
    refine (callsIn_wide.2 (Hfo _ (HF.below hB))).mono ?_
    rintro e V2 ⟨rfl, hb⟩
    refine hK _ _ ?_; clear hK K
    exact tr_01245 n op a b c imm r n0 W0 Q H0 HF Hfo HQ V2 (hB.trans (hb.mono hs)) q3 (⟨h3.1, h3.2.below hb⟩) q4 (⟨h4.1, h4.2.below hb⟩) (hne)
  exact AllReadyIn.nil

set_option maxRecDepth 100000 in
set_option maxHeartbeats 1000000 in
theorem tr_0145 (n : Nat) (op a b c imm : Int) (r n0 : Nat) (W0 : World) (Q : Exit → Act → World → Prop) (H0 : Holds W0 n0 43 [.int .i64 op, .int .i64 a, .int .i64 b, .int .i64 c, .int .i64 imm]) (HF : FormsAt W0) (Hfo : ∀ W, FormsAt W → Calls Tryz.prog 85 #[.agg #[.int .i64 op, .int .i64 a, .int .i64 b, .int .i64 c, .int .i64 imm]] W fun e w' => e = .returned (.agg #[.string (wordS r), .int .i64 (mask r)]) ∧ Below W.heap.size W w') (HQ : ∀ V q3 q4, Below W0.heap.size W0 V → W0.heap.size ≤ q3 ∧ Holds V q3 71 (rowCells r) → W0.heap.size ≤ q4 ∧ Holds V q4 65 [.int .i64 op, .int .i64 a, .int .i64 b, .int .i64 c, .int .i64 imm] → q3 ≠ q4 → Q .normal ({ tmps := #[.agg #[.int .i64 op, .int .i64 a, .int .i64 b, .int .i64 c, .int .i64 imm], .pointer (some ⟨n0, 0, none⟩), .string ⟨#[]⟩, .pointer (some ⟨q3, 0, none⟩), .pointer (some ⟨q4, 0, none⟩), undef, undef, .agg #[.int .i64 op, .int .i64 a, .int .i64 b, .int .i64 c, .int .i64 imm], .agg #[.string (wordS r), .int .i64 (mask r)], .agg #[.int .i64 op, .int .i64 a, .int .i64 b, .int .i64 c, .int .i64 imm], .agg #[.int .i64 op, .int .i64 a, .int .i64 b, .int .i64 c, .int .i64 imm], undef, undef, undef, undef, undef, undef, undef, undef, undef, undef, undef, undef, undef, undef, undef, undef, undef], defers := [] }) V) (V : World) (hB : Below W0.heap.size W0 V) (q3 : Nat) (h3 : W0.heap.size ≤ q3 ∧ Holds V q3 71 [.string ⟨#[]⟩, .int .i64 0]) (q4 : Nat) (h4 : W0.heap.size ≤ q4 ∧ Holds V q4 65 [.int .i64 0, .int .i64 0, .int .i64 0, .int .i64 0, .int .i64 0]) (hne : q3 ≠ q4) :
    TxtReg n Q 4 #[true, true, false, false, true, true, false, false] ({ tmps := #[.agg #[.int .i64 op, .int .i64 a, .int .i64 b, .int .i64 c, .int .i64 imm], .pointer (some ⟨n0, 0, none⟩), .string ⟨#[]⟩, .pointer (some ⟨q3, 0, none⟩), .pointer (some ⟨q4, 0, none⟩), undef, undef, .agg #[.int .i64 op, .int .i64 a, .int .i64 b, .int .i64 c, .int .i64 imm], .agg #[.string (wordS r), .int .i64 (mask r)], undef, undef, undef, undef, undef, undef, undef, undef, undef, undef, undef, undef, undef, undef, undef, undef, undef, undef, undef], defers := [] }) V := by
  have hs := hB.size
  have K_ := Lib.hid (And.intro H0 (And.intro HF (And.intro Hfo (And.intro HQ (And.intro hB (And.intro hs (And.intro h3 (And.intro h4 (hne)))))))))
  clear hne h4 h3 hs hB HQ Hfo HF H0
  unfold TxtReg
  refine wpAnyIn_ready (rs := [2]) (by kernel_rfl) (by simp) ?_
  refine AllReadyIn.cons rfl (fun K hK => ?_) ?_
  · obtain ⟨H0, HF, Hfo, HQ, hB, hs, h3, h4, hne⟩ := K_.out
    refine step_load_in rfl 43 (.tmp 1) rfl n0 0 rfl [.int .i64 op, .int .i64 a, .int .i64 b, .int .i64 c, .int .i64 imm] _ (H0.below hB).full Tryz.underlying43 rfl (by kernel_rfl) ?_
    refine hK _ _ ?_; clear hK K
    exact tr_01245 n op a b c imm r n0 W0 Q H0 HF Hfo HQ V (hB) q3 (h3) q4 (h4) (hne)
  exact AllReadyIn.nil

set_option maxRecDepth 100000 in
set_option maxHeartbeats 1000000 in
theorem tr_0125 (n : Nat) (op a b c imm : Int) (r n0 : Nat) (W0 : World) (Q : Exit → Act → World → Prop) (H0 : Holds W0 n0 43 [.int .i64 op, .int .i64 a, .int .i64 b, .int .i64 c, .int .i64 imm]) (HF : FormsAt W0) (Hfo : ∀ W, FormsAt W → Calls Tryz.prog 85 #[.agg #[.int .i64 op, .int .i64 a, .int .i64 b, .int .i64 c, .int .i64 imm]] W fun e w' => e = .returned (.agg #[.string (wordS r), .int .i64 (mask r)]) ∧ Below W.heap.size W w') (HQ : ∀ V q3 q4, Below W0.heap.size W0 V → W0.heap.size ≤ q3 ∧ Holds V q3 71 (rowCells r) → W0.heap.size ≤ q4 ∧ Holds V q4 65 [.int .i64 op, .int .i64 a, .int .i64 b, .int .i64 c, .int .i64 imm] → q3 ≠ q4 → Q .normal ({ tmps := #[.agg #[.int .i64 op, .int .i64 a, .int .i64 b, .int .i64 c, .int .i64 imm], .pointer (some ⟨n0, 0, none⟩), .string ⟨#[]⟩, .pointer (some ⟨q3, 0, none⟩), .pointer (some ⟨q4, 0, none⟩), undef, undef, .agg #[.int .i64 op, .int .i64 a, .int .i64 b, .int .i64 c, .int .i64 imm], .agg #[.string (wordS r), .int .i64 (mask r)], .agg #[.int .i64 op, .int .i64 a, .int .i64 b, .int .i64 c, .int .i64 imm], .agg #[.int .i64 op, .int .i64 a, .int .i64 b, .int .i64 c, .int .i64 imm], undef, undef, undef, undef, undef, undef, undef, undef, undef, undef, undef, undef, undef, undef, undef, undef, undef], defers := [] }) V) (V : World) (hB : Below W0.heap.size W0 V) (q4 : Nat) (h4 : W0.heap.size ≤ q4 ∧ Holds V q4 65 [.int .i64 0, .int .i64 0, .int .i64 0, .int .i64 0, .int .i64 0]) :
    TxtReg n Q 4 #[true, true, true, false, false, true, false, false] ({ tmps := #[.agg #[.int .i64 op, .int .i64 a, .int .i64 b, .int .i64 c, .int .i64 imm], .pointer (some ⟨n0, 0, none⟩), .string ⟨#[]⟩, undef, .pointer (some ⟨q4, 0, none⟩), undef, undef, .agg #[.int .i64 op, .int .i64 a, .int .i64 b, .int .i64 c, .int .i64 imm], .agg #[.string (wordS r), .int .i64 (mask r)], .agg #[.int .i64 op, .int .i64 a, .int .i64 b, .int .i64 c, .int .i64 imm], undef, undef, undef, undef, undef, undef, undef, undef, undef, undef, undef, undef, undef, undef, undef, undef, undef, undef], defers := [] }) V := by
  have hs := hB.size
  have K_ := Lib.hid (And.intro H0 (And.intro HF (And.intro Hfo (And.intro HQ (And.intro hB (And.intro hs (h4)))))))
  clear h4 hs hB HQ Hfo HF H0
  unfold TxtReg
  refine wpAnyIn_ready (rs := [3, 4]) (by kernel_rfl) (by simp) ?_
  refine AllReadyIn.cons rfl (fun K hK => ?_) ?_
  · go_simp
    refine ⟨fun h => (by cases h), ?_⟩
    obtain ⟨H0, HF, Hfo, HQ, hB, hs, h4⟩ := K_.out
    refine (callsIn_wide.2 (numbersOf_any ⟨op, a, b, c, imm⟩ _)).mono ?_
    rintro e V2 ⟨rfl, hb⟩
    refine hK _ _ ?_; clear hK K
    exact tr_01235 n op a b c imm r n0 W0 Q H0 HF Hfo HQ V2 (hB.trans (hb.mono hs)) q4 (⟨h4.1, h4.2.below hb⟩)
  refine AllReadyIn.cons rfl (fun K hK => ?_) ?_
  · go_simp
    refine hK _ _ ?_; clear hK K
    obtain ⟨H0, HF, Hfo, HQ, hB, hs, h4⟩ := K_.out
    exact tr_01245 n op a b c imm r n0 W0 Q H0 HF Hfo HQ _ (hB.alloc hs _) _ (⟨hs, Holds.new V 71 [.string ⟨#[]⟩, .int .i64 0]⟩) q4 (⟨h4.1, h4.2.alloc _⟩) ((by have := h4.2.lt; omega))
  exact AllReadyIn.nil

set_option maxRecDepth 100000 in
set_option maxHeartbeats 1000000 in
theorem tr_0124 (n : Nat) (op a b c imm : Int) (r n0 : Nat) (W0 : World) (Q : Exit → Act → World → Prop) (H0 : Holds W0 n0 43 [.int .i64 op, .int .i64 a, .int .i64 b, .int .i64 c, .int .i64 imm]) (HF : FormsAt W0) (Hfo : ∀ W, FormsAt W → Calls Tryz.prog 85 #[.agg #[.int .i64 op, .int .i64 a, .int .i64 b, .int .i64 c, .int .i64 imm]] W fun e w' => e = .returned (.agg #[.string (wordS r), .int .i64 (mask r)]) ∧ Below W.heap.size W w') (HQ : ∀ V q3 q4, Below W0.heap.size W0 V → W0.heap.size ≤ q3 ∧ Holds V q3 71 (rowCells r) → W0.heap.size ≤ q4 ∧ Holds V q4 65 [.int .i64 op, .int .i64 a, .int .i64 b, .int .i64 c, .int .i64 imm] → q3 ≠ q4 → Q .normal ({ tmps := #[.agg #[.int .i64 op, .int .i64 a, .int .i64 b, .int .i64 c, .int .i64 imm], .pointer (some ⟨n0, 0, none⟩), .string ⟨#[]⟩, .pointer (some ⟨q3, 0, none⟩), .pointer (some ⟨q4, 0, none⟩), undef, undef, .agg #[.int .i64 op, .int .i64 a, .int .i64 b, .int .i64 c, .int .i64 imm], .agg #[.string (wordS r), .int .i64 (mask r)], .agg #[.int .i64 op, .int .i64 a, .int .i64 b, .int .i64 c, .int .i64 imm], .agg #[.int .i64 op, .int .i64 a, .int .i64 b, .int .i64 c, .int .i64 imm], undef, undef, undef, undef, undef, undef, undef, undef, undef, undef, undef, undef, undef, undef, undef, undef, undef], defers := [] }) V) (V : World) (hB : Below W0.heap.size W0 V) (q3 : Nat) (h3 : W0.heap.size ≤ q3 ∧ Holds V q3 71 [.string ⟨#[]⟩, .int .i64 0]) :
    TxtReg n Q 4 #[true, true, true, false, true, false, false, false] ({ tmps := #[.agg #[.int .i64 op, .int .i64 a, .int .i64 b, .int .i64 c, .int .i64 imm], .pointer (some ⟨n0, 0, none⟩), .string ⟨#[]⟩, .pointer (some ⟨q3, 0, none⟩), undef, undef, undef, .agg #[.int .i64 op, .int .i64 a, .int .i64 b, .int .i64 c, .int .i64 imm], .agg #[.string (wordS r), .int .i64 (mask r)], .agg #[.int .i64 op, .int .i64 a, .int .i64 b, .int .i64 c, .int .i64 imm], undef, undef, undef, undef, undef, undef, undef, undef, undef, undef, undef, undef, undef, undef, undef, undef, undef, undef], defers := [] }) V := by
  have hs := hB.size
  have K_ := Lib.hid (And.intro H0 (And.intro HF (And.intro Hfo (And.intro HQ (And.intro hB (And.intro hs (h3)))))))
  clear h3 hs hB HQ Hfo HF H0
  unfold TxtReg
  refine wpAnyIn_ready (rs := [3, 5]) (by kernel_rfl) (by simp) ?_
  refine AllReadyIn.cons rfl (fun K hK => ?_) ?_
  · go_simp
    refine ⟨fun h => (by cases h), ?_⟩
    obtain ⟨H0, HF, Hfo, HQ, hB, hs, h3⟩ := K_.out
    refine (callsIn_wide.2 (numbersOf_any ⟨op, a, b, c, imm⟩ _)).mono ?_
    rintro e V2 ⟨rfl, hb⟩
    refine hK _ _ ?_; clear hK K
    exact tr_01234 n op a b c imm r n0 W0 Q H0 HF Hfo HQ V2 (hB.trans (hb.mono hs)) q3 (⟨h3.1, h3.2.below hb⟩)
  refine AllReadyIn.cons rfl (fun K hK => ?_) ?_
  · go_simp
    refine hK _ _ ?_; clear hK K
    obtain ⟨H0, HF, Hfo, HQ, hB, hs, h3⟩ := K_.out
    exact tr_01245 n op a b c imm r n0 W0 Q H0 HF Hfo HQ _ (hB.alloc hs _) q3 (⟨h3.1, h3.2.alloc _⟩) _ (⟨hs, Holds.new V 65 [.int .i64 0, .int .i64 0, .int .i64 0, .int .i64 0, .int .i64 0]⟩) ((by have := h3.2.lt; omega))
  exact AllReadyIn.nil

set_option maxRecDepth 100000 in
set_option maxHeartbeats 1000000 in
theorem tr_0123 (n : Nat) (op a b c imm : Int) (r n0 : Nat) (W0 : World) (Q : Exit → Act → World → Prop) (H0 : Holds W0 n0 43 [.int .i64 op, .int .i64 a, .int .i64 b, .int .i64 c, .int .i64 imm]) (HF : FormsAt W0) (Hfo : ∀ W, FormsAt W → Calls Tryz.prog 85 #[.agg #[.int .i64 op, .int .i64 a, .int .i64 b, .int .i64 c, .int .i64 imm]] W fun e w' => e = .returned (.agg #[.string (wordS r), .int .i64 (mask r)]) ∧ Below W.heap.size W w') (HQ : ∀ V q3 q4, Below W0.heap.size W0 V → W0.heap.size ≤ q3 ∧ Holds V q3 71 (rowCells r) → W0.heap.size ≤ q4 ∧ Holds V q4 65 [.int .i64 op, .int .i64 a, .int .i64 b, .int .i64 c, .int .i64 imm] → q3 ≠ q4 → Q .normal ({ tmps := #[.agg #[.int .i64 op, .int .i64 a, .int .i64 b, .int .i64 c, .int .i64 imm], .pointer (some ⟨n0, 0, none⟩), .string ⟨#[]⟩, .pointer (some ⟨q3, 0, none⟩), .pointer (some ⟨q4, 0, none⟩), undef, undef, .agg #[.int .i64 op, .int .i64 a, .int .i64 b, .int .i64 c, .int .i64 imm], .agg #[.string (wordS r), .int .i64 (mask r)], .agg #[.int .i64 op, .int .i64 a, .int .i64 b, .int .i64 c, .int .i64 imm], .agg #[.int .i64 op, .int .i64 a, .int .i64 b, .int .i64 c, .int .i64 imm], undef, undef, undef, undef, undef, undef, undef, undef, undef, undef, undef, undef, undef, undef, undef, undef, undef], defers := [] }) V) (V : World) (hB : Below W0.heap.size W0 V) :
    TxtReg n Q 4 #[true, true, true, true, false, false, false, false] ({ tmps := #[.agg #[.int .i64 op, .int .i64 a, .int .i64 b, .int .i64 c, .int .i64 imm], .pointer (some ⟨n0, 0, none⟩), .string ⟨#[]⟩, undef, undef, undef, undef, .agg #[.int .i64 op, .int .i64 a, .int .i64 b, .int .i64 c, .int .i64 imm], .agg #[.string (wordS r), .int .i64 (mask r)], .agg #[.int .i64 op, .int .i64 a, .int .i64 b, .int .i64 c, .int .i64 imm], .agg #[.int .i64 op, .int .i64 a, .int .i64 b, .int .i64 c, .int .i64 imm], undef, undef, undef, undef, undef, undef, undef, undef, undef, undef, undef, undef, undef, undef, undef, undef, undef], defers := [] }) V := by
  have hs := hB.size
  have K_ := Lib.hid (And.intro H0 (And.intro HF (And.intro Hfo (And.intro HQ (And.intro hB (hs))))))
  clear hs hB HQ Hfo HF H0
  unfold TxtReg
  refine wpAnyIn_ready (rs := [4, 5]) (by kernel_rfl) (by simp) ?_
  refine AllReadyIn.cons rfl (fun K hK => ?_) ?_
  · go_simp
    refine hK _ _ ?_; clear hK K
    obtain ⟨H0, HF, Hfo, HQ, hB, hs⟩ := K_.out
    exact tr_01234 n op a b c imm r n0 W0 Q H0 HF Hfo HQ _ (hB.alloc hs _) _ (⟨hs, Holds.new V 71 [.string ⟨#[]⟩, .int .i64 0]⟩)
  refine AllReadyIn.cons rfl (fun K hK => ?_) ?_
  · go_simp
    refine hK _ _ ?_; clear hK K
    obtain ⟨H0, HF, Hfo, HQ, hB, hs⟩ := K_.out
    exact tr_01235 n op a b c imm r n0 W0 Q H0 HF Hfo HQ _ (hB.alloc hs _) _ (⟨hs, Holds.new V 65 [.int .i64 0, .int .i64 0, .int .i64 0, .int .i64 0, .int .i64 0]⟩)
  exact AllReadyIn.nil

set_option maxRecDepth 100000 in
set_option maxHeartbeats 1000000 in
theorem tr_245 (n : Nat) (op a b c imm : Int) (r n0 : Nat) (W0 : World) (Q : Exit → Act → World → Prop) (H0 : Holds W0 n0 43 [.int .i64 op, .int .i64 a, .int .i64 b, .int .i64 c, .int .i64 imm]) (HF : FormsAt W0) (Hfo : ∀ W, FormsAt W → Calls Tryz.prog 85 #[.agg #[.int .i64 op, .int .i64 a, .int .i64 b, .int .i64 c, .int .i64 imm]] W fun e w' => e = .returned (.agg #[.string (wordS r), .int .i64 (mask r)]) ∧ Below W.heap.size W w') (HQ : ∀ V q3 q4, Below W0.heap.size W0 V → W0.heap.size ≤ q3 ∧ Holds V q3 71 (rowCells r) → W0.heap.size ≤ q4 ∧ Holds V q4 65 [.int .i64 op, .int .i64 a, .int .i64 b, .int .i64 c, .int .i64 imm] → q3 ≠ q4 → Q .normal ({ tmps := #[.agg #[.int .i64 op, .int .i64 a, .int .i64 b, .int .i64 c, .int .i64 imm], .pointer (some ⟨n0, 0, none⟩), .string ⟨#[]⟩, .pointer (some ⟨q3, 0, none⟩), .pointer (some ⟨q4, 0, none⟩), undef, undef, .agg #[.int .i64 op, .int .i64 a, .int .i64 b, .int .i64 c, .int .i64 imm], .agg #[.string (wordS r), .int .i64 (mask r)], .agg #[.int .i64 op, .int .i64 a, .int .i64 b, .int .i64 c, .int .i64 imm], .agg #[.int .i64 op, .int .i64 a, .int .i64 b, .int .i64 c, .int .i64 imm], undef, undef, undef, undef, undef, undef, undef, undef, undef, undef, undef, undef, undef, undef, undef, undef, undef], defers := [] }) V) (V : World) (hB : Below W0.heap.size W0 V) (q3 : Nat) (h3 : W0.heap.size ≤ q3 ∧ Holds V q3 71 [.string ⟨#[]⟩, .int .i64 0]) (q4 : Nat) (h4 : W0.heap.size ≤ q4 ∧ Holds V q4 65 [.int .i64 0, .int .i64 0, .int .i64 0, .int .i64 0, .int .i64 0]) (hne : q3 ≠ q4) :
    TxtReg n Q 5 #[false, false, true, false, true, true, false, false] ({ tmps := #[.agg #[.int .i64 op, .int .i64 a, .int .i64 b, .int .i64 c, .int .i64 imm], .pointer (some ⟨n0, 0, none⟩), .string ⟨#[]⟩, .pointer (some ⟨q3, 0, none⟩), .pointer (some ⟨q4, 0, none⟩), undef, undef, undef, undef, .agg #[.int .i64 op, .int .i64 a, .int .i64 b, .int .i64 c, .int .i64 imm], undef, undef, undef, undef, undef, undef, undef, undef, undef, undef, undef, undef, undef, undef, undef, undef, undef, undef], defers := [] }) V := by
  have hs := hB.size
  have K_ := Lib.hid (And.intro H0 (And.intro HF (And.intro Hfo (And.intro HQ (And.intro hB (And.intro hs (And.intro h3 (And.intro h4 (hne)))))))))
  clear hne h4 h3 hs hB HQ Hfo HF H0
  unfold TxtReg
  refine wpAnyIn_ready (rs := [0]) (by kernel_rfl) (by simp) ?_
  refine AllReadyIn.cons rfl (fun K hK => ?_) ?_
  · obtain ⟨H0, HF, Hfo, HQ, hB, hs, h3, h4, hne⟩ := K_.out
    refine step_load_in rfl 43 (.tmp 1) rfl n0 0 rfl [.int .i64 op, .int .i64 a, .int .i64 b, .int .i64 c, .int .i64 imm] _ (H0.below hB).full Tryz.underlying43 rfl (by kernel_rfl) ?_
    refine hK _ _ ?_; clear hK K
    exact tr_0245 n op a b c imm r n0 W0 Q H0 HF Hfo HQ V (hB) q3 (h3) q4 (h4) (hne)
  exact AllReadyIn.nil

set_option maxRecDepth 100000 in
set_option maxHeartbeats 1000000 in
theorem tr_045 (n : Nat) (op a b c imm : Int) (r n0 : Nat) (W0 : World) (Q : Exit → Act → World → Prop) (H0 : Holds W0 n0 43 [.int .i64 op, .int .i64 a, .int .i64 b, .int .i64 c, .int .i64 imm]) (HF : FormsAt W0) (Hfo : ∀ W, FormsAt W → Calls Tryz.prog 85 #[.agg #[.int .i64 op, .int .i64 a, .int .i64 b, .int .i64 c, .int .i64 imm]] W fun e w' => e = .returned (.agg #[.string (wordS r), .int .i64 (mask r)]) ∧ Below W.heap.size W w') (HQ : ∀ V q3 q4, Below W0.heap.size W0 V → W0.heap.size ≤ q3 ∧ Holds V q3 71 (rowCells r) → W0.heap.size ≤ q4 ∧ Holds V q4 65 [.int .i64 op, .int .i64 a, .int .i64 b, .int .i64 c, .int .i64 imm] → q3 ≠ q4 → Q .normal ({ tmps := #[.agg #[.int .i64 op, .int .i64 a, .int .i64 b, .int .i64 c, .int .i64 imm], .pointer (some ⟨n0, 0, none⟩), .string ⟨#[]⟩, .pointer (some ⟨q3, 0, none⟩), .pointer (some ⟨q4, 0, none⟩), undef, undef, .agg #[.int .i64 op, .int .i64 a, .int .i64 b, .int .i64 c, .int .i64 imm], .agg #[.string (wordS r), .int .i64 (mask r)], .agg #[.int .i64 op, .int .i64 a, .int .i64 b, .int .i64 c, .int .i64 imm], .agg #[.int .i64 op, .int .i64 a, .int .i64 b, .int .i64 c, .int .i64 imm], undef, undef, undef, undef, undef, undef, undef, undef, undef, undef, undef, undef, undef, undef, undef, undef, undef], defers := [] }) V) (V : World) (hB : Below W0.heap.size W0 V) (q3 : Nat) (h3 : W0.heap.size ≤ q3 ∧ Holds V q3 71 [.string ⟨#[]⟩, .int .i64 0]) (q4 : Nat) (h4 : W0.heap.size ≤ q4 ∧ Holds V q4 65 [.int .i64 0, .int .i64 0, .int .i64 0, .int .i64 0, .int .i64 0]) (hne : q3 ≠ q4) :
    TxtReg n Q 5 #[true, false, false, false, true, true, false, false] ({ tmps := #[.agg #[.int .i64 op, .int .i64 a, .int .i64 b, .int .i64 c, .int .i64 imm], .pointer (some ⟨n0, 0, none⟩), .string ⟨#[]⟩, .pointer (some ⟨q3, 0, none⟩), .pointer (some ⟨q4, 0, none⟩), undef, undef, .agg #[.int .i64 op, .int .i64 a, .int .i64 b, .int .i64 c, .int .i64 imm], undef, undef, undef, undef, undef, undef, undef, undef, undef, undef, undef, undef, undef, undef, undef, undef, undef, undef, undef, undef], defers := [] }) V := by
  have hs := hB.size
  have K_ := Lib.hid (And.intro H0 (And.intro HF (And.intro Hfo (And.intro HQ (And.intro hB (And.intro hs (And.intro h3 (And.intro h4 (hne)))))))))
  clear hne h4 h3 hs hB HQ Hfo HF H0
  unfold TxtReg
  refine wpAnyIn_ready (rs := [1, 2]) (by kernel_rfl) (by simp) ?_
  refine AllReadyIn.cons rfl (fun K hK => ?_) ?_
  · go_simp
    refine ⟨fun h => (by cases h), ?_⟩
    obtain ⟨H0, HF, Hfo, HQ, hB, hs, h3, h4, hne⟩ := K_.out
    refine (callsIn_wide.2 (Hfo _ (HF.below hB))).mono ?_
    rintro e V2 ⟨rfl, hb⟩
    refine hK _ _ ?_; clear hK K
    exact tr_0145 n op a b c imm r n0 W0 Q H0 HF Hfo HQ V2 (hB.trans (hb.mono hs)) q3 (⟨h3.1, h3.2.below hb⟩) q4 (⟨h4.1, h4.2.below hb⟩) (hne)
  refine AllReadyIn.cons rfl (fun K hK => ?_) ?_
  · obtain ⟨H0, HF, Hfo, HQ, hB, hs, h3, h4, hne⟩ := K_.out
    refine step_load_in rfl 43 (.tmp 1) rfl n0 0 rfl [.int .i64 op, .int .i64 a, .int .i64 b, .int .i64 c, .int .i64 imm] _ (H0.below hB).full Tryz.underlying43 rfl (by kernel_rfl) ?_
    refine hK _ _ ?_; clear hK K
    exact tr_0245 n op a b c imm r n0 W0 Q H0 HF Hfo HQ V (hB) q3 (h3) q4 (h4) (hne)
  exact AllReadyIn.nil

set_option maxRecDepth 100000 in
set_option maxHeartbeats 1000000 in
theorem tr_025 (n : Nat) (op a b c imm : Int) (r n0 : Nat) (W0 : World) (Q : Exit → Act → World → Prop) (H0 : Holds W0 n0 43 [.int .i64 op, .int .i64 a, .int .i64 b, .int .i64 c, .int .i64 imm]) (HF : FormsAt W0) (Hfo : ∀ W, FormsAt W → Calls Tryz.prog 85 #[.agg #[.int .i64 op, .int .i64 a, .int .i64 b, .int .i64 c, .int .i64 imm]] W fun e w' => e = .returned (.agg #[.string (wordS r), .int .i64 (mask r)]) ∧ Below W.heap.size W w') (HQ : ∀ V q3 q4, Below W0.heap.size W0 V → W0.heap.size ≤ q3 ∧ Holds V q3 71 (rowCells r) → W0.heap.size ≤ q4 ∧ Holds V q4 65 [.int .i64 op, .int .i64 a, .int .i64 b, .int .i64 c, .int .i64 imm] → q3 ≠ q4 → Q .normal ({ tmps := #[.agg #[.int .i64 op, .int .i64 a, .int .i64 b, .int .i64 c, .int .i64 imm], .pointer (some ⟨n0, 0, none⟩), .string ⟨#[]⟩, .pointer (some ⟨q3, 0, none⟩), .pointer (some ⟨q4, 0, none⟩), undef, undef, .agg #[.int .i64 op, .int .i64 a, .int .i64 b, .int .i64 c, .int .i64 imm], .agg #[.string (wordS r), .int .i64 (mask r)], .agg #[.int .i64 op, .int .i64 a, .int .i64 b, .int .i64 c, .int .i64 imm], .agg #[.int .i64 op, .int .i64 a, .int .i64 b, .int .i64 c, .int .i64 imm], undef, undef, undef, undef, undef, undef, undef, undef, undef, undef, undef, undef, undef, undef, undef, undef, undef], defers := [] }) V) (V : World) (hB : Below W0.heap.size W0 V) (q4 : Nat) (h4 : W0.heap.size ≤ q4 ∧ Holds V q4 65 [.int .i64 0, .int .i64 0, .int .i64 0, .int .i64 0, .int .i64 0]) :
    TxtReg n Q 5 #[true, false, true, false, false, true, false, false] ({ tmps := #[.agg #[.int .i64 op, .int .i64 a, .int .i64 b, .int .i64 c, .int .i64 imm], .pointer (some ⟨n0, 0, none⟩), .string ⟨#[]⟩, undef, .pointer (some ⟨q4, 0, none⟩), undef, undef, .agg #[.int .i64 op, .int .i64 a, .int .i64 b, .int .i64 c, .int .i64 imm], undef, .agg #[.int .i64 op, .int .i64 a, .int .i64 b, .int .i64 c, .int .i64 imm], undef, undef, undef, undef, undef, undef, undef, undef, undef, undef, undef, undef, undef, undef, undef, undef, undef, undef], defers := [] }) V := by
  have hs := hB.size
  have K_ := Lib.hid (And.intro H0 (And.intro HF (And.intro Hfo (And.intro HQ (And.intro hB (And.intro hs (h4)))))))
  clear h4 hs hB HQ Hfo HF H0
  unfold TxtReg
  refine wpAnyIn_ready (rs := [1, 4]) (by kernel_rfl) (by simp) ?_
  refine AllReadyIn.cons rfl (fun K hK => ?_) ?_
  · go_simp
    refine ⟨fun h => (by cases h), ?_⟩
    obtain ⟨H0, HF, Hfo, HQ, hB, hs, h4⟩ := K_.out
    refine (callsIn_wide.2 (Hfo _ (HF.below hB))).mono ?_
    rintro e V2 ⟨rfl, hb⟩
    refine hK _ _ ?_; clear hK K
    exact tr_0125 n op a b c imm r n0 W0 Q H0 HF Hfo HQ V2 (hB.trans (hb.mono hs)) q4 (⟨h4.1, h4.2.below hb⟩)
  refine AllReadyIn.cons rfl (fun K hK => ?_) ?_
  · go_simp
    refine hK _ _ ?_; clear hK K
    obtain ⟨H0, HF, Hfo, HQ, hB, hs, h4⟩ := K_.out
    exact tr_0245 n op a b c imm r n0 W0 Q H0 HF Hfo HQ _ (hB.alloc hs _) _ (⟨hs, Holds.new V 71 [.string ⟨#[]⟩, .int .i64 0]⟩) q4 (⟨h4.1, h4.2.alloc _⟩) ((by have := h4.2.lt; omega))
  exact AllReadyIn.nil

set_option maxRecDepth 100000 in
set_option maxHeartbeats 1000000 in
theorem tr_015 (n : Nat) (op a b c imm : Int) (r n0 : Nat) (W0 : World) (Q : Exit → Act → World → Prop) (H0 : Holds W0 n0 43 [.int .i64 op, .int .i64 a, .int .i64 b, .int .i64 c, .int .i64 imm]) (HF : FormsAt W0) (Hfo : ∀ W, FormsAt W → Calls Tryz.prog 85 #[.agg #[.int .i64 op, .int .i64 a, .int .i64 b, .int .i64 c, .int .i64 imm]] W fun e w' => e = .returned (.agg #[.string (wordS r), .int .i64 (mask r)]) ∧ Below W.heap.size W w') (HQ : ∀ V q3 q4, Below W0.heap.size W0 V → W0.heap.size ≤ q3 ∧ Holds V q3 71 (rowCells r) → W0.heap.size ≤ q4 ∧ Holds V q4 65 [.int .i64 op, .int .i64 a, .int .i64 b, .int .i64 c, .int .i64 imm] → q3 ≠ q4 → Q .normal ({ tmps := #[.agg #[.int .i64 op, .int .i64 a, .int .i64 b, .int .i64 c, .int .i64 imm], .pointer (some ⟨n0, 0, none⟩), .string ⟨#[]⟩, .pointer (some ⟨q3, 0, none⟩), .pointer (some ⟨q4, 0, none⟩), undef, undef, .agg #[.int .i64 op, .int .i64 a, .int .i64 b, .int .i64 c, .int .i64 imm], .agg #[.string (wordS r), .int .i64 (mask r)], .agg #[.int .i64 op, .int .i64 a, .int .i64 b, .int .i64 c, .int .i64 imm], .agg #[.int .i64 op, .int .i64 a, .int .i64 b, .int .i64 c, .int .i64 imm], undef, undef, undef, undef, undef, undef, undef, undef, undef, undef, undef, undef, undef, undef, undef, undef, undef], defers := [] }) V) (V : World) (hB : Below W0.heap.size W0 V) (q4 : Nat) (h4 : W0.heap.size ≤ q4 ∧ Holds V q4 65 [.int .i64 0, .int .i64 0, .int .i64 0, .int .i64 0, .int .i64 0]) :
    TxtReg n Q 5 #[true, true, false, false, false, true, false, false] ({ tmps := #[.agg #[.int .i64 op, .int .i64 a, .int .i64 b, .int .i64 c, .int .i64 imm], .pointer (some ⟨n0, 0, none⟩), .string ⟨#[]⟩, undef, .pointer (some ⟨q4, 0, none⟩), undef, undef, .agg #[.int .i64 op, .int .i64 a, .int .i64 b, .int .i64 c, .int .i64 imm], .agg #[.string (wordS r), .int .i64 (mask r)], undef, undef, undef, undef, undef, undef, undef, undef, undef, undef, undef, undef, undef, undef, undef, undef, undef, undef, undef], defers := [] }) V := by
  have hs := hB.size
  have K_ := Lib.hid (And.intro H0 (And.intro HF (And.intro Hfo (And.intro HQ (And.intro hB (And.intro hs (h4)))))))
  clear h4 hs hB HQ Hfo HF H0
  unfold TxtReg
  refine wpAnyIn_ready (rs := [2, 4]) (by kernel_rfl) (by simp) ?_
  refine AllReadyIn.cons rfl (fun K hK => ?_) ?_
  · obtain ⟨H0, HF, Hfo, HQ, hB, hs, h4⟩ := K_.out
    refine step_load_in rfl 43 (.tmp 1) rfl n0 0 rfl [.int .i64 op, .int .i64 a, .int .i64 b, .int .i64 c, .int .i64 imm] _ (H0.below hB).full Tryz.underlying43 rfl (by kernel_rfl) ?_
    refine hK _ _ ?_; clear hK K
    exact tr_0125 n op a b c imm r n0 W0 Q H0 HF Hfo HQ V (hB) q4 (h4)
  refine AllReadyIn.cons rfl (fun K hK => ?_) ?_
  · go_simp
    refine hK _ _ ?_; clear hK K
    obtain ⟨H0, HF, Hfo, HQ, hB, hs, h4⟩ := K_.out
    exact tr_0145 n op a b c imm r n0 W0 Q H0 HF Hfo HQ _ (hB.alloc hs _) _ (⟨hs, Holds.new V 71 [.string ⟨#[]⟩, .int .i64 0]⟩) q4 (⟨h4.1, h4.2.alloc _⟩) ((by have := h4.2.lt; omega))
  exact AllReadyIn.nil

set_option maxRecDepth 100000 in
set_option maxHeartbeats 1000000 in
theorem tr_024 (n : Nat) (op a b c imm : Int) (r n0 : Nat) (W0 : World) (Q : Exit → Act → World → Prop) (H0 : Holds W0 n0 43 [.int .i64 op, .int .i64 a, .int .i64 b, .int .i64 c, .int .i64 imm]) (HF : FormsAt W0) (Hfo : ∀ W, FormsAt W → Calls Tryz.prog 85 #[.agg #[.int .i64 op, .int .i64 a, .int .i64 b, .int .i64 c, .int .i64 imm]] W fun e w' => e = .returned (.agg #[.string (wordS r), .int .i64 (mask r)]) ∧ Below W.heap.size W w') (HQ : ∀ V q3 q4, Below W0.heap.size W0 V → W0.heap.size ≤ q3 ∧ Holds V q3 71 (rowCells r) → W0.heap.size ≤ q4 ∧ Holds V q4 65 [.int .i64 op, .int .i64 a, .int .i64 b, .int .i64 c, .int .i64 imm] → q3 ≠ q4 → Q .normal ({ tmps := #[.agg #[.int .i64 op, .int .i64 a, .int .i64 b, .int .i64 c, .int .i64 imm], .pointer (some ⟨n0, 0, none⟩), .string ⟨#[]⟩, .pointer (some ⟨q3, 0, none⟩), .pointer (some ⟨q4, 0, none⟩), undef, undef, .agg #[.int .i64 op, .int .i64 a, .int .i64 b, .int .i64 c, .int .i64 imm], .agg #[.string (wordS r), .int .i64 (mask r)], .agg #[.int .i64 op, .int .i64 a, .int .i64 b, .int .i64 c, .int .i64 imm], .agg #[.int .i64 op, .int .i64 a, .int .i64 b, .int .i64 c, .int .i64 imm], undef, undef, undef, undef, undef, undef, undef, undef, undef, undef, undef, undef, undef, undef, undef, undef, undef], defers := [] }) V) (V : World) (hB : Below W0.heap.size W0 V) (q3 : Nat) (h3 : W0.heap.size ≤ q3 ∧ Holds V q3 71 [.string ⟨#[]⟩, .int .i64 0]) :
    TxtReg n Q 5 #[true, false, true, false, true, false, false, false] ({ tmps := #[.agg #[.int .i64 op, .int .i64 a, .int .i64 b, .int .i64 c, .int .i64 imm], .pointer (some ⟨n0, 0, none⟩), .string ⟨#[]⟩, .pointer (some ⟨q3, 0, none⟩), undef, undef, undef, .agg #[.int .i64 op, .int .i64 a, .int .i64 b, .int .i64 c, .int .i64 imm], undef, .agg #[.int .i64 op, .int .i64 a, .int .i64 b, .int .i64 c, .int .i64 imm], undef, undef, undef, undef, undef, undef, undef, undef, undef, undef, undef, undef, undef, undef, undef, undef, undef, undef], defers := [] }) V := by
  have hs := hB.size
  have K_ := Lib.hid (And.intro H0 (And.intro HF (And.intro Hfo (And.intro HQ (And.intro hB (And.intro hs (h3)))))))
  clear h3 hs hB HQ Hfo HF H0
  unfold TxtReg
  refine wpAnyIn_ready (rs := [1, 5]) (by kernel_rfl) (by simp) ?_
  refine AllReadyIn.cons rfl (fun K hK => ?_) ?_
  · go_simp
    refine ⟨fun h => (by cases h), ?_⟩
    obtain ⟨H0, HF, Hfo, HQ, hB, hs, h3⟩ := K_.out
    refine (callsIn_wide.2 (Hfo _ (HF.below hB))).mono ?_
    rintro e V2 ⟨rfl, hb⟩
    refine hK _ _ ?_; clear hK K
    exact tr_0124 n op a b c imm r n0 W0 Q H0 HF Hfo HQ V2 (hB.trans (hb.mono hs)) q3 (⟨h3.1, h3.2.below hb⟩)
  refine AllReadyIn.cons rfl (fun K hK => ?_) ?_
  · go_simp
    refine hK _ _ ?_; clear hK K
    obtain ⟨H0, HF, Hfo, HQ, hB, hs, h3⟩ := K_.out
    exact tr_0245 n op a b c imm r n0 W0 Q H0 HF Hfo HQ _ (hB.alloc hs _) q3 (⟨h3.1, h3.2.alloc _⟩) _ (⟨hs, Holds.new V 65 [.int .i64 0, .int .i64 0, .int .i64 0, .int .i64 0, .int .i64 0]⟩) ((by have := h3.2.lt; omega))
  exact AllReadyIn.nil

set_option maxRecDepth 100000 in
set_option maxHeartbeats 1000000 in
theorem tr_014 (n : Nat) (op a b c imm : Int) (r n0 : Nat) (W0 : World) (Q : Exit → Act → World → Prop) (H0 : Holds W0 n0 43 [.int .i64 op, .int .i64 a, .int .i64 b, .int .i64 c, .int .i64 imm]) (HF : FormsAt W0) (Hfo : ∀ W, FormsAt W → Calls Tryz.prog 85 #[.agg #[.int .i64 op, .int .i64 a, .int .i64 b, .int .i64 c, .int .i64 imm]] W fun e w' => e = .returned (.agg #[.string (wordS r), .int .i64 (mask r)]) ∧ Below W.heap.size W w') (HQ : ∀ V q3 q4, Below W0.heap.size W0 V → W0.heap.size ≤ q3 ∧ Holds V q3 71 (rowCells r) → W0.heap.size ≤ q4 ∧ Holds V q4 65 [.int .i64 op, .int .i64 a, .int .i64 b, .int .i64 c, .int .i64 imm] → q3 ≠ q4 → Q .normal ({ tmps := #[.agg #[.int .i64 op, .int .i64 a, .int .i64 b, .int .i64 c, .int .i64 imm], .pointer (some ⟨n0, 0, none⟩), .string ⟨#[]⟩, .pointer (some ⟨q3, 0, none⟩), .pointer (some ⟨q4, 0, none⟩), undef, undef, .agg #[.int .i64 op, .int .i64 a, .int .i64 b, .int .i64 c, .int .i64 imm], .agg #[.string (wordS r), .int .i64 (mask r)], .agg #[.int .i64 op, .int .i64 a, .int .i64 b, .int .i64 c, .int .i64 imm], .agg #[.int .i64 op, .int .i64 a, .int .i64 b, .int .i64 c, .int .i64 imm], undef, undef, undef, undef, undef, undef, undef, undef, undef, undef, undef, undef, undef, undef, undef, undef, undef], defers := [] }) V) (V : World) (hB : Below W0.heap.size W0 V) (q3 : Nat) (h3 : W0.heap.size ≤ q3 ∧ Holds V q3 71 [.string ⟨#[]⟩, .int .i64 0]) :
    TxtReg n Q 5 #[true, true, false, false, true, false, false, false] ({ tmps := #[.agg #[.int .i64 op, .int .i64 a, .int .i64 b, .int .i64 c, .int .i64 imm], .pointer (some ⟨n0, 0, none⟩), .string ⟨#[]⟩, .pointer (some ⟨q3, 0, none⟩), undef, undef, undef, .agg #[.int .i64 op, .int .i64 a, .int .i64 b, .int .i64 c, .int .i64 imm], .agg #[.string (wordS r), .int .i64 (mask r)], undef, undef, undef, undef, undef, undef, undef, undef, undef, undef, undef, undef, undef, undef, undef, undef, undef, undef, undef], defers := [] }) V := by
  have hs := hB.size
  have K_ := Lib.hid (And.intro H0 (And.intro HF (And.intro Hfo (And.intro HQ (And.intro hB (And.intro hs (h3)))))))
  clear h3 hs hB HQ Hfo HF H0
  unfold TxtReg
  refine wpAnyIn_ready (rs := [2, 5]) (by kernel_rfl) (by simp) ?_
  refine AllReadyIn.cons rfl (fun K hK => ?_) ?_
  · obtain ⟨H0, HF, Hfo, HQ, hB, hs, h3⟩ := K_.out
    refine step_load_in rfl 43 (.tmp 1) rfl n0 0 rfl [.int .i64 op, .int .i64 a, .int .i64 b, .int .i64 c, .int .i64 imm] _ (H0.below hB).full Tryz.underlying43 rfl (by kernel_rfl) ?_
    refine hK _ _ ?_; clear hK K
    exact tr_0124 n op a b c imm r n0 W0 Q H0 HF Hfo HQ V (hB) q3 (h3)
  refine AllReadyIn.cons rfl (fun K hK => ?_) ?_
  · go_simp
    refine hK _ _ ?_; clear hK K
    obtain ⟨H0, HF, Hfo, HQ, hB, hs, h3⟩ := K_.out
    exact tr_0145 n op a b c imm r n0 W0 Q H0 HF Hfo HQ _ (hB.alloc hs _) q3 (⟨h3.1, h3.2.alloc _⟩) _ (⟨hs, Holds.new V 65 [.int .i64 0, .int .i64 0, .int .i64 0, .int .i64 0, .int .i64 0]⟩) ((by have := h3.2.lt; omega))
  exact AllReadyIn.nil

set_option maxRecDepth 100000 in
set_option maxHeartbeats 1000000 in
theorem tr_012 (n : Nat) (op a b c imm : Int) (r n0 : Nat) (W0 : World) (Q : Exit → Act → World → Prop) (H0 : Holds W0 n0 43 [.int .i64 op, .int .i64 a, .int .i64 b, .int .i64 c, .int .i64 imm]) (HF : FormsAt W0) (Hfo : ∀ W, FormsAt W → Calls Tryz.prog 85 #[.agg #[.int .i64 op, .int .i64 a, .int .i64 b, .int .i64 c, .int .i64 imm]] W fun e w' => e = .returned (.agg #[.string (wordS r), .int .i64 (mask r)]) ∧ Below W.heap.size W w') (HQ : ∀ V q3 q4, Below W0.heap.size W0 V → W0.heap.size ≤ q3 ∧ Holds V q3 71 (rowCells r) → W0.heap.size ≤ q4 ∧ Holds V q4 65 [.int .i64 op, .int .i64 a, .int .i64 b, .int .i64 c, .int .i64 imm] → q3 ≠ q4 → Q .normal ({ tmps := #[.agg #[.int .i64 op, .int .i64 a, .int .i64 b, .int .i64 c, .int .i64 imm], .pointer (some ⟨n0, 0, none⟩), .string ⟨#[]⟩, .pointer (some ⟨q3, 0, none⟩), .pointer (some ⟨q4, 0, none⟩), undef, undef, .agg #[.int .i64 op, .int .i64 a, .int .i64 b, .int .i64 c, .int .i64 imm], .agg #[.string (wordS r), .int .i64 (mask r)], .agg #[.int .i64 op, .int .i64 a, .int .i64 b, .int .i64 c, .int .i64 imm], .agg #[.int .i64 op, .int .i64 a, .int .i64 b, .int .i64 c, .int .i64 imm], undef, undef, undef, undef, undef, undef, undef, undef, undef, undef, undef, undef, undef, undef, undef, undef, undef], defers := [] }) V) (V : World) (hB : Below W0.heap.size W0 V) :
    TxtReg n Q 5 #[true, true, true, false, false, false, false, false] ({ tmps := #[.agg #[.int .i64 op, .int .i64 a, .int .i64 b, .int .i64 c, .int .i64 imm], .pointer (some ⟨n0, 0, none⟩), .string ⟨#[]⟩, undef, undef, undef, undef, .agg #[.int .i64 op, .int .i64 a, .int .i64 b, .int .i64 c, .int .i64 imm], .agg #[.string (wordS r), .int .i64 (mask r)], .agg #[.int .i64 op, .int .i64 a, .int .i64 b, .int .i64 c, .int .i64 imm], undef, undef, undef, undef, undef, undef, undef, undef, undef, undef, undef, undef, undef, undef, undef, undef, undef, undef], defers := [] }) V := by
  have hs := hB.size
  have K_ := Lib.hid (And.intro H0 (And.intro HF (And.intro Hfo (And.intro HQ (And.intro hB (hs))))))
  clear hs hB HQ Hfo HF H0
  unfold TxtReg
  refine wpAnyIn_ready (rs := [3, 4, 5]) (by kernel_rfl) (by simp) ?_
  refine AllReadyIn.cons rfl (fun K hK => ?_) ?_
  · go_simp
    refine ⟨fun h => (by cases h), ?_⟩
    obtain ⟨H0, HF, Hfo, HQ, hB, hs⟩ := K_.out
    refine (callsIn_wide.2 (numbersOf_any ⟨op, a, b, c, imm⟩ _)).mono ?_
    rintro e V2 ⟨rfl, hb⟩
    refine hK _ _ ?_; clear hK K
    exact tr_0123 n op a b c imm r n0 W0 Q H0 HF Hfo HQ V2 (hB.trans (hb.mono hs))
  refine AllReadyIn.cons rfl (fun K hK => ?_) ?_
  · go_simp
    refine hK _ _ ?_; clear hK K
    obtain ⟨H0, HF, Hfo, HQ, hB, hs⟩ := K_.out
    exact tr_0124 n op a b c imm r n0 W0 Q H0 HF Hfo HQ _ (hB.alloc hs _) _ (⟨hs, Holds.new V 71 [.string ⟨#[]⟩, .int .i64 0]⟩)
  refine AllReadyIn.cons rfl (fun K hK => ?_) ?_
  · go_simp
    refine hK _ _ ?_; clear hK K
    obtain ⟨H0, HF, Hfo, HQ, hB, hs⟩ := K_.out
    exact tr_0125 n op a b c imm r n0 W0 Q H0 HF Hfo HQ _ (hB.alloc hs _) _ (⟨hs, Holds.new V 65 [.int .i64 0, .int .i64 0, .int .i64 0, .int .i64 0, .int .i64 0]⟩)
  exact AllReadyIn.nil

set_option maxRecDepth 100000 in
set_option maxHeartbeats 1000000 in
theorem tr_45 (n : Nat) (op a b c imm : Int) (r n0 : Nat) (W0 : World) (Q : Exit → Act → World → Prop) (H0 : Holds W0 n0 43 [.int .i64 op, .int .i64 a, .int .i64 b, .int .i64 c, .int .i64 imm]) (HF : FormsAt W0) (Hfo : ∀ W, FormsAt W → Calls Tryz.prog 85 #[.agg #[.int .i64 op, .int .i64 a, .int .i64 b, .int .i64 c, .int .i64 imm]] W fun e w' => e = .returned (.agg #[.string (wordS r), .int .i64 (mask r)]) ∧ Below W.heap.size W w') (HQ : ∀ V q3 q4, Below W0.heap.size W0 V → W0.heap.size ≤ q3 ∧ Holds V q3 71 (rowCells r) → W0.heap.size ≤ q4 ∧ Holds V q4 65 [.int .i64 op, .int .i64 a, .int .i64 b, .int .i64 c, .int .i64 imm] → q3 ≠ q4 → Q .normal ({ tmps := #[.agg #[.int .i64 op, .int .i64 a, .int .i64 b, .int .i64 c, .int .i64 imm], .pointer (some ⟨n0, 0, none⟩), .string ⟨#[]⟩, .pointer (some ⟨q3, 0, none⟩), .pointer (some ⟨q4, 0, none⟩), undef, undef, .agg #[.int .i64 op, .int .i64 a, .int .i64 b, .int .i64 c, .int .i64 imm], .agg #[.string (wordS r), .int .i64 (mask r)], .agg #[.int .i64 op, .int .i64 a, .int .i64 b, .int .i64 c, .int .i64 imm], .agg #[.int .i64 op, .int .i64 a, .int .i64 b, .int .i64 c, .int .i64 imm], undef, undef, undef, undef, undef, undef, undef, undef, undef, undef, undef, undef, undef, undef, undef, undef, undef], defers := [] }) V) (V : World) (hB : Below W0.heap.size W0 V) (q3 : Nat) (h3 : W0.heap.size ≤ q3 ∧ Holds V q3 71 [.string ⟨#[]⟩, .int .i64 0]) (q4 : Nat) (h4 : W0.heap.size ≤ q4 ∧ Holds V q4 65 [.int .i64 0, .int .i64 0, .int .i64 0, .int .i64 0, .int .i64 0]) (hne : q3 ≠ q4) :
    TxtReg n Q 6 #[false, false, false, false, true, true, false, false] ({ tmps := #[.agg #[.int .i64 op, .int .i64 a, .int .i64 b, .int .i64 c, .int .i64 imm], .pointer (some ⟨n0, 0, none⟩), .string ⟨#[]⟩, .pointer (some ⟨q3, 0, none⟩), .pointer (some ⟨q4, 0, none⟩), undef, undef, undef, undef, undef, undef, undef, undef, undef, undef, undef, undef, undef, undef, undef, undef, undef, undef, undef, undef, undef, undef, undef], defers := [] }) V := by
  have hs := hB.size
  have K_ := Lib.hid (And.intro H0 (And.intro HF (And.intro Hfo (And.intro HQ (And.intro hB (And.intro hs (And.intro h3 (And.intro h4 (hne)))))))))
  clear hne h4 h3 hs hB HQ Hfo HF H0
  unfold TxtReg
  refine wpAnyIn_ready (rs := [0, 2]) (by kernel_rfl) (by simp) ?_
  refine AllReadyIn.cons rfl (fun K hK => ?_) ?_
  · obtain ⟨H0, HF, Hfo, HQ, hB, hs, h3, h4, hne⟩ := K_.out
    refine step_load_in rfl 43 (.tmp 1) rfl n0 0 rfl [.int .i64 op, .int .i64 a, .int .i64 b, .int .i64 c, .int .i64 imm] _ (H0.below hB).full Tryz.underlying43 rfl (by kernel_rfl) ?_
    refine hK _ _ ?_; clear hK K
    exact tr_045 n op a b c imm r n0 W0 Q H0 HF Hfo HQ V (hB) q3 (h3) q4 (h4) (hne)
  refine AllReadyIn.cons rfl (fun K hK => ?_) ?_
  · obtain ⟨H0, HF, Hfo, HQ, hB, hs, h3, h4, hne⟩ := K_.out
    refine step_load_in rfl 43 (.tmp 1) rfl n0 0 rfl [.int .i64 op, .int .i64 a, .int .i64 b, .int .i64 c, .int .i64 imm] _ (H0.below hB).full Tryz.underlying43 rfl (by kernel_rfl) ?_
    refine hK _ _ ?_; clear hK K
    exact tr_245 n op a b c imm r n0 W0 Q H0 HF Hfo HQ V (hB) q3 (h3) q4 (h4) (hne)
  exact AllReadyIn.nil

set_option maxRecDepth 100000 in
set_option maxHeartbeats 1000000 in
theorem tr_25 (n : Nat) (op a b c imm : Int) (r n0 : Nat) (W0 : World) (Q : Exit → Act → World → Prop) (H0 : Holds W0 n0 43 [.int .i64 op, .int .i64 a, .int .i64 b, .int .i64 c, .int .i64 imm]) (HF : FormsAt W0) (Hfo : ∀ W, FormsAt W → Calls Tryz.prog 85 #[.agg #[.int .i64 op, .int .i64 a, .int .i64 b, .int .i64 c, .int .i64 imm]] W fun e w' => e = .returned (.agg #[.string (wordS r), .int .i64 (mask r)]) ∧ Below W.heap.size W w') (HQ : ∀ V q3 q4, Below W0.heap.size W0 V → W0.heap.size ≤ q3 ∧ Holds V q3 71 (rowCells r) → W0.heap.size ≤ q4 ∧ Holds V q4 65 [.int .i64 op, .int .i64 a, .int .i64 b, .int .i64 c, .int .i64 imm] → q3 ≠ q4 → Q .normal ({ tmps := #[.agg #[.int .i64 op, .int .i64 a, .int .i64 b, .int .i64 c, .int .i64 imm], .pointer (some ⟨n0, 0, none⟩), .string ⟨#[]⟩, .pointer (some ⟨q3, 0, none⟩), .pointer (some ⟨q4, 0, none⟩), undef, undef, .agg #[.int .i64 op, .int .i64 a, .int .i64 b, .int .i64 c, .int .i64 imm], .agg #[.string (wordS r), .int .i64 (mask r)], .agg #[.int .i64 op, .int .i64 a, .int .i64 b, .int .i64 c, .int .i64 imm], .agg #[.int .i64 op, .int .i64 a, .int .i64 b, .int .i64 c, .int .i64 imm], undef, undef, undef, undef, undef, undef, undef, undef, undef, undef, undef, undef, undef, undef, undef, undef, undef], defers := [] }) V) (V : World) (hB : Below W0.heap.size W0 V) (q4 : Nat) (h4 : W0.heap.size ≤ q4 ∧ Holds V q4 65 [.int .i64 0, .int .i64 0, .int .i64 0, .int .i64 0, .int .i64 0]) :
    TxtReg n Q 6 #[false, false, true, false, false, true, false, false] ({ tmps := #[.agg #[.int .i64 op, .int .i64 a, .int .i64 b, .int .i64 c, .int .i64 imm], .pointer (some ⟨n0, 0, none⟩), .string ⟨#[]⟩, undef, .pointer (some ⟨q4, 0, none⟩), undef, undef, undef, undef, .agg #[.int .i64 op, .int .i64 a, .int .i64 b, .int .i64 c, .int .i64 imm], undef, undef, undef, undef, undef, undef, undef, undef, undef, undef, undef, undef, undef, undef, undef, undef, undef, undef], defers := [] }) V := by
  have hs := hB.size
  have K_ := Lib.hid (And.intro H0 (And.intro HF (And.intro Hfo (And.intro HQ (And.intro hB (And.intro hs (h4)))))))
  clear h4 hs hB HQ Hfo HF H0
  unfold TxtReg
  refine wpAnyIn_ready (rs := [0, 4]) (by kernel_rfl) (by simp) ?_
  refine AllReadyIn.cons rfl (fun K hK => ?_) ?_
  · obtain ⟨H0, HF, Hfo, HQ, hB, hs, h4⟩ := K_.out
    refine step_load_in rfl 43 (.tmp 1) rfl n0 0 rfl [.int .i64 op, .int .i64 a, .int .i64 b, .int .i64 c, .int .i64 imm] _ (H0.below hB).full Tryz.underlying43 rfl (by kernel_rfl) ?_
    refine hK _ _ ?_; clear hK K
    exact tr_025 n op a b c imm r n0 W0 Q H0 HF Hfo HQ V (hB) q4 (h4)
  refine AllReadyIn.cons rfl (fun K hK => ?_) ?_
  · go_simp
    refine hK _ _ ?_; clear hK K
    obtain ⟨H0, HF, Hfo, HQ, hB, hs, h4⟩ := K_.out
    exact tr_245 n op a b c imm r n0 W0 Q H0 HF Hfo HQ _ (hB.alloc hs _) _ (⟨hs, Holds.new V 71 [.string ⟨#[]⟩, .int .i64 0]⟩) q4 (⟨h4.1, h4.2.alloc _⟩) ((by have := h4.2.lt; omega))
  exact AllReadyIn.nil

set_option maxRecDepth 100000 in
set_option maxHeartbeats 1000000 in
theorem tr_05 (n : Nat) (op a b c imm : Int) (r n0 : Nat) (W0 : World) (Q : Exit → Act → World → Prop) (H0 : Holds W0 n0 43 [.int .i64 op, .int .i64 a, .int .i64 b, .int .i64 c, .int .i64 imm]) (HF : FormsAt W0) (Hfo : ∀ W, FormsAt W → Calls Tryz.prog 85 #[.agg #[.int .i64 op, .int .i64 a, .int .i64 b, .int .i64 c, .int .i64 imm]] W fun e w' => e = .returned (.agg #[.string (wordS r), .int .i64 (mask r)]) ∧ Below W.heap.size W w') (HQ : ∀ V q3 q4, Below W0.heap.size W0 V → W0.heap.size ≤ q3 ∧ Holds V q3 71 (rowCells r) → W0.heap.size ≤ q4 ∧ Holds V q4 65 [.int .i64 op, .int .i64 a, .int .i64 b, .int .i64 c, .int .i64 imm] → q3 ≠ q4 → Q .normal ({ tmps := #[.agg #[.int .i64 op, .int .i64 a, .int .i64 b, .int .i64 c, .int .i64 imm], .pointer (some ⟨n0, 0, none⟩), .string ⟨#[]⟩, .pointer (some ⟨q3, 0, none⟩), .pointer (some ⟨q4, 0, none⟩), undef, undef, .agg #[.int .i64 op, .int .i64 a, .int .i64 b, .int .i64 c, .int .i64 imm], .agg #[.string (wordS r), .int .i64 (mask r)], .agg #[.int .i64 op, .int .i64 a, .int .i64 b, .int .i64 c, .int .i64 imm], .agg #[.int .i64 op, .int .i64 a, .int .i64 b, .int .i64 c, .int .i64 imm], undef, undef, undef, undef, undef, undef, undef, undef, undef, undef, undef, undef, undef, undef, undef, undef, undef], defers := [] }) V) (V : World) (hB : Below W0.heap.size W0 V) (q4 : Nat) (h4 : W0.heap.size ≤ q4 ∧ Holds V q4 65 [.int .i64 0, .int .i64 0, .int .i64 0, .int .i64 0, .int .i64 0]) :
    TxtReg n Q 6 #[true, false, false, false, false, true, false, false] ({ tmps := #[.agg #[.int .i64 op, .int .i64 a, .int .i64 b, .int .i64 c, .int .i64 imm], .pointer (some ⟨n0, 0, none⟩), .string ⟨#[]⟩, undef, .pointer (some ⟨q4, 0, none⟩), undef, undef, .agg #[.int .i64 op, .int .i64 a, .int .i64 b, .int .i64 c, .int .i64 imm], undef, undef, undef, undef, undef, undef, undef, undef, undef, undef, undef, undef, undef, undef, undef, undef, undef, undef, undef, undef], defers := [] }) V := by
  have hs := hB.size
  have K_ := Lib.hid (And.intro H0 (And.intro HF (And.intro Hfo (And.intro HQ (And.intro hB (And.intro hs (h4)))))))
  clear h4 hs hB HQ Hfo HF H0
  unfold TxtReg
  refine wpAnyIn_ready (rs := [1, 2, 4]) (by kernel_rfl) (by simp) ?_
  refine AllReadyIn.cons rfl (fun K hK => ?_) ?_
  · go_simp
    refine ⟨fun h => (by cases h), ?_⟩
    obtain ⟨H0, HF, Hfo, HQ, hB, hs, h4⟩ := K_.out
    refine (callsIn_wide.2 (Hfo _ (HF.below hB))).mono ?_
    rintro e V2 ⟨rfl, hb⟩
    refine hK _ _ ?_; clear hK K
    exact tr_015 n op a b c imm r n0 W0 Q H0 HF Hfo HQ V2 (hB.trans (hb.mono hs)) q4 (⟨h4.1, h4.2.below hb⟩)
  refine AllReadyIn.cons rfl (fun K hK => ?_) ?_
  · obtain ⟨H0, HF, Hfo, HQ, hB, hs, h4⟩ := K_.out
    refine step_load_in rfl 43 (.tmp 1) rfl n0 0 rfl [.int .i64 op, .int .i64 a, .int .i64 b, .int .i64 c, .int .i64 imm] _ (H0.below hB).full Tryz.underlying43 rfl (by kernel_rfl) ?_
    refine hK _ _ ?_; clear hK K
    exact tr_025 n op a b c imm r n0 W0 Q H0 HF Hfo HQ V (hB) q4 (h4)
  refine AllReadyIn.cons rfl (fun K hK => ?_) ?_
  · go_simp
    refine hK _ _ ?_; clear hK K
    obtain ⟨H0, HF, Hfo, HQ, hB, hs, h4⟩ := K_.out
    exact tr_045 n op a b c imm r n0 W0 Q H0 HF Hfo HQ _ (hB.alloc hs _) _ (⟨hs, Holds.new V 71 [.string ⟨#[]⟩, .int .i64 0]⟩) q4 (⟨h4.1, h4.2.alloc _⟩) ((by have := h4.2.lt; omega))
  exact AllReadyIn.nil

set_option maxRecDepth 100000 in
set_option maxHeartbeats 1000000 in
theorem tr_24 (n : Nat) (op a b c imm : Int) (r n0 : Nat) (W0 : World) (Q : Exit → Act → World → Prop) (H0 : Holds W0 n0 43 [.int .i64 op, .int .i64 a, .int .i64 b, .int .i64 c, .int .i64 imm]) (HF : FormsAt W0) (Hfo : ∀ W, FormsAt W → Calls Tryz.prog 85 #[.agg #[.int .i64 op, .int .i64 a, .int .i64 b, .int .i64 c, .int .i64 imm]] W fun e w' => e = .returned (.agg #[.string (wordS r), .int .i64 (mask r)]) ∧ Below W.heap.size W w') (HQ : ∀ V q3 q4, Below W0.heap.size W0 V → W0.heap.size ≤ q3 ∧ Holds V q3 71 (rowCells r) → W0.heap.size ≤ q4 ∧ Holds V q4 65 [.int .i64 op, .int .i64 a, .int .i64 b, .int .i64 c, .int .i64 imm] → q3 ≠ q4 → Q .normal ({ tmps := #[.agg #[.int .i64 op, .int .i64 a, .int .i64 b, .int .i64 c, .int .i64 imm], .pointer (some ⟨n0, 0, none⟩), .string ⟨#[]⟩, .pointer (some ⟨q3, 0, none⟩), .pointer (some ⟨q4, 0, none⟩), undef, undef, .agg #[.int .i64 op, .int .i64 a, .int .i64 b, .int .i64 c, .int .i64 imm], .agg #[.string (wordS r), .int .i64 (mask r)], .agg #[.int .i64 op, .int .i64 a, .int .i64 b, .int .i64 c, .int .i64 imm], .agg #[.int .i64 op, .int .i64 a, .int .i64 b, .int .i64 c, .int .i64 imm], undef, undef, undef, undef, undef, undef, undef, undef, undef, undef, undef, undef, undef, undef, undef, undef, undef], defers := [] }) V) (V : World) (hB : Below W0.heap.size W0 V) (q3 : Nat) (h3 : W0.heap.size ≤ q3 ∧ Holds V q3 71 [.string ⟨#[]⟩, .int .i64 0]) :
    TxtReg n Q 6 #[false, false, true, false, true, false, false, false] ({ tmps := #[.agg #[.int .i64 op, .int .i64 a, .int .i64 b, .int .i64 c, .int .i64 imm], .pointer (some ⟨n0, 0, none⟩), .string ⟨#[]⟩, .pointer (some ⟨q3, 0, none⟩), undef, undef, undef, undef, undef, .agg #[.int .i64 op, .int .i64 a, .int .i64 b, .int .i64 c, .int .i64 imm], undef, undef, undef, undef, undef, undef, undef, undef, undef, undef, undef, undef, undef, undef, undef, undef, undef, undef], defers := [] }) V := by
  have hs := hB.size
  have K_ := Lib.hid (And.intro H0 (And.intro HF (And.intro Hfo (And.intro HQ (And.intro hB (And.intro hs (h3)))))))
  clear h3 hs hB HQ Hfo HF H0
  unfold TxtReg
  refine wpAnyIn_ready (rs := [0, 5]) (by kernel_rfl) (by simp) ?_
  refine AllReadyIn.cons rfl (fun K hK => ?_) ?_
  · obtain ⟨H0, HF, Hfo, HQ, hB, hs, h3⟩ := K_.out
    refine step_load_in rfl 43 (.tmp 1) rfl n0 0 rfl [.int .i64 op, .int .i64 a, .int .i64 b, .int .i64 c, .int .i64 imm] _ (H0.below hB).full Tryz.underlying43 rfl (by kernel_rfl) ?_
    refine hK _ _ ?_; clear hK K
    exact tr_024 n op a b c imm r n0 W0 Q H0 HF Hfo HQ V (hB) q3 (h3)
  refine AllReadyIn.cons rfl (fun K hK => ?_) ?_
  · go_simp
    refine hK _ _ ?_; clear hK K
    obtain ⟨H0, HF, Hfo, HQ, hB, hs, h3⟩ := K_.out
    exact tr_245 n op a b c imm r n0 W0 Q H0 HF Hfo HQ _ (hB.alloc hs _) q3 (⟨h3.1, h3.2.alloc _⟩) _ (⟨hs, Holds.new V 65 [.int .i64 0, .int .i64 0, .int .i64 0, .int .i64 0, .int .i64 0]⟩) ((by have := h3.2.lt; omega))
  exact AllReadyIn.nil

set_option maxRecDepth 100000 in
set_option maxHeartbeats 1000000 in
theorem tr_04 (n : Nat) (op a b c imm : Int) (r n0 : Nat) (W0 : World) (Q : Exit → Act → World → Prop) (H0 : Holds W0 n0 43 [.int .i64 op, .int .i64 a, .int .i64 b, .int .i64 c, .int .i64 imm]) (HF : FormsAt W0) (Hfo : ∀ W, FormsAt W → Calls Tryz.prog 85 #[.agg #[.int .i64 op, .int .i64 a, .int .i64 b, .int .i64 c, .int .i64 imm]] W fun e w' => e = .returned (.agg #[.string (wordS r), .int .i64 (mask r)]) ∧ Below W.heap.size W w') (HQ : ∀ V q3 q4, Below W0.heap.size W0 V → W0.heap.size ≤ q3 ∧ Holds V q3 71 (rowCells r) → W0.heap.size ≤ q4 ∧ Holds V q4 65 [.int .i64 op, .int .i64 a, .int .i64 b, .int .i64 c, .int .i64 imm] → q3 ≠ q4 → Q .normal ({ tmps := #[.agg #[.int .i64 op, .int .i64 a, .int .i64 b, .int .i64 c, .int .i64 imm], .pointer (some ⟨n0, 0, none⟩), .string ⟨#[]⟩, .pointer (some ⟨q3, 0, none⟩), .pointer (some ⟨q4, 0, none⟩), undef, undef, .agg #[.int .i64 op, .int .i64 a, .int .i64 b, .int .i64 c, .int .i64 imm], .agg #[.string (wordS r), .int .i64 (mask r)], .agg #[.int .i64 op, .int .i64 a, .int .i64 b, .int .i64 c, .int .i64 imm], .agg #[.int .i64 op, .int .i64 a, .int .i64 b, .int .i64 c, .int .i64 imm], undef, undef, undef, undef, undef, undef, undef, undef, undef, undef, undef, undef, undef, undef, undef, undef, undef], defers := [] }) V) (V : World) (hB : Below W0.heap.size W0 V) (q3 : Nat) (h3 : W0.heap.size ≤ q3 ∧ Holds V q3 71 [.string ⟨#[]⟩, .int .i64 0]) :
    TxtReg n Q 6 #[true, false, false, false, true, false, false, false] ({ tmps := #[.agg #[.int .i64 op, .int .i64 a, .int .i64 b, .int .i64 c, .int .i64 imm], .pointer (some ⟨n0, 0, none⟩), .string ⟨#[]⟩, .pointer (some ⟨q3, 0, none⟩), undef, undef, undef, .agg #[.int .i64 op, .int .i64 a, .int .i64 b, .int .i64 c, .int .i64 imm], undef, undef, undef, undef, undef, undef, undef, undef, undef, undef, undef, undef, undef, undef, undef, undef, undef, undef, undef, undef], defers := [] }) V := by
  have hs := hB.size
  have K_ := Lib.hid (And.intro H0 (And.intro HF (And.intro Hfo (And.intro HQ (And.intro hB (And.intro hs (h3)))))))
  clear h3 hs hB HQ Hfo HF H0
  unfold TxtReg
  refine wpAnyIn_ready (rs := [1, 2, 5]) (by kernel_rfl) (by simp) ?_
  refine AllReadyIn.cons rfl (fun K hK => ?_) ?_
  · go_simp
    refine ⟨fun h => (by cases h), ?_⟩
    obtain ⟨H0, HF, Hfo, HQ, hB, hs, h3⟩ := K_.out
    refine (callsIn_wide.2 (Hfo _ (HF.below hB))).mono ?_
    rintro e V2 ⟨rfl, hb⟩
    refine hK _ _ ?_; clear hK K
    exact tr_014 n op a b c imm r n0 W0 Q H0 HF Hfo HQ V2 (hB.trans (hb.mono hs)) q3 (⟨h3.1, h3.2.below hb⟩)
  refine AllReadyIn.cons rfl (fun K hK => ?_) ?_
  · obtain ⟨H0, HF, Hfo, HQ, hB, hs, h3⟩ := K_.out
    refine step_load_in rfl 43 (.tmp 1) rfl n0 0 rfl [.int .i64 op, .int .i64 a, .int .i64 b, .int .i64 c, .int .i64 imm] _ (H0.below hB).full Tryz.underlying43 rfl (by kernel_rfl) ?_
    refine hK _ _ ?_; clear hK K
    exact tr_024 n op a b c imm r n0 W0 Q H0 HF Hfo HQ V (hB) q3 (h3)
  refine AllReadyIn.cons rfl (fun K hK => ?_) ?_
  · go_simp
    refine hK _ _ ?_; clear hK K
    obtain ⟨H0, HF, Hfo, HQ, hB, hs, h3⟩ := K_.out
    exact tr_045 n op a b c imm r n0 W0 Q H0 HF Hfo HQ _ (hB.alloc hs _) q3 (⟨h3.1, h3.2.alloc _⟩) _ (⟨hs, Holds.new V 65 [.int .i64 0, .int .i64 0, .int .i64 0, .int .i64 0, .int .i64 0]⟩) ((by have := h3.2.lt; omega))
  exact AllReadyIn.nil

set_option maxRecDepth 100000 in
set_option maxHeartbeats 1000000 in
theorem tr_02 (n : Nat) (op a b c imm : Int) (r n0 : Nat) (W0 : World) (Q : Exit → Act → World → Prop) (H0 : Holds W0 n0 43 [.int .i64 op, .int .i64 a, .int .i64 b, .int .i64 c, .int .i64 imm]) (HF : FormsAt W0) (Hfo : ∀ W, FormsAt W → Calls Tryz.prog 85 #[.agg #[.int .i64 op, .int .i64 a, .int .i64 b, .int .i64 c, .int .i64 imm]] W fun e w' => e = .returned (.agg #[.string (wordS r), .int .i64 (mask r)]) ∧ Below W.heap.size W w') (HQ : ∀ V q3 q4, Below W0.heap.size W0 V → W0.heap.size ≤ q3 ∧ Holds V q3 71 (rowCells r) → W0.heap.size ≤ q4 ∧ Holds V q4 65 [.int .i64 op, .int .i64 a, .int .i64 b, .int .i64 c, .int .i64 imm] → q3 ≠ q4 → Q .normal ({ tmps := #[.agg #[.int .i64 op, .int .i64 a, .int .i64 b, .int .i64 c, .int .i64 imm], .pointer (some ⟨n0, 0, none⟩), .string ⟨#[]⟩, .pointer (some ⟨q3, 0, none⟩), .pointer (some ⟨q4, 0, none⟩), undef, undef, .agg #[.int .i64 op, .int .i64 a, .int .i64 b, .int .i64 c, .int .i64 imm], .agg #[.string (wordS r), .int .i64 (mask r)], .agg #[.int .i64 op, .int .i64 a, .int .i64 b, .int .i64 c, .int .i64 imm], .agg #[.int .i64 op, .int .i64 a, .int .i64 b, .int .i64 c, .int .i64 imm], undef, undef, undef, undef, undef, undef, undef, undef, undef, undef, undef, undef, undef, undef, undef, undef, undef], defers := [] }) V) (V : World) (hB : Below W0.heap.size W0 V) :
    TxtReg n Q 6 #[true, false, true, false, false, false, false, false] ({ tmps := #[.agg #[.int .i64 op, .int .i64 a, .int .i64 b, .int .i64 c, .int .i64 imm], .pointer (some ⟨n0, 0, none⟩), .string ⟨#[]⟩, undef, undef, undef, undef, .agg #[.int .i64 op, .int .i64 a, .int .i64 b, .int .i64 c, .int .i64 imm], undef, .agg #[.int .i64 op, .int .i64 a, .int .i64 b, .int .i64 c, .int .i64 imm], undef, undef, undef, undef, undef, undef, undef, undef, undef, undef, undef, undef, undef, undef, undef, undef, undef, undef], defers := [] }) V := by
  have hs := hB.size
  have K_ := Lib.hid (And.intro H0 (And.intro HF (And.intro Hfo (And.intro HQ (And.intro hB (hs))))))
  clear hs hB HQ Hfo HF H0
  unfold TxtReg
  refine wpAnyIn_ready (rs := [1, 4, 5]) (by kernel_rfl) (by simp) ?_
  refine AllReadyIn.cons rfl (fun K hK => ?_) ?_
  · go_simp
    refine ⟨fun h => (by cases h), ?_⟩
    obtain ⟨H0, HF, Hfo, HQ, hB, hs⟩ := K_.out
    refine (callsIn_wide.2 (Hfo _ (HF.below hB))).mono ?_
    rintro e V2 ⟨rfl, hb⟩
    refine hK _ _ ?_; clear hK K
    exact tr_012 n op a b c imm r n0 W0 Q H0 HF Hfo HQ V2 (hB.trans (hb.mono hs))
  refine AllReadyIn.cons rfl (fun K hK => ?_) ?_
  · go_simp
    refine hK _ _ ?_; clear hK K
    obtain ⟨H0, HF, Hfo, HQ, hB, hs⟩ := K_.out
    exact tr_024 n op a b c imm r n0 W0 Q H0 HF Hfo HQ _ (hB.alloc hs _) _ (⟨hs, Holds.new V 71 [.string ⟨#[]⟩, .int .i64 0]⟩)
  refine AllReadyIn.cons rfl (fun K hK => ?_) ?_
  · go_simp
    refine hK _ _ ?_; clear hK K
    obtain ⟨H0, HF, Hfo, HQ, hB, hs⟩ := K_.out
    exact tr_025 n op a b c imm r n0 W0 Q H0 HF Hfo HQ _ (hB.alloc hs _) _ (⟨hs, Holds.new V 65 [.int .i64 0, .int .i64 0, .int .i64 0, .int .i64 0, .int .i64 0]⟩)
  exact AllReadyIn.nil

set_option maxRecDepth 100000 in
set_option maxHeartbeats 1000000 in
theorem tr_01 (n : Nat) (op a b c imm : Int) (r n0 : Nat) (W0 : World) (Q : Exit → Act → World → Prop) (H0 : Holds W0 n0 43 [.int .i64 op, .int .i64 a, .int .i64 b, .int .i64 c, .int .i64 imm]) (HF : FormsAt W0) (Hfo : ∀ W, FormsAt W → Calls Tryz.prog 85 #[.agg #[.int .i64 op, .int .i64 a, .int .i64 b, .int .i64 c, .int .i64 imm]] W fun e w' => e = .returned (.agg #[.string (wordS r), .int .i64 (mask r)]) ∧ Below W.heap.size W w') (HQ : ∀ V q3 q4, Below W0.heap.size W0 V → W0.heap.size ≤ q3 ∧ Holds V q3 71 (rowCells r) → W0.heap.size ≤ q4 ∧ Holds V q4 65 [.int .i64 op, .int .i64 a, .int .i64 b, .int .i64 c, .int .i64 imm] → q3 ≠ q4 → Q .normal ({ tmps := #[.agg #[.int .i64 op, .int .i64 a, .int .i64 b, .int .i64 c, .int .i64 imm], .pointer (some ⟨n0, 0, none⟩), .string ⟨#[]⟩, .pointer (some ⟨q3, 0, none⟩), .pointer (some ⟨q4, 0, none⟩), undef, undef, .agg #[.int .i64 op, .int .i64 a, .int .i64 b, .int .i64 c, .int .i64 imm], .agg #[.string (wordS r), .int .i64 (mask r)], .agg #[.int .i64 op, .int .i64 a, .int .i64 b, .int .i64 c, .int .i64 imm], .agg #[.int .i64 op, .int .i64 a, .int .i64 b, .int .i64 c, .int .i64 imm], undef, undef, undef, undef, undef, undef, undef, undef, undef, undef, undef, undef, undef, undef, undef, undef, undef], defers := [] }) V) (V : World) (hB : Below W0.heap.size W0 V) :
    TxtReg n Q 6 #[true, true, false, false, false, false, false, false] ({ tmps := #[.agg #[.int .i64 op, .int .i64 a, .int .i64 b, .int .i64 c, .int .i64 imm], .pointer (some ⟨n0, 0, none⟩), .string ⟨#[]⟩, undef, undef, undef, undef, .agg #[.int .i64 op, .int .i64 a, .int .i64 b, .int .i64 c, .int .i64 imm], .agg #[.string (wordS r), .int .i64 (mask r)], undef, undef, undef, undef, undef, undef, undef, undef, undef, undef, undef, undef, undef, undef, undef, undef, undef, undef, undef], defers := [] }) V := by
  have hs := hB.size
  have K_ := Lib.hid (And.intro H0 (And.intro HF (And.intro Hfo (And.intro HQ (And.intro hB (hs))))))
  clear hs hB HQ Hfo HF H0
  unfold TxtReg
  refine wpAnyIn_ready (rs := [2, 4, 5]) (by kernel_rfl) (by simp) ?_
  refine AllReadyIn.cons rfl (fun K hK => ?_) ?_
  · obtain ⟨H0, HF, Hfo, HQ, hB, hs⟩ := K_.out
    refine step_load_in rfl 43 (.tmp 1) rfl n0 0 rfl [.int .i64 op, .int .i64 a, .int .i64 b, .int .i64 c, .int .i64 imm] _ (H0.below hB).full Tryz.underlying43 rfl (by kernel_rfl) ?_
    refine hK _ _ ?_; clear hK K
    exact tr_012 n op a b c imm r n0 W0 Q H0 HF Hfo HQ V (hB)
  refine AllReadyIn.cons rfl (fun K hK => ?_) ?_
  · go_simp
    refine hK _ _ ?_; clear hK K
    obtain ⟨H0, HF, Hfo, HQ, hB, hs⟩ := K_.out
    exact tr_014 n op a b c imm r n0 W0 Q H0 HF Hfo HQ _ (hB.alloc hs _) _ (⟨hs, Holds.new V 71 [.string ⟨#[]⟩, .int .i64 0]⟩)
  refine AllReadyIn.cons rfl (fun K hK => ?_) ?_
  · go_simp
    refine hK _ _ ?_; clear hK K
    obtain ⟨H0, HF, Hfo, HQ, hB, hs⟩ := K_.out
    exact tr_015 n op a b c imm r n0 W0 Q H0 HF Hfo HQ _ (hB.alloc hs _) _ (⟨hs, Holds.new V 65 [.int .i64 0, .int .i64 0, .int .i64 0, .int .i64 0, .int .i64 0]⟩)
  exact AllReadyIn.nil

set_option maxRecDepth 100000 in
set_option maxHeartbeats 1000000 in
theorem tr_5 (n : Nat) (op a b c imm : Int) (r n0 : Nat) (W0 : World) (Q : Exit → Act → World → Prop) (H0 : Holds W0 n0 43 [.int .i64 op, .int .i64 a, .int .i64 b, .int .i64 c, .int .i64 imm]) (HF : FormsAt W0) (Hfo : ∀ W, FormsAt W → Calls Tryz.prog 85 #[.agg #[.int .i64 op, .int .i64 a, .int .i64 b, .int .i64 c, .int .i64 imm]] W fun e w' => e = .returned (.agg #[.string (wordS r), .int .i64 (mask r)]) ∧ Below W.heap.size W w') (HQ : ∀ V q3 q4, Below W0.heap.size W0 V → W0.heap.size ≤ q3 ∧ Holds V q3 71 (rowCells r) → W0.heap.size ≤ q4 ∧ Holds V q4 65 [.int .i64 op, .int .i64 a, .int .i64 b, .int .i64 c, .int .i64 imm] → q3 ≠ q4 → Q .normal ({ tmps := #[.agg #[.int .i64 op, .int .i64 a, .int .i64 b, .int .i64 c, .int .i64 imm], .pointer (some ⟨n0, 0, none⟩), .string ⟨#[]⟩, .pointer (some ⟨q3, 0, none⟩), .pointer (some ⟨q4, 0, none⟩), undef, undef, .agg #[.int .i64 op, .int .i64 a, .int .i64 b, .int .i64 c, .int .i64 imm], .agg #[.string (wordS r), .int .i64 (mask r)], .agg #[.int .i64 op, .int .i64 a, .int .i64 b, .int .i64 c, .int .i64 imm], .agg #[.int .i64 op, .int .i64 a, .int .i64 b, .int .i64 c, .int .i64 imm], undef, undef, undef, undef, undef, undef, undef, undef, undef, undef, undef, undef, undef, undef, undef, undef, undef], defers := [] }) V) (V : World) (hB : Below W0.heap.size W0 V) (q4 : Nat) (h4 : W0.heap.size ≤ q4 ∧ Holds V q4 65 [.int .i64 0, .int .i64 0, .int .i64 0, .int .i64 0, .int .i64 0]) :
    TxtReg n Q 7 #[false, false, false, false, false, true, false, false] ({ tmps := #[.agg #[.int .i64 op, .int .i64 a, .int .i64 b, .int .i64 c, .int .i64 imm], .pointer (some ⟨n0, 0, none⟩), .string ⟨#[]⟩, undef, .pointer (some ⟨q4, 0, none⟩), undef, undef, undef, undef, undef, undef, undef, undef, undef, undef, undef, undef, undef, undef, undef, undef, undef, undef, undef, undef, undef, undef, undef], defers := [] }) V := by
  have hs := hB.size
  have K_ := Lib.hid (And.intro H0 (And.intro HF (And.intro Hfo (And.intro HQ (And.intro hB (And.intro hs (h4)))))))
  clear h4 hs hB HQ Hfo HF H0
  unfold TxtReg
  refine wpAnyIn_ready (rs := [0, 2, 4]) (by kernel_rfl) (by simp) ?_
  refine AllReadyIn.cons rfl (fun K hK => ?_) ?_
  · obtain ⟨H0, HF, Hfo, HQ, hB, hs, h4⟩ := K_.out
    refine step_load_in rfl 43 (.tmp 1) rfl n0 0 rfl [.int .i64 op, .int .i64 a, .int .i64 b, .int .i64 c, .int .i64 imm] _ (H0.below hB).full Tryz.underlying43 rfl (by kernel_rfl) ?_
    refine hK _ _ ?_; clear hK K
    exact tr_05 n op a b c imm r n0 W0 Q H0 HF Hfo HQ V (hB) q4 (h4)
  refine AllReadyIn.cons rfl (fun K hK => ?_) ?_
  · obtain ⟨H0, HF, Hfo, HQ, hB, hs, h4⟩ := K_.out
    refine step_load_in rfl 43 (.tmp 1) rfl n0 0 rfl [.int .i64 op, .int .i64 a, .int .i64 b, .int .i64 c, .int .i64 imm] _ (H0.below hB).full Tryz.underlying43 rfl (by kernel_rfl) ?_
    refine hK _ _ ?_; clear hK K
    exact tr_25 n op a b c imm r n0 W0 Q H0 HF Hfo HQ V (hB) q4 (h4)
  refine AllReadyIn.cons rfl (fun K hK => ?_) ?_
  · go_simp
    refine hK _ _ ?_; clear hK K
    obtain ⟨H0, HF, Hfo, HQ, hB, hs, h4⟩ := K_.out
    exact tr_45 n op a b c imm r n0 W0 Q H0 HF Hfo HQ _ (hB.alloc hs _) _ (⟨hs, Holds.new V 71 [.string ⟨#[]⟩, .int .i64 0]⟩) q4 (⟨h4.1, h4.2.alloc _⟩) ((by have := h4.2.lt; omega))
  exact AllReadyIn.nil

set_option maxRecDepth 100000 in
set_option maxHeartbeats 1000000 in
theorem tr_4 (n : Nat) (op a b c imm : Int) (r n0 : Nat) (W0 : World) (Q : Exit → Act → World → Prop) (H0 : Holds W0 n0 43 [.int .i64 op, .int .i64 a, .int .i64 b, .int .i64 c, .int .i64 imm]) (HF : FormsAt W0) (Hfo : ∀ W, FormsAt W → Calls Tryz.prog 85 #[.agg #[.int .i64 op, .int .i64 a, .int .i64 b, .int .i64 c, .int .i64 imm]] W fun e w' => e = .returned (.agg #[.string (wordS r), .int .i64 (mask r)]) ∧ Below W.heap.size W w') (HQ : ∀ V q3 q4, Below W0.heap.size W0 V → W0.heap.size ≤ q3 ∧ Holds V q3 71 (rowCells r) → W0.heap.size ≤ q4 ∧ Holds V q4 65 [.int .i64 op, .int .i64 a, .int .i64 b, .int .i64 c, .int .i64 imm] → q3 ≠ q4 → Q .normal ({ tmps := #[.agg #[.int .i64 op, .int .i64 a, .int .i64 b, .int .i64 c, .int .i64 imm], .pointer (some ⟨n0, 0, none⟩), .string ⟨#[]⟩, .pointer (some ⟨q3, 0, none⟩), .pointer (some ⟨q4, 0, none⟩), undef, undef, .agg #[.int .i64 op, .int .i64 a, .int .i64 b, .int .i64 c, .int .i64 imm], .agg #[.string (wordS r), .int .i64 (mask r)], .agg #[.int .i64 op, .int .i64 a, .int .i64 b, .int .i64 c, .int .i64 imm], .agg #[.int .i64 op, .int .i64 a, .int .i64 b, .int .i64 c, .int .i64 imm], undef, undef, undef, undef, undef, undef, undef, undef, undef, undef, undef, undef, undef, undef, undef, undef, undef], defers := [] }) V) (V : World) (hB : Below W0.heap.size W0 V) (q3 : Nat) (h3 : W0.heap.size ≤ q3 ∧ Holds V q3 71 [.string ⟨#[]⟩, .int .i64 0]) :
    TxtReg n Q 7 #[false, false, false, false, true, false, false, false] ({ tmps := #[.agg #[.int .i64 op, .int .i64 a, .int .i64 b, .int .i64 c, .int .i64 imm], .pointer (some ⟨n0, 0, none⟩), .string ⟨#[]⟩, .pointer (some ⟨q3, 0, none⟩), undef, undef, undef, undef, undef, undef, undef, undef, undef, undef, undef, undef, undef, undef, undef, undef, undef, undef, undef, undef, undef, undef, undef, undef], defers := [] }) V := by
  have hs := hB.size
  have K_ := Lib.hid (And.intro H0 (And.intro HF (And.intro Hfo (And.intro HQ (And.intro hB (And.intro hs (h3)))))))
  clear h3 hs hB HQ Hfo HF H0
  unfold TxtReg
  refine wpAnyIn_ready (rs := [0, 2, 5]) (by kernel_rfl) (by simp) ?_
  refine AllReadyIn.cons rfl (fun K hK => ?_) ?_
  · obtain ⟨H0, HF, Hfo, HQ, hB, hs, h3⟩ := K_.out
    refine step_load_in rfl 43 (.tmp 1) rfl n0 0 rfl [.int .i64 op, .int .i64 a, .int .i64 b, .int .i64 c, .int .i64 imm] _ (H0.below hB).full Tryz.underlying43 rfl (by kernel_rfl) ?_
    refine hK _ _ ?_; clear hK K
    exact tr_04 n op a b c imm r n0 W0 Q H0 HF Hfo HQ V (hB) q3 (h3)
  refine AllReadyIn.cons rfl (fun K hK => ?_) ?_
  · obtain ⟨H0, HF, Hfo, HQ, hB, hs, h3⟩ := K_.out
    refine step_load_in rfl 43 (.tmp 1) rfl n0 0 rfl [.int .i64 op, .int .i64 a, .int .i64 b, .int .i64 c, .int .i64 imm] _ (H0.below hB).full Tryz.underlying43 rfl (by kernel_rfl) ?_
    refine hK _ _ ?_; clear hK K
    exact tr_24 n op a b c imm r n0 W0 Q H0 HF Hfo HQ V (hB) q3 (h3)
  refine AllReadyIn.cons rfl (fun K hK => ?_) ?_
  · go_simp
    refine hK _ _ ?_; clear hK K
    obtain ⟨H0, HF, Hfo, HQ, hB, hs, h3⟩ := K_.out
    exact tr_45 n op a b c imm r n0 W0 Q H0 HF Hfo HQ _ (hB.alloc hs _) q3 (⟨h3.1, h3.2.alloc _⟩) _ (⟨hs, Holds.new V 65 [.int .i64 0, .int .i64 0, .int .i64 0, .int .i64 0, .int .i64 0]⟩) ((by have := h3.2.lt; omega))
  exact AllReadyIn.nil

set_option maxRecDepth 100000 in
set_option maxHeartbeats 1000000 in
theorem tr_2 (n : Nat) (op a b c imm : Int) (r n0 : Nat) (W0 : World) (Q : Exit → Act → World → Prop) (H0 : Holds W0 n0 43 [.int .i64 op, .int .i64 a, .int .i64 b, .int .i64 c, .int .i64 imm]) (HF : FormsAt W0) (Hfo : ∀ W, FormsAt W → Calls Tryz.prog 85 #[.agg #[.int .i64 op, .int .i64 a, .int .i64 b, .int .i64 c, .int .i64 imm]] W fun e w' => e = .returned (.agg #[.string (wordS r), .int .i64 (mask r)]) ∧ Below W.heap.size W w') (HQ : ∀ V q3 q4, Below W0.heap.size W0 V → W0.heap.size ≤ q3 ∧ Holds V q3 71 (rowCells r) → W0.heap.size ≤ q4 ∧ Holds V q4 65 [.int .i64 op, .int .i64 a, .int .i64 b, .int .i64 c, .int .i64 imm] → q3 ≠ q4 → Q .normal ({ tmps := #[.agg #[.int .i64 op, .int .i64 a, .int .i64 b, .int .i64 c, .int .i64 imm], .pointer (some ⟨n0, 0, none⟩), .string ⟨#[]⟩, .pointer (some ⟨q3, 0, none⟩), .pointer (some ⟨q4, 0, none⟩), undef, undef, .agg #[.int .i64 op, .int .i64 a, .int .i64 b, .int .i64 c, .int .i64 imm], .agg #[.string (wordS r), .int .i64 (mask r)], .agg #[.int .i64 op, .int .i64 a, .int .i64 b, .int .i64 c, .int .i64 imm], .agg #[.int .i64 op, .int .i64 a, .int .i64 b, .int .i64 c, .int .i64 imm], undef, undef, undef, undef, undef, undef, undef, undef, undef, undef, undef, undef, undef, undef, undef, undef, undef], defers := [] }) V) (V : World) (hB : Below W0.heap.size W0 V) :
    TxtReg n Q 7 #[false, false, true, false, false, false, false, false] ({ tmps := #[.agg #[.int .i64 op, .int .i64 a, .int .i64 b, .int .i64 c, .int .i64 imm], .pointer (some ⟨n0, 0, none⟩), .string ⟨#[]⟩, undef, undef, undef, undef, undef, undef, .agg #[.int .i64 op, .int .i64 a, .int .i64 b, .int .i64 c, .int .i64 imm], undef, undef, undef, undef, undef, undef, undef, undef, undef, undef, undef, undef, undef, undef, undef, undef, undef, undef], defers := [] }) V := by
  have hs := hB.size
  have K_ := Lib.hid (And.intro H0 (And.intro HF (And.intro Hfo (And.intro HQ (And.intro hB (hs))))))
  clear hs hB HQ Hfo HF H0
  unfold TxtReg
  refine wpAnyIn_ready (rs := [0, 4, 5]) (by kernel_rfl) (by simp) ?_
  refine AllReadyIn.cons rfl (fun K hK => ?_) ?_
  · obtain ⟨H0, HF, Hfo, HQ, hB, hs⟩ := K_.out
    refine step_load_in rfl 43 (.tmp 1) rfl n0 0 rfl [.int .i64 op, .int .i64 a, .int .i64 b, .int .i64 c, .int .i64 imm] _ (H0.below hB).full Tryz.underlying43 rfl (by kernel_rfl) ?_
    refine hK _ _ ?_; clear hK K
    exact tr_02 n op a b c imm r n0 W0 Q H0 HF Hfo HQ V (hB)
  refine AllReadyIn.cons rfl (fun K hK => ?_) ?_
  · go_simp
    refine hK _ _ ?_; clear hK K
    obtain ⟨H0, HF, Hfo, HQ, hB, hs⟩ := K_.out
    exact tr_24 n op a b c imm r n0 W0 Q H0 HF Hfo HQ _ (hB.alloc hs _) _ (⟨hs, Holds.new V 71 [.string ⟨#[]⟩, .int .i64 0]⟩)
  refine AllReadyIn.cons rfl (fun K hK => ?_) ?_
  · go_simp
    refine hK _ _ ?_; clear hK K
    obtain ⟨H0, HF, Hfo, HQ, hB, hs⟩ := K_.out
    exact tr_25 n op a b c imm r n0 W0 Q H0 HF Hfo HQ _ (hB.alloc hs _) _ (⟨hs, Holds.new V 65 [.int .i64 0, .int .i64 0, .int .i64 0, .int .i64 0, .int .i64 0]⟩)
  exact AllReadyIn.nil

set_option maxRecDepth 100000 in
set_option maxHeartbeats 1000000 in
theorem tr_0 (n : Nat) (op a b c imm : Int) (r n0 : Nat) (W0 : World) (Q : Exit → Act → World → Prop) (H0 : Holds W0 n0 43 [.int .i64 op, .int .i64 a, .int .i64 b, .int .i64 c, .int .i64 imm]) (HF : FormsAt W0) (Hfo : ∀ W, FormsAt W → Calls Tryz.prog 85 #[.agg #[.int .i64 op, .int .i64 a, .int .i64 b, .int .i64 c, .int .i64 imm]] W fun e w' => e = .returned (.agg #[.string (wordS r), .int .i64 (mask r)]) ∧ Below W.heap.size W w') (HQ : ∀ V q3 q4, Below W0.heap.size W0 V → W0.heap.size ≤ q3 ∧ Holds V q3 71 (rowCells r) → W0.heap.size ≤ q4 ∧ Holds V q4 65 [.int .i64 op, .int .i64 a, .int .i64 b, .int .i64 c, .int .i64 imm] → q3 ≠ q4 → Q .normal ({ tmps := #[.agg #[.int .i64 op, .int .i64 a, .int .i64 b, .int .i64 c, .int .i64 imm], .pointer (some ⟨n0, 0, none⟩), .string ⟨#[]⟩, .pointer (some ⟨q3, 0, none⟩), .pointer (some ⟨q4, 0, none⟩), undef, undef, .agg #[.int .i64 op, .int .i64 a, .int .i64 b, .int .i64 c, .int .i64 imm], .agg #[.string (wordS r), .int .i64 (mask r)], .agg #[.int .i64 op, .int .i64 a, .int .i64 b, .int .i64 c, .int .i64 imm], .agg #[.int .i64 op, .int .i64 a, .int .i64 b, .int .i64 c, .int .i64 imm], undef, undef, undef, undef, undef, undef, undef, undef, undef, undef, undef, undef, undef, undef, undef, undef, undef], defers := [] }) V) (V : World) (hB : Below W0.heap.size W0 V) :
    TxtReg n Q 7 #[true, false, false, false, false, false, false, false] ({ tmps := #[.agg #[.int .i64 op, .int .i64 a, .int .i64 b, .int .i64 c, .int .i64 imm], .pointer (some ⟨n0, 0, none⟩), .string ⟨#[]⟩, undef, undef, undef, undef, .agg #[.int .i64 op, .int .i64 a, .int .i64 b, .int .i64 c, .int .i64 imm], undef, undef, undef, undef, undef, undef, undef, undef, undef, undef, undef, undef, undef, undef, undef, undef, undef, undef, undef, undef], defers := [] }) V := by
  have hs := hB.size
  have K_ := Lib.hid (And.intro H0 (And.intro HF (And.intro Hfo (And.intro HQ (And.intro hB (hs))))))
  clear hs hB HQ Hfo HF H0
  unfold TxtReg
  refine wpAnyIn_ready (rs := [1, 2, 4, 5]) (by kernel_rfl) (by simp) ?_
  refine AllReadyIn.cons rfl (fun K hK => ?_) ?_
  · go_simp
    refine ⟨fun h => (by cases h), ?_⟩
    obtain ⟨H0, HF, Hfo, HQ, hB, hs⟩ := K_.out
    refine (callsIn_wide.2 (Hfo _ (HF.below hB))).mono ?_
    rintro e V2 ⟨rfl, hb⟩
    refine hK _ _ ?_; clear hK K
    exact tr_01 n op a b c imm r n0 W0 Q H0 HF Hfo HQ V2 (hB.trans (hb.mono hs))
  refine AllReadyIn.cons rfl (fun K hK => ?_) ?_
  · obtain ⟨H0, HF, Hfo, HQ, hB, hs⟩ := K_.out
    refine step_load_in rfl 43 (.tmp 1) rfl n0 0 rfl [.int .i64 op, .int .i64 a, .int .i64 b, .int .i64 c, .int .i64 imm] _ (H0.below hB).full Tryz.underlying43 rfl (by kernel_rfl) ?_
    refine hK _ _ ?_; clear hK K
    exact tr_02 n op a b c imm r n0 W0 Q H0 HF Hfo HQ V (hB)
  refine AllReadyIn.cons rfl (fun K hK => ?_) ?_
  · go_simp
    refine hK _ _ ?_; clear hK K
    obtain ⟨H0, HF, Hfo, HQ, hB, hs⟩ := K_.out
    exact tr_04 n op a b c imm r n0 W0 Q H0 HF Hfo HQ _ (hB.alloc hs _) _ (⟨hs, Holds.new V 71 [.string ⟨#[]⟩, .int .i64 0]⟩)
  refine AllReadyIn.cons rfl (fun K hK => ?_) ?_
  · go_simp
    refine hK _ _ ?_; clear hK K
    obtain ⟨H0, HF, Hfo, HQ, hB, hs⟩ := K_.out
    exact tr_05 n op a b c imm r n0 W0 Q H0 HF Hfo HQ _ (hB.alloc hs _) _ (⟨hs, Holds.new V 65 [.int .i64 0, .int .i64 0, .int .i64 0, .int .i64 0, .int .i64 0]⟩)
  exact AllReadyIn.nil

set_option maxRecDepth 100000 in
set_option maxHeartbeats 1000000 in
theorem tr_s (n : Nat) (op a b c imm : Int) (r n0 : Nat) (W0 : World) (Q : Exit → Act → World → Prop) (H0 : Holds W0 n0 43 [.int .i64 op, .int .i64 a, .int .i64 b, .int .i64 c, .int .i64 imm]) (HF : FormsAt W0) (Hfo : ∀ W, FormsAt W → Calls Tryz.prog 85 #[.agg #[.int .i64 op, .int .i64 a, .int .i64 b, .int .i64 c, .int .i64 imm]] W fun e w' => e = .returned (.agg #[.string (wordS r), .int .i64 (mask r)]) ∧ Below W.heap.size W w') (HQ : ∀ V q3 q4, Below W0.heap.size W0 V → W0.heap.size ≤ q3 ∧ Holds V q3 71 (rowCells r) → W0.heap.size ≤ q4 ∧ Holds V q4 65 [.int .i64 op, .int .i64 a, .int .i64 b, .int .i64 c, .int .i64 imm] → q3 ≠ q4 → Q .normal ({ tmps := #[.agg #[.int .i64 op, .int .i64 a, .int .i64 b, .int .i64 c, .int .i64 imm], .pointer (some ⟨n0, 0, none⟩), .string ⟨#[]⟩, .pointer (some ⟨q3, 0, none⟩), .pointer (some ⟨q4, 0, none⟩), undef, undef, .agg #[.int .i64 op, .int .i64 a, .int .i64 b, .int .i64 c, .int .i64 imm], .agg #[.string (wordS r), .int .i64 (mask r)], .agg #[.int .i64 op, .int .i64 a, .int .i64 b, .int .i64 c, .int .i64 imm], .agg #[.int .i64 op, .int .i64 a, .int .i64 b, .int .i64 c, .int .i64 imm], undef, undef, undef, undef, undef, undef, undef, undef, undef, undef, undef, undef, undef, undef, undef, undef, undef], defers := [] }) V) (V : World) (hB : Below W0.heap.size W0 V) :
    TxtReg n Q 8 #[false, false, false, false, false, false, false, false] ({ tmps := #[.agg #[.int .i64 op, .int .i64 a, .int .i64 b, .int .i64 c, .int .i64 imm], .pointer (some ⟨n0, 0, none⟩), .string ⟨#[]⟩, undef, undef, undef, undef, undef, undef, undef, undef, undef, undef, undef, undef, undef, undef, undef, undef, undef, undef, undef, undef, undef, undef, undef, undef, undef], defers := [] }) V := by
  have hs := hB.size
  have K_ := Lib.hid (And.intro H0 (And.intro HF (And.intro Hfo (And.intro HQ (And.intro hB (hs))))))
  clear hs hB HQ Hfo HF H0
  unfold TxtReg
  refine wpAnyIn_ready (rs := [0, 2, 4, 5]) (by kernel_rfl) (by simp) ?_
  refine AllReadyIn.cons rfl (fun K hK => ?_) ?_
  · obtain ⟨H0, HF, Hfo, HQ, hB, hs⟩ := K_.out
    refine step_load_in rfl 43 (.tmp 1) rfl n0 0 rfl [.int .i64 op, .int .i64 a, .int .i64 b, .int .i64 c, .int .i64 imm] _ (H0.below hB).full Tryz.underlying43 rfl (by kernel_rfl) ?_
    refine hK _ _ ?_; clear hK K
    exact tr_0 n op a b c imm r n0 W0 Q H0 HF Hfo HQ V (hB)
  refine AllReadyIn.cons rfl (fun K hK => ?_) ?_
  · obtain ⟨H0, HF, Hfo, HQ, hB, hs⟩ := K_.out
    refine step_load_in rfl 43 (.tmp 1) rfl n0 0 rfl [.int .i64 op, .int .i64 a, .int .i64 b, .int .i64 c, .int .i64 imm] _ (H0.below hB).full Tryz.underlying43 rfl (by kernel_rfl) ?_
    refine hK _ _ ?_; clear hK K
    exact tr_2 n op a b c imm r n0 W0 Q H0 HF Hfo HQ V (hB)
  refine AllReadyIn.cons rfl (fun K hK => ?_) ?_
  · go_simp
    refine hK _ _ ?_; clear hK K
    obtain ⟨H0, HF, Hfo, HQ, hB, hs⟩ := K_.out
    exact tr_4 n op a b c imm r n0 W0 Q H0 HF Hfo HQ _ (hB.alloc hs _) _ (⟨hs, Holds.new V 71 [.string ⟨#[]⟩, .int .i64 0]⟩)
  refine AllReadyIn.cons rfl (fun K hK => ?_) ?_
  · go_simp
    refine hK _ _ ?_; clear hK K
    obtain ⟨H0, HF, Hfo, HQ, hB, hs⟩ := K_.out
    exact tr_5 n op a b c imm r n0 W0 Q H0 HF Hfo HQ _ (hB.alloc hs _) _ (⟨hs, Holds.new V 65 [.int .i64 0, .int .i64 0, .int .i64 0, .int .i64 0, .int .i64 0]⟩)
  exact AllReadyIn.nil

set_option maxRecDepth 100000 in
set_option maxHeartbeats 1000000 in
theorem txt_region (n : Nat) (op a b c imm : Int) (r n0 : Nat) (W0 : World) (Q : Exit → Act → World → Prop) (H0 : Holds W0 n0 43 [.int .i64 op, .int .i64 a, .int .i64 b, .int .i64 c, .int .i64 imm]) (HF : FormsAt W0) (Hfo : ∀ W, FormsAt W → Calls Tryz.prog 85 #[.agg #[.int .i64 op, .int .i64 a, .int .i64 b, .int .i64 c, .int .i64 imm]] W fun e w' => e = .returned (.agg #[.string (wordS r), .int .i64 (mask r)]) ∧ Below W.heap.size W w') (HQ : ∀ V q3 q4, Below W0.heap.size W0 V → W0.heap.size ≤ q3 ∧ Holds V q3 71 (rowCells r) → W0.heap.size ≤ q4 ∧ Holds V q4 65 [.int .i64 op, .int .i64 a, .int .i64 b, .int .i64 c, .int .i64 imm] → q3 ≠ q4 → Q .normal ({ tmps := #[.agg #[.int .i64 op, .int .i64 a, .int .i64 b, .int .i64 c, .int .i64 imm], .pointer (some ⟨n0, 0, none⟩), .string ⟨#[]⟩, .pointer (some ⟨q3, 0, none⟩), .pointer (some ⟨q4, 0, none⟩), undef, undef, .agg #[.int .i64 op, .int .i64 a, .int .i64 b, .int .i64 c, .int .i64 imm], .agg #[.string (wordS r), .int .i64 (mask r)], .agg #[.int .i64 op, .int .i64 a, .int .i64 b, .int .i64 c, .int .i64 imm], .agg #[.int .i64 op, .int .i64 a, .int .i64 b, .int .i64 c, .int .i64 imm], undef, undef, undef, undef, undef, undef, undef, undef, undef, undef, undef, undef, undef, undef, undef, undef, undef], defers := [] }) V) :
    (Code.region 1 #[{ dst := some 7, op := Op.load 43 (Operand.tmp 1), type := 43, pos := "isa.go:77", after := #[], guard := none },
      { dst := some 8, op := Op.call { callee := Callee.value (Operand.func 85), args := #[Operand.tmp 7], argTypes := #[43] }, type := 71, pos := "isa.go:77", after := #[{ on := 0, ground := Ground.data }], guard := none },
      { dst := some 9, op := Op.load 43 (Operand.tmp 1), type := 43, pos := "isa.go:77", after := #[], guard := none },
      { dst := some 10, op := Op.call { callee := Callee.value (Operand.func 24), args := #[Operand.tmp 9], argTypes := #[43] }, type := 65, pos := "isa.go:77", after := #[{ on := 2, ground := Ground.data }, { on := 1, ground := Ground.chain }], guard := none },
      { dst := some 3, op := Op.alloc 71, type := 0, pos := "isa.go:77", after := #[], guard := none },
      { dst := some 4, op := Op.alloc 65, type := 0, pos := "isa.go:77", after := #[], guard := none },
      { dst := none, op := Op.store 71 (Operand.tmp 3) (Operand.tmp 8), type := 0, pos := "isa.go:77", after := #[{ on := 4, ground := Ground.data }, { on := 1, ground := Ground.data }, { on := 3, ground := Ground.chain }, { on := 0, ground := Ground.phase }, { on := 1, ground := Ground.phase }, { on := 2, ground := Ground.textOnly Departure.lateStores }, { on := 3, ground := Ground.textOnly Departure.lateStoresUnsure }, { on := 4, ground := Ground.phase }, { on := 5, ground := Ground.phase }], guard := none },
      { dst := none, op := Op.store 65 (Operand.tmp 4) (Operand.tmp 10), type := 0, pos := "isa.go:77", after := #[{ on := 5, ground := Ground.data }, { on := 3, ground := Ground.data }, { on := 6, ground := Ground.chain }, { on := 0, ground := Ground.phase }, { on := 1, ground := Ground.phase }, { on := 2, ground := Ground.phase }, { on := 3, ground := Ground.phase }, { on := 4, ground := Ground.phase }, { on := 5, ground := Ground.phase }, { on := 6, ground := Ground.phase }], guard := none }] true).wpIn Fence.wide n Tryz.prog Q ({ tmps := #[.agg #[.int .i64 op, .int .i64 a, .int .i64 b, .int .i64 c, .int .i64 imm], .pointer (some ⟨n0, 0, none⟩), .string ⟨#[]⟩, undef, undef, undef, undef, undef, undef, undef, undef, undef, undef, undef, undef, undef, undef, undef, undef, undef, undef, undef, undef, undef, undef, undef, undef, undef], defers := [] }) W0 := by
  have hn := tr_s n op a b c imm r n0 W0 Q H0 HF Hfo HQ W0.drew (below_drew1 (Below.refl _ _))
  have HN := Lib.hid hn; clear hn
  refine wpIn_region_any (by kernel_rfl) ?_
  exact HN.out

end Go.Proofs.YteijhcibdglkeaaGreatDoor
