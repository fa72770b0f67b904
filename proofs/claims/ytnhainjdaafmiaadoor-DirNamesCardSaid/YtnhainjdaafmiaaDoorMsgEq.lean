/- Two messages are equal just if all of their parts are. Conditions: those stated in each theorem. -/
import Derived.Test.YtnhainjdaafmiaaDoorMsg
import Derived.BigFrame
import Derived.Laws.StructEq
import Derived.ChangeKeysEq
namespace Go.Proofs.YtnhainjdaafmiaaDoor
open Go.RowKit Go.BigFrame

/-! ### Two messages are equal just if all of their parts are -/
theorem eqItems_step (d i : Nat) (is : List Nat) (xs ys : Array Value) (a b : Int) (w : World) (h1 : (part 38 xs (i * 1)).run Tryd.prog w = .ok (.int .u64 a) w) (h2 : (part 38 ys (i * 1)).run Tryd.prog w = .ok (.int .u64 b) w) :
    (Op.eqItems (d + 1) 38 1 xs ys (i :: is)).run Tryd.prog w = if a == b then (Op.eqItems (d + 1) 38 1 xs ys is).run Tryd.prog w else .ok false w := by
  simp only [Op.eqItems, Sem.run_bind, h1, h2, Result.andThen_ok, run_equalIn_int w d 38 .u64 .u64 a b Tryd.underlying38]
  cases a == b <;> simp

theorem eq_lines (x y : L8) (d : Nat) (w : World) :
    (Op.equalIn (d + 2) 40 (.agg x.cells.toArray) (.agg y.cells.toArray)).run Tryd.prog w = .ok (decide (x = y)) w := by
  obtain ⟨x0, x1, x2, x3, x4, x5, x6, x7⟩ := x
  obtain ⟨y0, y1, y2, y3, y4, y5, y6, y7⟩ := y
  simp only [L8.cells]
  rw [run_equalIn_array w (d + 1) _ _ Tryd.underlying40 (show Tryd.prog.info? 38 = some (Tryd.prog.info? 38).get! from by kernel_rfl), show Tryd.prog.cellsOf 38 = 1 from by kernel_rfl, show List.range 8 = [0, 1, 2, 3, 4, 5, 6, 7] from rfl]
  rw [eqItems_step d 0 _ _ _ x0 y0 w (by kernel_rfl) (by kernel_rfl), eqItems_step d 1 _ _ _ x1 y1 w (by kernel_rfl) (by kernel_rfl), eqItems_step d 2 _ _ _ x2 y2 w (by kernel_rfl) (by kernel_rfl),
    eqItems_step d 3 _ _ _ x3 y3 w (by kernel_rfl) (by kernel_rfl), eqItems_step d 4 _ _ _ x4 y4 w (by kernel_rfl) (by kernel_rfl), eqItems_step d 5 _ _ _ x5 y5 w (by kernel_rfl) (by kernel_rfl),
    eqItems_step d 6 _ _ _ x6 y6 w (by kernel_rfl) (by kernel_rfl), eqItems_step d 7 _ _ _ x7 y7 w (by kernel_rfl) (by kernel_rfl)]
  have h : decide ((⟨x0, x1, x2, x3, x4, x5, x6, x7⟩ : L8) = ⟨y0, y1, y2, y3, y4, y5, y6, y7⟩) = (x0 == y0 && x1 == y1 && x2 == y2 && x3 == y3 && x4 == y4 && x5 == y5 && x6 == y6 && x7 == y7) := by
    rw [Bool.eq_iff_iff]; simp [and_assoc]
  rw [h]
  cases x0 == y0 <;> cases x1 == y1 <;> cases x2 == y2 <;> cases x3 == y3 <;> cases x4 == y4 <;> cases x5 == y5 <;> cases x6 == y6 <;> cases x7 == y7 <;> simp [Op.eqItems]

theorem eqFields_step (d : Nat) (f : Field) (fs : List Field) (xs ys : Array Value) (a b : Value) (r : Bool) (w : World) (hn : f.name ≠ "_") (h1 : (part f.type xs f.offset).run Tryd.prog w = .ok a w) (h2 : (part f.type ys f.offset).run Tryd.prog w = .ok b w) (h3 : (Op.equalIn d f.type a b).run Tryd.prog w = .ok r w) :
    (Op.eqFields d xs ys (f :: fs)).run Tryd.prog w = if r then (Op.eqFields d xs ys fs).run Tryd.prog w else .ok false w := by
  simp only [Op.eqFields, if_pos hn, Sem.run_bind, h1, h2, h3, Result.andThen_ok]
  cases r <;> simp

set_option maxRecDepth 100000 in
theorem eq_msgs' (x y : MsgV) (d : Nat) (w : World) : (Op.equalIn (d + 3) 45 (.agg x.cells.toArray) (.agg y.cells.toArray)).run Tryd.prog w = .ok (decide (x = y)) w := by
  obtain ⟨x1, x2, x3, x4⟩ := x
  obtain ⟨y1, y2, y3, y4⟩ := y
  rw [run_equalIn_agg w (d + 2) 45 _ _ (by kernel_rfl) Tryd.stoodInHeld45]
  rw [show (Tryd.prog.fieldsOf 45).toList = [{ name := "Kind", type := 3, offset := 0, embedded := false, tag := "", pkgPath := "", byteOffset := 0 },
        { name := "Core", type := 3, offset := 1, embedded := false, tag := "", pkgPath := "", byteOffset := 8 },
        { name := "Line", type := 3, offset := 2, embedded := false, tag := "", pkgPath := "", byteOffset := 16 },
        { name := "Data", type := 40, offset := 3, embedded := false, tag := "", pkgPath := "", byteOffset := 24 }] from by kernel_rfl]
  rw [eqFields_step (d + 2) _ _ _ _ (.int .i64 x1) (.int .i64 y1) (x1 == y1) w (by simp) (by kernel_rfl) (by kernel_rfl) (run_equalIn_int w (d + 1) 3 .i64 .i64 x1 y1 Tryd.underlying3),
    eqFields_step (d + 2) _ _ _ _ (.int .i64 x2) (.int .i64 y2) (x2 == y2) w (by simp) (by kernel_rfl) (by kernel_rfl) (run_equalIn_int w (d + 1) 3 .i64 .i64 x2 y2 Tryd.underlying3),
    eqFields_step (d + 2) _ _ _ _ (.int .i64 x3) (.int .i64 y3) (x3 == y3) w (by simp) (by kernel_rfl) (by kernel_rfl) (run_equalIn_int w (d + 1) 3 .i64 .i64 x3 y3 Tryd.underlying3),
    eqFields_step (d + 2) _ _ _ _ (.agg x4.cells.toArray) (.agg y4.cells.toArray) _ w (by simp) (by kernel_rfl) (by kernel_rfl) (eq_lines x4 y4 d w)]
  have h : decide ((⟨x1, x2, x3, x4⟩ : MsgV) = ⟨y1, y2, y3, y4⟩) = (x1 == y1 && x2 == y2 && x3 == y3 && decide (x4 = y4)) := by
    rw [Bool.eq_iff_iff]; simp [and_assoc]
  rw [h]
  cases x1 == y1 <;> cases x2 == y2 <;> cases x3 == y3 <;> cases decide (x4 = y4) <;> simp [Op.eqFields]

theorem eq_msgs (x y : MsgV) (w : World) : (Op.equalIn 10000 45 (.agg x.cells.toArray) (.agg y.cells.toArray)).run Tryd.prog w = .ok (decide (x = y)) w := eq_msgs' x y 9997 w
@[go_sem ↓ high] theorem eq_msg_zero (x : MsgV) (w : World) : (Op.equalIn 10000 45 (.agg x.cells.toArray) (.agg #[.int .i64 0, .int .i64 0, .int .i64 0, .int .u64 0, .int .u64 0, .int .u64 0, .int .u64 0, .int .u64 0, .int .u64 0, .int .u64 0, .int .u64 0])).run Tryd.prog w = .ok (decide (x = MsgV.zero)) w := eq_msgs x MsgV.zero w
@[go_sem ↓ high] theorem eq_msg_any (x y : MsgV) (w : World) : (Op.equalIn 10000 45 (.agg x.cells.toArray) (.agg y.cells.toArray)).run Tryd.prog w = .ok (decide (x = y)) w := eq_msgs x y w

end Go.Proofs.YtnhainjdaafmiaaDoor
