/- The chapter's first examples. Conditions: those stated in each theorem. -/
import Derived.Test.YtfeemchdhbimhaaDoorTxtF
import Derived.Test.YtfeemchdhbimhaaDoorIsaE
import Derived.Test.YtfeemchdhbimhaaDoorEncB
namespace Go.Proofs.YtfeemchdhbimhaaDoor
open Go.RowKit Go.BigFrame

theorem eqf_step (d : Nat) (f : Field) (fs : List Field) (xs ys : Array Value) (a b : Value) (r : Bool) (w : World) (hn : f.name ≠ "_") (h1 : (part f.type xs f.offset).run Tryd.prog w = .ok a w) (h2 : (part f.type ys f.offset).run Tryd.prog w = .ok b w) (h3 : (Op.equalIn d f.type a b).run Tryd.prog w = .ok r w) :
    (Op.eqFields d xs ys (f :: fs)).run Tryd.prog w = if r then (Op.eqFields d xs ys fs).run Tryd.prog w else .ok false w := by
  simp only [Op.eqFields, if_pos hn, Sem.run_bind, h1, h2, h3, Result.andThen_ok]
  cases r <;> simp
set_option maxRecDepth 100000 in
theorem same_ef' (a b c e f a' b' c' e' f' : Int) (d : Nat) (w : World) : (Op.equalIn (d + 3) 27 (.agg #[.int .i64 a, .int .i64 b, .int .i64 c, .int .u64 e, .int .u64 f]) (.agg #[.int .i64 a', .int .i64 b', .int .i64 c', .int .u64 e', .int .u64 f'])).run Tryd.prog w = .ok (a == a' && (b == b' && (c == c' && (e == e' && f == f')))) w := by
  rw [run_equalIn_agg w (d + 2) 27 _ _ (by kernel_rfl) Tryd.stoodInHeld27]
  rw [show (Tryd.prog.fieldsOf 27).toList = [{ name := "Kind", type := 3, offset := 0, embedded := false, tag := "", pkgPath := "", byteOffset := 0 }, { name := "Next", type := 3, offset := 1, embedded := false, tag := "", pkgPath := "", byteOffset := 8 }, { name := "Reg", type := 3, offset := 2, embedded := false, tag := "", pkgPath := "", byteOffset := 16 },
        { name := "Value", type := 24, offset := 3, embedded := false, tag := "", pkgPath := "", byteOffset := 24 }, { name := "Addr", type := 24, offset := 4, embedded := false, tag := "", pkgPath := "", byteOffset := 32 }] from by kernel_rfl]
  rw [eqf_step (d + 2) _ _ _ _ (.int .i64 a) (.int .i64 a') (a == a') w (by simp) (by kernel_rfl) (by kernel_rfl) (run_equalIn_int w (d + 1) 3 .i64 .i64 a a' Tryd.underlying3),
    eqf_step (d + 2) _ _ _ _ (.int .i64 b) (.int .i64 b') (b == b') w (by simp) (by kernel_rfl) (by kernel_rfl) (run_equalIn_int w (d + 1) 3 .i64 .i64 b b' Tryd.underlying3),
    eqf_step (d + 2) _ _ _ _ (.int .i64 c) (.int .i64 c') (c == c') w (by simp) (by kernel_rfl) (by kernel_rfl) (run_equalIn_int w (d + 1) 3 .i64 .i64 c c' Tryd.underlying3),
    eqf_step (d + 2) _ _ _ _ (.int .u64 e) (.int .u64 e') (e == e') w (by simp) (by kernel_rfl) (by kernel_rfl) (run_equalIn_int w (d + 1) 24 .u64 .u64 e e' Tryd.underlying24),
    eqf_step (d + 2) _ _ _ _ (.int .u64 f) (.int .u64 f') (f == f') w (by simp) (by kernel_rfl) (by kernel_rfl) (run_equalIn_int w (d + 1) 24 .u64 .u64 f f' Tryd.underlying24)]
  cases a == a' <;> cases b == b' <;> cases c == c' <;> cases e == e' <;> cases f == f' <;> simp [Op.eqFields]
theorem same_ef (a b c e f a' b' c' e' f' : Int) (w : World) : (Op.equalIn 10000 27 (.agg #[.int .i64 a, .int .i64 b, .int .i64 c, .int .u64 e, .int .u64 f]) (.agg #[.int .i64 a', .int .i64 b', .int .i64 c', .int .u64 e', .int .u64 f'])).run Tryd.prog w = .ok (decide ((a, b, c, e, f) = (a', b', c', e', f'))) w := by
  rw [show (10000 : Nat) = 9997 + 3 from rfl, same_ef']
  congr 1
  by_cases h1 : a = a' <;> by_cases h2 : b = b' <;> by_cases h3 : c = c' <;> by_cases h4 : e = e' <;> by_cases h5 : f = f' <;> simp [h1, h2, h3, h4, h5]
set_option maxRecDepth 100000 in
theorem same_in' (a b c e f a' b' c' e' f' : Int) (d : Nat) (w : World) : (Op.equalIn (d + 3) 23 (.agg #[.int .i64 a, .int .i64 b, .int .i64 c, .int .i64 e, .int .i64 f]) (.agg #[.int .i64 a', .int .i64 b', .int .i64 c', .int .i64 e', .int .i64 f'])).run Tryd.prog w = .ok (a == a' && (b == b' && (c == c' && (e == e' && f == f')))) w := by
  rw [run_equalIn_agg w (d + 2) 23 _ _ (by kernel_rfl) Tryd.stoodInHeld23]
  rw [show (Tryd.prog.fieldsOf 23).toList = [{ name := "Op", type := 3, offset := 0, embedded := false, tag := "", pkgPath := "", byteOffset := 0 }, { name := "A", type := 3, offset := 1, embedded := false, tag := "", pkgPath := "", byteOffset := 8 }, { name := "B", type := 3, offset := 2, embedded := false, tag := "", pkgPath := "", byteOffset := 16 },
        { name := "C", type := 3, offset := 3, embedded := false, tag := "", pkgPath := "", byteOffset := 24 }, { name := "Imm", type := 3, offset := 4, embedded := false, tag := "", pkgPath := "", byteOffset := 32 }] from by kernel_rfl]
  rw [eqf_step (d + 2) _ _ _ _ (.int .i64 a) (.int .i64 a') (a == a') w (by simp) (by kernel_rfl) (by kernel_rfl) (run_equalIn_int w (d + 1) 3 .i64 .i64 a a' Tryd.underlying3),
    eqf_step (d + 2) _ _ _ _ (.int .i64 b) (.int .i64 b') (b == b') w (by simp) (by kernel_rfl) (by kernel_rfl) (run_equalIn_int w (d + 1) 3 .i64 .i64 b b' Tryd.underlying3),
    eqf_step (d + 2) _ _ _ _ (.int .i64 c) (.int .i64 c') (c == c') w (by simp) (by kernel_rfl) (by kernel_rfl) (run_equalIn_int w (d + 1) 3 .i64 .i64 c c' Tryd.underlying3),
    eqf_step (d + 2) _ _ _ _ (.int .i64 e) (.int .i64 e') (e == e') w (by simp) (by kernel_rfl) (by kernel_rfl) (run_equalIn_int w (d + 1) 3 .i64 .i64 e e' Tryd.underlying3),
    eqf_step (d + 2) _ _ _ _ (.int .i64 f) (.int .i64 f') (f == f') w (by simp) (by kernel_rfl) (by kernel_rfl) (run_equalIn_int w (d + 1) 3 .i64 .i64 f f' Tryd.underlying3)]
  cases a == a' <;> cases b == b' <;> cases c == c' <;> cases e == e' <;> cases f == f' <;> simp [Op.eqFields]
theorem same_in (i j : In) (w : World) : (Op.equalIn 10000 23 (.agg #[.int .i64 i.op, .int .i64 i.a, .int .i64 i.b, .int .i64 i.c, .int .i64 i.imm]) (.agg #[.int .i64 j.op, .int .i64 j.a, .int .i64 j.b, .int .i64 j.c, .int .i64 j.imm])).run Tryd.prog w = .ok (decide (i = j)) w := by
  obtain ⟨a, b, c, e, f⟩ := i
  obtain ⟨a', b', c', e', f'⟩ := j
  rw [show (10000 : Nat) = 9997 + 3 from rfl, same_in']
  congr 1
  by_cases h1 : a = a' <;> by_cases h2 : b = b' <;> by_cases h3 : c = c' <;> by_cases h4 : e = e' <;> by_cases h5 : f = f' <;> simp [h1, h2, h3, h4, h5]

theorem RowM.of_owns {w : World} {B n : Nat} {v : Value} {xs : List Value} (h : w.ownsRow B 5 1 v n xs) (hn : 0 < n) : RowM w B v n xs := by
  obtain ⟨h0, ⟨rfl, h1⟩ | ⟨g, cap, cur, h1, h2, h3, h4, h5, h6, h7⟩⟩ := h
  · omega
  · exact ⟨by omega, g, cap, cur, (0, 0), h1, h2, h3, fun _ _ => .inr (Nat.zero_le _), h4, h5, by omega, by rw [← h7, Nat.mul_one]⟩

/-- What the laws stand on: the tables, in each later world. -/
structure Std (w : World) : Prop where
  forms : FormsAt w
  errs : ErrsBelow w
  tab : Lib.TabBelow Tryd.prog w.heap.size w "internal/strconv.uint64pow10" .u64 Lib.pow10Tab
theorem Std.below {w w' : World} (h : Std w) (hb : Below w.heap.size w w') : Std w' := ⟨h.forms.below hb, fun w2 h2 => h.errs w2 (hb.trans (h2.mono hb.size)), fun w2 h2 => h.tab w2 (hb.trans (h2.mono hb.size))⟩
theorem parse_std (l : List UInt8) (hl : l.length ≤ 1000000) {w : World} (h : Std w) : Calls Tryd.prog 14 #[.string ⟨l.toArray⟩] w fun e w' => e = .returned (parseVal (parseP l)) ∧ Below w.heap.size w w' := parse_any l hl w h.forms h.errs h.tab
theorem text_std (i : In) (hi : i.Ok) {w : World} (h : Std w) : Calls Tryd.prog 16 #[i.val] w fun e w' => e = .returned (.string ⟨(textP i).toArray⟩) ∧ Below w.heap.size w w' := text_any i w h.forms hi h.tab

/-- The example's instruction. -/
def add012 : In := ⟨4, 0, 1, 2, 0⟩
theorem text_add : textP add012 = [97, 100, 100, 32, 48, 32, 49, 32, 50] := by
  have h0 : Lib.itoa 0 = [48] := by rw [Lib.itoa, if_neg (by omega), Lib.decDigits]; rfl
  have h1 : Lib.itoa 1 = [49] := by rw [Lib.itoa, if_neg (by omega), Lib.decDigits]; rfl
  have h2 : Lib.itoa 2 = [50] := by rw [Lib.itoa, if_neg (by omega), Lib.decDigits]; rfl
  have hf : formP add012 = 4 := by decide
  have hp : placesP (mask 4) = [1, 2, 3] := by decide
  unfold textP
  rw [hf, hp]
  simp only [textNums, List.flatMap_cons, List.flatMap_nil, add012, In.get, h0, h1, h2]
  rfl
theorem parse_add : parseP [97, 100, 100, 32, 48, 32, 49, 32, 50] = some add012 := by
  rw [← text_add]
  exact parse_text add012 ⟨⟨by simp [add012], by simp [add012]⟩, ⟨by simp [add012], by simp [add012]⟩, ⟨by simp [add012], by simp [add012]⟩, ⟨by simp [add012], by simp [add012]⟩, ⟨by simp [add012], by simp [add012]⟩⟩
theorem enc_set : encP [⟨2, 3, 0, 0, -2⟩] = some [2, 3, 0, 0, 255, 255, 255, 254] := by decide

end Go.Proofs.YtfeemchdhbimhaaDoor
