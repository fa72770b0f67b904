/- Two pairs are equal just if both of their parts are. No conditions. -/
import Derived.Test.YthepmejfgbfilaaB0
namespace Go.Proofs.Ythepmejfgbfilaa
open Go.RowKit Go.BigFrame

theorem eqFields_stepP (d : Nat) (f : Field) (fs : List Field) (xs ys : Array Value) (a b : Value) (r : Bool) (w : World) (hn : f.name ≠ "_") (h1 : (part f.type xs f.offset).run Try.prog w = .ok a w) (h2 : (part f.type ys f.offset).run Try.prog w = .ok b w) (h3 : (Op.equalIn d f.type a b).run Try.prog w = .ok r w) :
    (Op.eqFields d xs ys (f :: fs)).run Try.prog w = if r then (Op.eqFields d xs ys fs).run Try.prog w else .ok false w := by
  simp only [Op.eqFields, if_pos hn, Sem.run_bind, h1, h2, h3, Result.andThen_ok]
  cases r <;> simp
set_option maxRecDepth 100000 in
theorem eq_pair' (a b c e : Int) (d : Nat) (w : World) : (Op.equalIn (d + 3) 84 (.agg #[.int .i64 a, .int .u64 b]) (.agg #[.int .i64 c, .int .u64 e])).run Try.prog w = .ok (a == c && b == e) w := by
  rw [run_equalIn_agg w (d + 2) 84 _ _ (by kernel_rfl) Try.stoodInHeld84]
  rw [show (Try.prog.fieldsOf 84).toList = [{ name := "Addr", type := 3, offset := 0, embedded := false, tag := "", pkgPath := "", byteOffset := 0 },
        { name := "Value", type := 26, offset := 1, embedded := false, tag := "", pkgPath := "", byteOffset := 8 }] from by kernel_rfl]
  rw [eqFields_stepP (d + 2) _ _ _ _ (.int .i64 a) (.int .i64 c) (a == c) w (by simp) (by kernel_rfl) (by kernel_rfl) (run_equalIn_int w (d + 1) 3 .i64 .i64 a c Try.underlying3),
    eqFields_stepP (d + 2) _ _ _ _ (.int .u64 b) (.int .u64 e) (b == e) w (by simp) (by kernel_rfl) (by kernel_rfl) (run_equalIn_int w (d + 1) 26 .u64 .u64 b e Try.underlying26)]
  cases a == c <;> cases b == e <;> simp [Op.eqFields]
@[go_sem ↓ high] theorem eq_pair (a b c e : Int) (w : World) : (Op.equalIn 10000 84 (.agg #[.int .i64 a, .int .u64 b]) (.agg #[.int .i64 c, .int .u64 e])).run Try.prog w = .ok (a == c && b == e) w := eq_pair' a b c e 9997 w

end Go.Proofs.Ythepmejfgbfilaa
