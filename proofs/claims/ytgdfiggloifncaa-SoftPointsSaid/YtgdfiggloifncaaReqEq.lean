/- Two requests are equal just if all of their parts are. No conditions. -/
import Derived.Test.YtgdfiggloifncaaB0
namespace Go.Proofs.Ytgdfiggloifncaa
open Go.RowKit Go.BigFrame

theorem eqFields_step (d : Nat) (f : Field) (fs : List Field) (xs ys : Array Value) (a b : Value) (r : Bool) (w : World) (hn : f.name ≠ "_") (h1 : (part f.type xs f.offset).run Try.prog w = .ok a w) (h2 : (part f.type ys f.offset).run Try.prog w = .ok b w) (h3 : (Op.equalIn d f.type a b).run Try.prog w = .ok r w) :
    (Op.eqFields d xs ys (f :: fs)).run Try.prog w = if r then (Op.eqFields d xs ys fs).run Try.prog w else .ok false w := by
  simp only [Op.eqFields, if_pos hn, Sem.run_bind, h1, h2, h3, Result.andThen_ok]
  cases r <;> simp
set_option maxRecDepth 100000 in
theorem eq_req' (a b e f a' b' e' f' : Int) (d : Nat) (w : World) : (Op.equalIn (d + 3) 48 (.agg #[.int .i64 a, .int .i64 b, .int .u64 e, .int .u64 f]) (.agg #[.int .i64 a', .int .i64 b', .int .u64 e', .int .u64 f'])).run Try.prog w = .ok (a == a' && (b == b' && (e == e' && f == f'))) w := by
  rw [run_equalIn_agg w (d + 2) 48 _ _ (by kernel_rfl) Try.stoodInHeld48]
  rw [show (Try.prog.fieldsOf 48).toList = [{ name := "Op", type := 3, offset := 0, embedded := false, tag := "", pkgPath := "", byteOffset := 0 }, { name := "Addr", type := 3, offset := 1, embedded := false, tag := "", pkgPath := "", byteOffset := 8 },
        { name := "Value", type := 26, offset := 2, embedded := false, tag := "", pkgPath := "", byteOffset := 16 }, { name := "Old", type := 26, offset := 3, embedded := false, tag := "", pkgPath := "", byteOffset := 24 }] from by kernel_rfl]
  rw [eqFields_step (d + 2) _ _ _ _ (.int .i64 a) (.int .i64 a') (a == a') w (by simp) (by kernel_rfl) (by kernel_rfl) (run_equalIn_int w (d + 1) 3 .i64 .i64 a a' Try.underlying3),
    eqFields_step (d + 2) _ _ _ _ (.int .i64 b) (.int .i64 b') (b == b') w (by simp) (by kernel_rfl) (by kernel_rfl) (run_equalIn_int w (d + 1) 3 .i64 .i64 b b' Try.underlying3),
    eqFields_step (d + 2) _ _ _ _ (.int .u64 e) (.int .u64 e') (e == e') w (by simp) (by kernel_rfl) (by kernel_rfl) (run_equalIn_int w (d + 1) 26 .u64 .u64 e e' Try.underlying26),
    eqFields_step (d + 2) _ _ _ _ (.int .u64 f) (.int .u64 f') (f == f') w (by simp) (by kernel_rfl) (by kernel_rfl) (run_equalIn_int w (d + 1) 26 .u64 .u64 f f' Try.underlying26)]
  cases a == a' <;> cases b == b' <;> cases e == e' <;> cases f == f' <;> simp [Op.eqFields]
@[go_sem ↓ high] theorem eq_req (a b e f a' b' e' f' : Int) (w : World) : (Op.equalIn 10000 48 (.agg #[.int .i64 a, .int .i64 b, .int .u64 e, .int .u64 f]) (.agg #[.int .i64 a', .int .i64 b', .int .u64 e', .int .u64 f'])).run Try.prog w = .ok (a == a' && (b == b' && (e == e' && f == f'))) w := eq_req' a b e f a' b' e' f' 9997 w

end Go.Proofs.Ytgdfiggloifncaa
