/- Two lists of instructions that are one list are the same. Conditions: those stated in each theorem. -/
import Derived.Test.YthjbcpgncnchoaaIsaP
import Derived.Test.YthjbcpgncnchoaaCame
import Derived.Laws.IdiomStrings
import Derived.Laws.BytesArg
namespace Go.Proofs.Ythjbcpgncnchoaa
open Go.RowKit Go.BigFrame

theorem eqFieldsI_step (d : Nat) (f : Field) (fs : List Field) (xs ys : Array Value) (a b : Value) (r : Bool) (w : World) (hn : f.name ≠ "_") (h1 : (part f.type xs f.offset).run Try.prog w = .ok a w) (h2 : (part f.type ys f.offset).run Try.prog w = .ok b w) (h3 : (Op.equalIn d f.type a b).run Try.prog w = .ok r w) :
    (Op.eqFields d xs ys (f :: fs)).run Try.prog w = if r then (Op.eqFields d xs ys fs).run Try.prog w else .ok false w := by
  simp only [Op.eqFields, if_pos hn, Sem.run_bind, h1, h2, h3, Result.andThen_ok]
  cases r <;> simp
set_option maxRecDepth 100000 in
theorem eq_in' (a b c e f a' b' c' e' f' : Int) (d : Nat) (w : World) : (Op.equalIn (d + 3) 40 (.agg #[.int .i64 a, .int .i64 b, .int .i64 c, .int .i64 e, .int .i64 f]) (.agg #[.int .i64 a', .int .i64 b', .int .i64 c', .int .i64 e', .int .i64 f'])).run Try.prog w = .ok (a == a' && (b == b' && (c == c' && (e == e' && f == f')))) w := by
  rw [run_equalIn_agg w (d + 2) 40 _ _ (by kernel_rfl) Try.stoodInHeld40]
  rw [show (Try.prog.fieldsOf 40).toList = [{ name := "Op", type := 3, offset := 0, embedded := false, tag := "", pkgPath := "", byteOffset := 0 }, { name := "A", type := 3, offset := 1, embedded := false, tag := "", pkgPath := "", byteOffset := 8 }, { name := "B", type := 3, offset := 2, embedded := false, tag := "", pkgPath := "", byteOffset := 16 },
        { name := "C", type := 3, offset := 3, embedded := false, tag := "", pkgPath := "", byteOffset := 24 }, { name := "Imm", type := 3, offset := 4, embedded := false, tag := "", pkgPath := "", byteOffset := 32 }] from by kernel_rfl]
  rw [eqFieldsI_step (d + 2) _ _ _ _ (.int .i64 a) (.int .i64 a') (a == a') w (by simp) (by kernel_rfl) (by kernel_rfl) (run_equalIn_int w (d + 1) 3 .i64 .i64 a a' Try.underlying3),
    eqFieldsI_step (d + 2) _ _ _ _ (.int .i64 b) (.int .i64 b') (b == b') w (by simp) (by kernel_rfl) (by kernel_rfl) (run_equalIn_int w (d + 1) 3 .i64 .i64 b b' Try.underlying3),
    eqFieldsI_step (d + 2) _ _ _ _ (.int .i64 c) (.int .i64 c') (c == c') w (by simp) (by kernel_rfl) (by kernel_rfl) (run_equalIn_int w (d + 1) 3 .i64 .i64 c c' Try.underlying3),
    eqFieldsI_step (d + 2) _ _ _ _ (.int .i64 e) (.int .i64 e') (e == e') w (by simp) (by kernel_rfl) (by kernel_rfl) (run_equalIn_int w (d + 1) 3 .i64 .i64 e e' Try.underlying3),
    eqFieldsI_step (d + 2) _ _ _ _ (.int .i64 f) (.int .i64 f') (f == f') w (by simp) (by kernel_rfl) (by kernel_rfl) (run_equalIn_int w (d + 1) 3 .i64 .i64 f f' Try.underlying3)]
  cases a == a' <;> cases b == b' <;> cases c == c' <;> cases e == e' <;> cases f == f' <;> simp [Op.eqFields]
theorem eq_in (a b c e f a' b' c' e' f' : Int) (w : World) : (Op.equalIn 10000 40 (.agg #[.int .i64 a, .int .i64 b, .int .i64 c, .int .i64 e, .int .i64 f]) (.agg #[.int .i64 a', .int .i64 b', .int .i64 c', .int .i64 e', .int .i64 f'])).run Try.prog w = .ok (a == a' && (b == b' && (c == c' && (e == e' && f == f')))) w := eq_in' a b c e f a' b' c' e' f' 9997 w
@[local go_sem ↓ high] theorem eq_inv (a b c e f : Int) (w : World) : (Op.equalIn 10000 40 (.agg #[.int .i64 a, .int .i64 b, .int .i64 c, .int .i64 e, .int .i64 f]) (.agg #[.int .i64 a, .int .i64 b, .int .i64 c, .int .i64 e, .int .i64 f])).run Try.prog w = .ok true w := by
  rw [eq_in]; simp

set_option maxRecDepth 100000 in
set_option maxHeartbeats 1000000 in
theorem same_yes (a b : Option Addr) (ca cb : Nat) (l : List In) (w : World) (ha : RowsIn w a 5 In.cells l) (hb : RowsIn w b 5 In.cells l) (hl : l.length ≤ 1000000) :
    Calls Try.prog 19 #[.slice a l.length ca, .slice b l.length cb] w fun e w' => e = .returned (.bool true) ∧ Below w.heap.size w w' := by
  have Ha := Lib.hid ha; clear ha
  have Hb := Lib.hid hb; clear hb
  go_enter Try.func19, Try.ntmps19
  go_wp2_with fail
  go_loopw [5] (fun i wr => ∃ k : Nat, k ≤ l.length ∧ i = .int .i64 k ∧ Below w.heap.size w wr) (fun i _ => l.length - (intOf i).toNat)
  case atStart => exact ⟨0, by omega, by simp, Below.refl _ _⟩
  case round =>
    obtain ⟨k, hk, rfl, hbw⟩ := hrel
    have Hbw := Lib.hid hbw; clear hbw
    by_cases hlt : k < l.length
    · obtain ⟨x, hx⟩ : ∃ x, l[k]? = some x := ⟨l[k], List.getElem?_eq_getElem hlt⟩
      obtain ⟨q, c, rfl, hq, hr1⟩ := (Ha.out.below Hbw.out).row hx
      obtain ⟨p, d, rfl, hp, hr2⟩ := (Hb.out.below Hbw.out).row hx
      obtain ⟨op, xa, xb, xc, imm⟩ := x
      have hbk : (0 : Int) ≤ k ∧ (k : Int) < l.length := by omega
      have r0 : wr.cell? ⟨q, c + k * 5, none⟩ = some (.int .i64 op) := hr1 0 _ rfl
      have r1 : wr.cell? ⟨q, c + k * 5 + 1, none⟩ = some (.int .i64 xa) := hr1 1 _ rfl
      have r2 : wr.cell? ⟨q, c + k * 5 + 2, none⟩ = some (.int .i64 xb) := hr1 2 _ rfl
      have r3 : wr.cell? ⟨q, c + k * 5 + 3, none⟩ = some (.int .i64 xc) := hr1 3 _ rfl
      have r4 : wr.cell? ⟨q, c + k * 5 + 4, none⟩ = some (.int .i64 imm) := hr1 4 _ rfl
      have s0 : wr.cell? ⟨p, d + k * 5, none⟩ = some (.int .i64 op) := hr2 0 _ rfl
      have s1 : wr.cell? ⟨p, d + k * 5 + 1, none⟩ = some (.int .i64 xa) := hr2 1 _ rfl
      have s2 : wr.cell? ⟨p, d + k * 5 + 2, none⟩ = some (.int .i64 xb) := hr2 2 _ rfl
      have s3 : wr.cell? ⟨p, d + k * 5 + 3, none⟩ = some (.int .i64 xc) := hr2 3 _ rfl
      have s4 : wr.cell? ⟨p, d + k * 5 + 4, none⟩ = some (.int .i64 imm) := hr2 4 _ rfl
      clear hr1 hr2 hx
      go_wp2_with fail
      go_quiet (fail)
      go_wp2
      go_roundw
      case rel => exact ⟨k + 1, by omega, by simp, below_drewN Hbw.out _⟩
      case measure => simp [intOf]; omega
    · obtain rfl : k = l.length := by omega
      go_wp2
      go_ret
      exact ⟨rfl, Hbw.out⟩

end Go.Proofs.Ythjbcpgncnchoaa
