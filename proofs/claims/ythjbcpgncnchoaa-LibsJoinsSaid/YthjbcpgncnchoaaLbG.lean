/- A writer: wide, look, take. Conditions: those stated in each theorem. -/
import Derived.Test.YthjbcpgncnchoaaLbF
namespace Go.Proofs.Ythjbcpgncnchoaa
open Go.RowKit Go.BigFrame

/-- A function's value that is entered with all its arguments. -/
theorem run_callV {P : Program} {a : Act} {w : World} {o : Oper} {t : Tmp} {xs : Array Operand} {ts : Array TypeId} {g : FuncId} {fs cs : Array Value} (hop : o.op = .call { callee := .value (.tmp t), args := xs, argTypes := ts })
    (hf : a.eval (.tmp t) = .func (.func g) fs cs) (hen : ∀ (args : Array Value) (w : World), (callFunc g args).run P w = .ok (.enter g args) w) : (execOp a.eval o).run P w = .ok (.enter g (fs ++ xs.map a.eval ++ cs)) w := by
  simp [execOp, hop, resolve, hf, Deferred.ofValue, invoke, hen]
theorem wpList_callV {P : Program} {ops : Array Oper} {rest : List Oper} {o : Oper} {a : Act} {w : World} {Q : Exit → Act → World → Prop} {R : World → Prop} {v : Value} (hg : o.guard = none) {t : Tmp} {xs : Array Operand} {ts : Array TypeId} (hop : o.op = .call { callee := .value (.tmp t), args := xs, argTypes := ts })
    {g : FuncId} {fs cs : Array Value} (hf : a.eval (.tmp t) = .func (.func g) fs cs) (hen : ∀ (args : Array Value) (w : World), (callFunc g args).run P w = .ok (.enter g args) w)
    (A : Array Value) (hA : fs ++ xs.map a.eval ++ cs = A)
    (hc : Calls P g A w fun e w' => e = .returned v ∧ R w')
    (h : ∀ w', R w' → wpList P ops Q rest (a.put o.dst v) w') : wpList P ops Q (o :: rest) a w := by
  subst hA
  refine wpList_plain hg fun K hK => ?_
  unfold Oper.wp
  rw [run_callV hop hf hen, Oper.upon_enter]
  refine hc.mono fun e w'' hh => ?_
  obtain ⟨rfl, hr⟩ := hh
  exact hK _ _ (h _ hr)
def En (g : FuncId) : Prop := ∀ (args : Array Value) (w : World), (callFunc g args).run Try.prog w = .ok (.enter g args) w
theorem hmf_any : ∀ (fn : Fn) (first cap : Array Value) (w : World), (Instr.makeFunc fn first cap).run Try.prog w = .ok (.func fn first cap) w := fun _ _ _ _ => rfl

section
variable {w w0 : World} {B N b : Nat} {P : Pl} {x : WV}
@[reducible] def lowP (v : Int) : Int := wrap64 (wrap32 v)
@[reducible] def highP (v : Int) : Int := wrap64 (wrap32 (IntKind.u64.wrap (v - IntKind.u64.wrap (lowP v)) / 4294967296))
def WV.wide (x : WV) (a v : Int) : WV := if IntKind.u64.wrap (lowP v) == v then x.set a (lowP v) else ((((x.set a (highP v)).set 6 32).add ⟨9, a, a, 6, 0⟩).set 6 (lowP v)).sum a a 6
set_option maxRecDepth 100000 in
set_option maxHeartbeats 2000000 in
theorem wide_any (h : WO B P N w0 w b x) (a v : Int) (hv : 0 ≤ v ∧ v < 18446744073709551616) (hN : N ≤ 80000) : Calls Try.prog 67 #[.pointer (some ⟨b, 0, none⟩), .int .i64 a, .int .u64 v] w fun e w' => e = .returned (.tuple #[]) ∧ WO B P (N + 5) w0 w' b (x.wide a v) := by
  have H := Lib.hid h; clear h
  have HN := Lib.hid hN; clear hN
  have hx : x.wide a v = if IntKind.u64.wrap (wrap64 (wrap32 v)) == v then x.set a (lowP v) else ((((x.set a (highP v)).set 6 32).add ⟨9, a, a, 6, 0⟩).set 6 (lowP v)).sum a a 6 := rfl
  cases hc : (IntKind.u64.wrap (wrap64 (wrap32 v)) == v) with
  | true =>
    rw [hc, if_pos rfl] at hx
    rw [hx]; clear hx
    go_enter Try.func67, Try.ntmps67
    go_wp2_with (go_at_call 72; (with_reducible refine (set_any H.out a (lowP v) (by have := HN.out; omega)).mono ?_); rintro e w1 ⟨rfl, h⟩; have H := Lib.hid h; clear h)
    exact ⟨rfl, .tuple #[], (by simp [results, Try.results67, go_sem]), rfl, H.out.more (by omega)⟩
  | false =>
    rw [hc, if_neg (by simp)] at hx
    rw [hx]; clear hx
    go_enter Try.func67, Try.ntmps67
    go_wp2_with (first | (go_at_call 72; (with_reducible refine (set_any H.out a (highP v) (by have := HN.out; omega)).mono ?_); rintro e w1 ⟨rfl, h⟩; have H := Lib.hid h; clear h) | (go_at_call 72; (with_reducible refine (set_any H.out 6 32 (by have := HN.out; omega)).mono ?_); rintro e w1 ⟨rfl, h⟩; have H := Lib.hid h; clear h) | (go_at_call 102; (with_reducible refine (add_lit H.out 9 a a 6 0 (by have := HN.out; omega)).mono ?_); rintro e w1 ⟨rfl, h⟩; have H := Lib.hid h; clear h) | (go_at_call 72; (with_reducible refine (set_any H.out 6 (lowP v) (by have := HN.out; omega)).mono ?_); rintro e w1 ⟨rfl, h⟩; have H := Lib.hid h; clear h) | (go_at_call 75; (with_reducible refine (sum_any H.out a a 6 (by have := HN.out; omega)).mono ?_); rintro e w1 ⟨rfl, h⟩; have H := Lib.hid h; clear h))
    exact ⟨rfl, .tuple #[], (by simp [results, Try.results67, go_sem]), rfl, H.out.more (by omega)⟩

/-- A function's value: what it does to the writer. -/
structure Cl (B : Nat) (P : Pl) (w0 : World) (b bd k : Nat) (F : WV → WV) (g : FuncId) (A : Array Value) : Prop where
  en : En g
  does : ∀ (W : World) (M : Nat) (y : WV), WO B P M w0 W b y → M ≤ bd → Calls Try.prog g A W fun e w' => e = .returned (.tuple #[]) ∧ WO B P (M + k) w0 w' b (F y)
def WV.look (x : WV) (P : Pl) (F : WV → WV) (s : Nm) : WV := ((F (((((x.name nLook).load 5 4 0).eq 5 0 s).load 6 5 P.keyAt).eq 6 3 nFound)).jump nLook).name nFound
set_option maxRecDepth 100000 in
set_option maxHeartbeats 2000000 in
theorem look_any (h : WO B P N w0 w b x) (hP : P.Ok) {F : WV → WV} {k : Nat} {g : FuncId} {fs cs A : Array Value} (hA : fs ++ #[] ++ cs = A) (hF : Cl B P w0 b 70000 k F g A) (hk : k ≤ 100) (s : Nm) (hN : N ≤ 60000) : Calls Try.prog 83 #[.pointer (some ⟨b, 0, none⟩), .func (.func g) fs cs, s.val] w fun e w' => e = .returned (.tuple #[]) ∧ WO B P (N + (k + 10)) w0 w' b (x.look P F s) := by
  obtain ⟨q0, q1, q2, q3⟩ := h.pool
  have H := Lib.hid h; clear h
  have HN := Lib.hid hN; clear hN
  have HF := Lib.hid hF; clear hF
  have HA := Lib.hid hA; clear hA
  have Hk := Lib.hid hk; clear hk
  have hs : s.val = .string ⟨s.toArray⟩ := rfl
  go_enter Try.func83, Try.ntmps83
  go_wp2_with (first | (go_at_call 89; (with_reducible refine (keyAt_any P hP _).mono ?_); rintro e w1 ⟨rfl, hb⟩; have h := H.out.idle (below_box hb); (try clear q0 q1 q2 q3); obtain ⟨q0, q1, q2, q3⟩ := h.pool; have H := Lib.hid h; clear h hb) | (go_at_call 86; (with_reducible refine (name_any H.out nLook (by decide) (by have := HN.out; have := Hk.out; omega)).mono ?_); rintro e w1 ⟨rfl, h⟩; (try clear q0 q1 q2 q3); obtain ⟨q0, q1, q2, q3⟩ := h.pool; have H := Lib.hid h; clear h) | (go_at_call 70; (with_reducible refine (load_any H.out 5 4 0 (by have := HN.out; have := Hk.out; omega)).mono ?_); rintro e w1 ⟨rfl, h⟩; (try clear q0 q1 q2 q3); obtain ⟨q0, q1, q2, q3⟩ := h.pool; have H := Lib.hid h; clear h) | (go_at_call 73; (with_reducible refine (eq_any H.out 5 0 s (by have := HN.out; have := Hk.out; omega)).mono ?_); rintro e w1 ⟨rfl, h⟩; (try clear q0 q1 q2 q3); obtain ⟨q0, q1, q2, q3⟩ := h.pool; have H := Lib.hid h; clear h) | (go_at_call 70; (with_reducible refine (load_any H.out 6 5 P.keyAt (by have := HN.out; have := Hk.out; omega)).mono ?_); rintro e w1 ⟨rfl, h⟩; (try clear q0 q1 q2 q3); obtain ⟨q0, q1, q2, q3⟩ := h.pool; have H := Lib.hid h; clear h) | (go_at_call 73; (with_reducible refine (eq_any H.out 6 3 nFound (by have := HN.out; have := Hk.out; omega)).mono ?_); rintro e w1 ⟨rfl, h⟩; (try clear q0 q1 q2 q3); obtain ⟨q0, q1, q2, q3⟩ := h.pool; have H := Lib.hid h; clear h) | (go_at_call 85; (with_reducible refine (jump_any H.out nLook (by have := HN.out; have := Hk.out; omega)).mono ?_); rintro e w1 ⟨rfl, h⟩; (try clear q0 q1 q2 q3); obtain ⟨q0, q1, q2, q3⟩ := h.pool; have H := Lib.hid h; clear h) | (go_at_call 86; (with_reducible refine (name_any H.out nFound (by decide) (by have := HN.out; have := Hk.out; omega)).mono ?_); rintro e w1 ⟨rfl, h⟩; (try clear q0 q1 q2 q3); obtain ⟨q0, q1, q2, q3⟩ := h.pool; have H := Lib.hid h; clear h) | (refine wpList_callV rfl (by rfl) (by rfl) HF.out.en _ (by simpa using HA.out) (HF.out.does _ _ _ H.out (by have := HN.out; omega)) ?_; intro w' hR; (try clear q0 q1 q2 q3); obtain ⟨q0, q1, q2, q3⟩ := hR.pool; have H := Lib.hid hR; clear hR))
  exact ⟨rfl, .tuple #[], (by simp [results, Try.results83, go_sem]), rfl, H.out.more (by omega)⟩
end

end Go.Proofs.Ythjbcpgncnchoaa
