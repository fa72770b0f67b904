/- A path: ask, load, store, cas. Conditions: those stated in each theorem. -/
import Derived.Test.YtgdfiggloifncaaLogP
import Derived.Test.YtgdfiggloifncaaOwn0
import Derived.Lib.Builder
namespace Go.Proofs.Ytgdfiggloifncaa
open Go.RowKit Go.BigFrame

/-- A path's words. -/
structure PW where
  snap : Int
  val : Int
  pts : Int
  live : Bool
  writing : Bool
  ended : Int
  op : Int
  addr : Int
  value : Int
  old : Int
deriving DecidableEq
def PW.cells (p lg : Nat) (x : PW) (b : Value) : List Value := [.pointer (some ⟨p, 0, none⟩), .pointer (some ⟨lg, 0, none⟩), .int .u64 x.snap, .int .u64 x.val, .int .i64 x.pts, .bool x.live, .bool x.writing, .int .i64 x.ended, .int .i64 x.op, .int .i64 x.addr, .int .u64 x.value, .int .u64 x.old, b]
def PW.ask (x : PW) (op addr value old : Int) : PW := { x with op := op, addr := addr, value := value, old := old }
/-- Where a path's block stands. -/
def PB (w : World) (p lg : Nat) (x : PW) (b : Value) : Prop := Holds w p 57 (x.cells p lg b)
/-- What a call leaves that turns the path's block alone. -/
def PO (w w' : World) (p lg : Nat) (x : PW) (b : Value) : Prop := PB w' p lg x b ∧ Tch (· = p) w w'
/-- A box of one value, in N. -/
def Bx (w : World) (N : Nat → Prop) (b : Nat) (u : Value) : Prop := w.cell? ⟨b, 0, none⟩ = some u ∧ N b
/-- And what is new. -/
def Nw (N : Nat → Prop) (w : World) (k : Nat) : Prop := N k ∨ w.heap.size ≤ k

section
variable {w w' : World} {N M : Nat → Prop} {p lg b : Nat} {x : PW} {u v : Value} {R : World → Prop}
theorem Bx.lt (h : Bx w N b u) : b < w.heap.size := World.block_lt_of_cell? _ _ h.1
theorem Bx.frame {C : Nat → Prop} (h : Bx w N b u) (ht : Tch C w w') (hC : ∀ k, N k → k < w.heap.size → ¬ C k ∧ M k) : Bx w' M b u :=
  ⟨(World.cell?_of_block (a := ⟨b, 0, none⟩) (ht.block b h.lt (hC b h.2 h.lt).1)).trans h.1, (hC b h.2 h.lt).2⟩
theorem PB.lt (h : PB w p lg x v) : p < w.heap.size := Holds.lt h
theorem Bx.new (w : World) (t : TypeId) (N : Nat → Prop) (u : Value) (h : N w.heap.size) : Bx (w.alloc (.cells #[u] t)) N w.heap.size u := ⟨(Holds.new w t [u]).cell (i := 0) rfl, h⟩

theorem run_store_func {P : Program} {w : World} {a : Addr} {m : Mode} (fn : Fn) (fs cs : Array Value) : (store a (.func fn fs cs) m).run P w = stored P w a (.func fn fs cs) m := run_store P w a _ m rfl
attribute [local go_sem] run_store_func
theorem Try.sizeReq : (Try.prog.info? 48).map (·.size) = some 4 := by kernel_rfl

set_option maxHeartbeats 400000 in
theorem ask_any (h : PB w p lg x v) (op addr value old : Int) (fn : Fn) (fs cs : Array Value) :
    Calls Try.prog 88 #[.pointer (some ⟨p, 0, none⟩), .agg #[.int .i64 op, .int .i64 addr, .int .u64 value, .int .u64 old], .func fn fs cs] w fun e w' => e = .returned (.tuple #[]) ∧ PO w w' p lg (x.ask op addr value old) (.func fn fs cs) := by
  have hlt := h.lt
  have H := Lib.hid h
  have c8 := Holds.cell h (i := 8) rfl
  have f8 := Holds.free h 8
  have c9 := Holds.cell h (i := 9) rfl
  have f9 := Holds.free h 9
  have c10 := Holds.cell h (i := 10) rfl
  have f10 := Holds.free h 10
  have c11 := Holds.cell h (i := 11) rfl
  have f11 := Holds.free h 11
  have c12 := Holds.cell h (i := 12) rfl
  have f12 := Holds.free h 12
  clear h
  go_enter Try.func88, Try.ntmps88
  go_wp2
  refine ⟨rfl, .tuple #[], (by simp [results, Try.results88, go_sem]), rfl, ?_, ?_⟩
  · exact ((((((H.out.set 8 (.int .i64 op)).set 9 (.int .i64 addr)).set 10 (.int .u64 value)).set 11 (.int .u64 old)).set 12 (.func fn fs cs)).alloc _)
  · exact ((((((Tch.refl (· = p) w).setCell (p := ⟨p, 8, none⟩) (.inl rfl) _).setCell (p := ⟨p, 9, none⟩) (.inl rfl) _).setCell (p := ⟨p, 10, none⟩) (.inl rfl) _).setCell (p := ⟨p, 11, none⟩) (.inl rfl) _).setCell (p := ⟨p, 12, none⟩) (.inl rfl) _).alloc _

/-- What is new. -/
def Fr (w : World) (k : Nat) : Prop := w.heap.size ≤ k

set_option maxHeartbeats 400000 in
theorem load_any (h : PB w p lg x v) (a : Int) (fn : Fn) (fs cs : Array Value) :
    Calls Try.prog 67 #[.pointer (some ⟨p, 0, none⟩), .int .i64 a, .func fn fs cs] w fun e w' => e = .returned (.tuple #[]) ∧ ∃ b, PO w w' p lg (x.ask 1 a 0 0) (.func (.func 89) #[] #[.pointer (some ⟨b, 0, none⟩)]) ∧ Bx w' (Fr w) b (.func fn fs cs) := by
  have hmf : ∀ (fn : Fn) (first cap : Array Value) (w : World), (Instr.makeFunc fn first cap).run Try.prog w = .ok (.func fn first cap) w := fun _ _ _ _ => rfl
  have hA := Lib.hid (ask_any (Holds.alloc h (.cells #[.func fn fs cs] 91)) 1 a 0 0 (.func 89) #[] #[.pointer (some ⟨w.heap.size, 0, none⟩)])
  have hlt := h.lt
  clear h
  go_enter Try.func67, Try.ntmps67
  go_wp2_with (go_at_call 88; refine hA.out.mono ?_; rintro e w' ⟨rfl, h⟩; have H := Lib.hid h; clear h)
  refine ⟨rfl, .tuple #[], (by simp [results, Try.results67, go_sem]), rfl, w.heap.size, ⟨H.out.1, (Tch.refl (· = p) w).alloc _ |>.trans H.out.2⟩, ?_⟩
  exact Bx.frame (N := Fr w) (Bx.new w 91 _ _ (Nat.le_refl _)) H.out.2 (fun k hk hk2 => ⟨fun e => by subst e; unfold Fr at hk; omega, hk⟩)

set_option maxHeartbeats 400000 in
theorem store_any (h : PB w p lg x v) (a y : Int) (fn : Fn) (fs cs : Array Value) :
    Calls Try.prog 100 #[.pointer (some ⟨p, 0, none⟩), .int .i64 a, .int .u64 y, .func fn fs cs] w fun e w' => e = .returned (.tuple #[]) ∧ ∃ b, PO w w' p lg (x.ask 2 a y 0) (.func (.func 106) #[] #[.pointer (some ⟨b, 0, none⟩)]) ∧ Bx w' (Fr w) b (.func fn fs cs) := by
  have hmf : ∀ (fn : Fn) (first cap : Array Value) (w : World), (Instr.makeFunc fn first cap).run Try.prog w = .ok (.func fn first cap) w := fun _ _ _ _ => rfl
  have hA := Lib.hid (ask_any (Holds.alloc h (.cells #[.func fn fs cs] 1)) 2 a y 0 (.func 106) #[] #[.pointer (some ⟨w.heap.size, 0, none⟩)])
  have hlt := h.lt
  clear h
  go_enter Try.func100, Try.ntmps100
  go_wp2_with (go_at_call 88; refine hA.out.mono ?_; rintro e w' ⟨rfl, h⟩; have H := Lib.hid h; clear h)
  refine ⟨rfl, .tuple #[], (by simp [results, Try.results100, go_sem]), rfl, w.heap.size, ⟨H.out.1, (Tch.refl (· = p) w).alloc _ |>.trans H.out.2⟩, ?_⟩
  exact Bx.frame (N := Fr w) (Bx.new w 1 _ _ (Nat.le_refl _)) H.out.2 (fun k hk hk2 => ⟨fun e => by subst e; unfold Fr at hk; omega, hk⟩)

set_option maxHeartbeats 400000 in
theorem cas_any (h : PB w p lg x v) (a o y : Int) (fn : Fn) (fs cs : Array Value) :
    Calls Try.prog 82 #[.pointer (some ⟨p, 0, none⟩), .int .i64 a, .int .u64 o, .int .u64 y, .func fn fs cs] w fun e w' => e = .returned (.tuple #[]) ∧ ∃ b, PO w w' p lg (x.ask 3 a y o) (.func (.func 99) #[] #[.pointer (some ⟨b, 0, none⟩)]) ∧ Bx w' (Fr w) b (.func fn fs cs) := by
  have hmf : ∀ (fn : Fn) (first cap : Array Value) (w : World), (Instr.makeFunc fn first cap).run Try.prog w = .ok (.func fn first cap) w := fun _ _ _ _ => rfl
  have hA := Lib.hid (ask_any (Holds.alloc h (.cells #[.func fn fs cs] 92)) 3 a y o (.func 99) #[] #[.pointer (some ⟨w.heap.size, 0, none⟩)])
  have hlt := h.lt
  clear h
  go_enter Try.func82, Try.ntmps82
  go_wp2_with (go_at_call 88; refine hA.out.mono ?_; rintro e w' ⟨rfl, h⟩; have H := Lib.hid h; clear h)
  refine ⟨rfl, .tuple #[], (by simp [results, Try.results82, go_sem]), rfl, w.heap.size, ⟨H.out.1, (Tch.refl (· = p) w).alloc _ |>.trans H.out.2⟩, ?_⟩
  exact Bx.frame (N := Fr w) (Bx.new w 92 _ _ (Nat.le_refl _)) H.out.2 (fun k hk hk2 => ⟨fun e => by subst e; unfold Fr at hk; omega, hk⟩)

/-! ### Answers go on -/
/-- A call of a function's value, by a contract. -/
theorem run_callV {P : Program} {a : Act} {w : World} {o : Oper} {t : Tmp} {xs : Array Operand} {ts : Array TypeId} {g : FuncId} {fs cs : Array Value} (hop : o.op = .call { callee := .value (.tmp t), args := xs, argTypes := ts })
    (hf : a.eval (.tmp t) = .func (.func g) fs cs) (hen : ∀ (args : Array Value) (w : World), (callFunc g args).run P w = .ok (.enter g args) w) : (execOp a.eval o).run P w = .ok (.enter g (fs ++ xs.map a.eval ++ cs)) w := by
  simp [execOp, hop, resolve, hf, Deferred.ofValue, invoke, hen]
theorem wpList_callV {P : Program} {ops : Array Oper} {rest : List Oper} {o : Oper} {a : Act} {w : World} {Q : Exit → Act → World → Prop} {R : World → Prop} {v : Value} (hg : o.guard = none) {t : Tmp} {xs : Array Operand} {ts : Array TypeId} (hop : o.op = .call { callee := .value (.tmp t), args := xs, argTypes := ts })
    {g : FuncId} {fs cs : Array Value} (hf : a.eval (.tmp t) = .func (.func g) fs cs) (hen : ∀ (args : Array Value) (w : World), (callFunc g args).run P w = .ok (.enter g args) w)
    (A : Array Value) (hA : fs ++ xs.map a.eval ++ cs = A)
    (hc : Calls P g A w fun e w' => e = .returned v ∧ R w')
    (h : ∀ w', R w' → wpList P ops Q rest (a.put o.dst v) w') : wpList P ops Q (o :: rest) a w := by
  subst hA
  refine wpList_plain hg fun K hK => ?_
  unfold Oper.wp
  rw [run_callV hop hf hen, Oper.upon_enter]
  refine hc.mono fun e w'' hh => ?_
  obtain ⟨rfl, hr⟩ := hh
  exact hK _ _ (h _ hr)
def En (g : FuncId) : Prop := ∀ (args : Array Value) (w : World), (callFunc g args).run Try.prog w = .ok (.enter g args) w
set_option maxHeartbeats 400000 in
theorem load1_any {g : FuncId} {fs cs : Array Value} (hb : w.cell? ⟨b, 0, none⟩ = some (.func (.func g) fs cs)) (he : En g) (n : Int) (t : Bool) (hc : Calls Try.prog g (fs ++ #[.int .u64 n] ++ cs) w fun e w' => e = .returned (.tuple #[]) ∧ R w') :
    Calls Try.prog 89 #[.int .u64 n, .bool t, .pointer (some ⟨b, 0, none⟩)] w fun e w' => e = .returned (.tuple #[]) ∧ R w' := by
  have hc := Lib.hid hc
  have he := Lib.hid he
  go_enter Try.func89, Try.ntmps89
  go_wp2_with (refine wpList_callV rfl (by rfl) (by rfl) he.out _ (by simp [Act.eval]) hc.out ?_; intro w' hR; have HR := Lib.hid hR; clear hR)
  exact ⟨rfl, .tuple #[], (by simp [results, Try.results89, go_sem]), rfl, HR.out⟩
set_option maxHeartbeats 400000 in
theorem store1_any {g : FuncId} {fs cs : Array Value} (hb : w.cell? ⟨b, 0, none⟩ = some (.func (.func g) fs cs)) (he : En g) (n : Int) (t : Bool) (hc : Calls Try.prog g (fs ++ #[] ++ cs) w fun e w' => e = .returned (.tuple #[]) ∧ R w') :
    Calls Try.prog 106 #[.int .u64 n, .bool t, .pointer (some ⟨b, 0, none⟩)] w fun e w' => e = .returned (.tuple #[]) ∧ R w' := by
  have hc := Lib.hid hc
  have he := Lib.hid he
  go_enter Try.func106, Try.ntmps106
  go_wp2_with (refine wpList_callV rfl (by rfl) (by rfl) he.out _ (by simp) hc.out ?_; intro w' hR; have HR := Lib.hid hR; clear hR)
  exact ⟨rfl, .tuple #[], (by simp [results, Try.results106, go_sem]), rfl, HR.out⟩
set_option maxHeartbeats 400000 in
theorem cas1_any {g : FuncId} {fs cs : Array Value} (hb : w.cell? ⟨b, 0, none⟩ = some (.func (.func g) fs cs)) (he : En g) (n : Int) (t : Bool) (hc : Calls Try.prog g (fs ++ #[.bool t] ++ cs) w fun e w' => e = .returned (.tuple #[]) ∧ R w') :
    Calls Try.prog 99 #[.int .u64 n, .bool t, .pointer (some ⟨b, 0, none⟩)] w fun e w' => e = .returned (.tuple #[]) ∧ R w' := by
  have hc := Lib.hid hc
  have he := Lib.hid he
  go_enter Try.func99, Try.ntmps99
  go_wp2_with (refine wpList_callV rfl (by rfl) (by rfl) he.out _ (by simp [Act.eval]) hc.out ?_; intro w' hR; have HR := Lib.hid hR; clear hR)
  exact ⟨rfl, .tuple #[], (by simp [results, Try.results99, go_sem]), rfl, HR.out⟩
end

/-- Boxes. -/
theorem boxes2 {w : World} {p lg : Nat} {x : PW} {v : Value} (h : PB w p lg x v) (t1 t2 : TypeId) (u1 u2 : Value) : PB ((w.alloc (.cells #[u1] t1)).alloc (.cells #[u2] t2)) p lg x v ∧ Bx ((w.alloc (.cells #[u1] t1)).alloc (.cells #[u2] t2)) (Fr w) w.heap.size u1 ∧ Bx ((w.alloc (.cells #[u1] t1)).alloc (.cells #[u2] t2)) (Fr w) (w.heap.size + 1) u2 ∧ Tch (· = p) w ((w.alloc (.cells #[u1] t1)).alloc (.cells #[u2] t2)) := by
  refine ⟨Holds.alloc (Holds.alloc h _) _, ⟨(Holds.alloc (Holds.new w t1 [u1]) _).cell (i := 0) rfl, Nat.le_refl _⟩, ⟨?_, Nat.le_succ _⟩, ((Tch.refl _ w).alloc _).alloc _⟩
  have := (Holds.new (w.alloc (.cells #[u1] t1)) t2 [u2]).cell (i := 0) rfl
  rwa [World.size_alloc] at this
theorem boxes3 {w : World} {p lg : Nat} {x : PW} {v : Value} (h : PB w p lg x v) (t1 t2 t3 : TypeId) (u1 u2 u3 : Value) : PB (((w.alloc (.cells #[u1] t1)).alloc (.cells #[u2] t2)).alloc (.cells #[u3] t3)) p lg x v ∧ Bx (((w.alloc (.cells #[u1] t1)).alloc (.cells #[u2] t2)).alloc (.cells #[u3] t3)) (Fr w) w.heap.size u1 ∧ Bx (((w.alloc (.cells #[u1] t1)).alloc (.cells #[u2] t2)).alloc (.cells #[u3] t3)) (Fr w) (w.heap.size + 1) u2 ∧ Bx (((w.alloc (.cells #[u1] t1)).alloc (.cells #[u2] t2)).alloc (.cells #[u3] t3)) (Fr w) (w.heap.size + 1 + 1) u3 ∧ Tch (· = p) w (((w.alloc (.cells #[u1] t1)).alloc (.cells #[u2] t2)).alloc (.cells #[u3] t3)) := by
  obtain ⟨h1, h2, h3, h4⟩ := boxes2 h t1 t2 u1 u2
  refine ⟨Holds.alloc h1 _, ⟨(World.cell?_of_block (a := ⟨_, 0, none⟩) (Below.heap_alloc _ _ _ h2.lt)).trans h2.1, h2.2⟩, ⟨(World.cell?_of_block (a := ⟨_, 0, none⟩) (Below.heap_alloc _ _ _ h3.lt)).trans h3.1, h3.2⟩, ⟨?_, by unfold Fr; omega⟩, h4.alloc _⟩
  have := (Holds.new ((w.alloc (.cells #[u1] t1)).alloc (.cells #[u2] t2)) t3 [u3]).cell (i := 0) rfl
  rw [World.size_alloc, World.size_alloc] at this
  exact this

end Go.Proofs.Ytgdfiggloifncaa
