/- A path: functions that ask. Conditions: those stated in each theorem. -/
import Derived.Test.YtgdfiggloifncaaSoftA
namespace Go.Proofs.Ytgdfiggloifncaa
open Go.RowKit Go.BigFrame
attribute [local go_sem] run_store_func

/-- A function that has captured 1 boxes. -/
def Cl1 (w : World) (N : Nat → Prop) (f : FuncId) (u1 : Value) (v : Value) : Prop := ∃ b1 : Nat, v = .func (.func f) #[] #[.pointer (some ⟨b1, 0, none⟩)] ∧ Bx w N b1 u1
/-- A function that has captured 2 boxes. -/
def Cl2 (w : World) (N : Nat → Prop) (f : FuncId) (u1 u2 : Value) (v : Value) : Prop := ∃ b1 b2 : Nat, v = .func (.func f) #[] #[.pointer (some ⟨b1, 0, none⟩), .pointer (some ⟨b2, 0, none⟩)] ∧ Bx w N b1 u1 ∧ Bx w N b2 u2
/-- A function that has captured 3 boxes. -/
def Cl3 (w : World) (N : Nat → Prop) (f : FuncId) (u1 u2 u3 : Value) (v : Value) : Prop := ∃ b1 b2 b3 : Nat, v = .func (.func f) #[] #[.pointer (some ⟨b1, 0, none⟩), .pointer (some ⟨b2, 0, none⟩), .pointer (some ⟨b3, 0, none⟩)] ∧ Bx w N b1 u1 ∧ Bx w N b2 u2 ∧ Bx w N b3 u3
/-- A function that has captured 4 boxes. -/
def Cl4 (w : World) (N : Nat → Prop) (f : FuncId) (u1 u2 u3 u4 : Value) (v : Value) : Prop := ∃ b1 b2 b3 b4 : Nat, v = .func (.func f) #[] #[.pointer (some ⟨b1, 0, none⟩), .pointer (some ⟨b2, 0, none⟩), .pointer (some ⟨b3, 0, none⟩), .pointer (some ⟨b4, 0, none⟩)] ∧ Bx w N b1 u1 ∧ Bx w N b2 u2 ∧ Bx w N b3 u3 ∧ Bx w N b4 u4

def LdV (b : Nat) : Value := .func (.func 89) #[] #[.pointer (some ⟨b, 0, none⟩)]
def StV (b : Nat) : Value := .func (.func 106) #[] #[.pointer (some ⟨b, 0, none⟩)]
def CsV (b : Nat) : Value := .func (.func 99) #[] #[.pointer (some ⟨b, 0, none⟩)]

section
variable {w w' W V : World} {N M C : Nat → Prop} {p lg b : Nat} {x : PW} {u u1 u2 u3 u4 v : Value} {R : World → Prop} {f : FuncId}
theorem Bx.fr (h : Bx W (Fr w) b u) (ht : Tch (· = p) W w') (hp : p < w.heap.size) : Bx w' (Fr w) b u := h.frame ht (fun k hk _ => ⟨fun e => by unfold Fr at hk; omega, hk⟩)
theorem Bx.more (h : Bx W (Fr V) b u) (hz : w.heap.size ≤ V.heap.size) : Bx W (Fr w) b u := ⟨h.1, Nat.le_trans hz h.2⟩
theorem Bx.to (h : Bx w N b u) (hN : ∀ k, N k → k < w.heap.size → M k) : Bx w M b u := ⟨h.1, hN b h.2 h.lt⟩
theorem Cl1.frame (h : Cl1 w N f u1 v) (ht : Tch C w w') (hC : ∀ k, N k → k < w.heap.size → ¬ C k ∧ M k) : Cl1 w' M f u1 v := by
  obtain ⟨b1, e, h1⟩ := h
  exact ⟨b1, e, h1.frame ht hC⟩
theorem Cl1.to (h : Cl1 w N f u1 v) (hN : ∀ k, N k → k < w.heap.size → M k) : Cl1 w M f u1 v := by
  obtain ⟨b1, e, h1⟩ := h
  exact ⟨b1, e, h1.to hN⟩
theorem Cl1.fr (h : Cl1 W (Fr w) f u1 v) (ht : Tch (· = p) W w') (hp : p < w.heap.size) : Cl1 w' (Fr w) f u1 v := h.frame ht (fun k hk _ => ⟨fun e => by unfold Fr at hk; omega, hk⟩)
theorem Cl1.more (h : Cl1 W (Fr V) f u1 v) (hz : w.heap.size ≤ V.heap.size) : Cl1 W (Fr w) f u1 v := h.to (fun _ hk _ => Nat.le_trans hz hk)
theorem Cl2.frame (h : Cl2 w N f u1 u2 v) (ht : Tch C w w') (hC : ∀ k, N k → k < w.heap.size → ¬ C k ∧ M k) : Cl2 w' M f u1 u2 v := by
  obtain ⟨b1, b2, e, h1, h2⟩ := h
  exact ⟨b1, b2, e, h1.frame ht hC, h2.frame ht hC⟩
theorem Cl2.to (h : Cl2 w N f u1 u2 v) (hN : ∀ k, N k → k < w.heap.size → M k) : Cl2 w M f u1 u2 v := by
  obtain ⟨b1, b2, e, h1, h2⟩ := h
  exact ⟨b1, b2, e, h1.to hN, h2.to hN⟩
theorem Cl2.fr (h : Cl2 W (Fr w) f u1 u2 v) (ht : Tch (· = p) W w') (hp : p < w.heap.size) : Cl2 w' (Fr w) f u1 u2 v := h.frame ht (fun k hk _ => ⟨fun e => by unfold Fr at hk; omega, hk⟩)
theorem Cl2.more (h : Cl2 W (Fr V) f u1 u2 v) (hz : w.heap.size ≤ V.heap.size) : Cl2 W (Fr w) f u1 u2 v := h.to (fun _ hk _ => Nat.le_trans hz hk)
theorem Cl3.frame (h : Cl3 w N f u1 u2 u3 v) (ht : Tch C w w') (hC : ∀ k, N k → k < w.heap.size → ¬ C k ∧ M k) : Cl3 w' M f u1 u2 u3 v := by
  obtain ⟨b1, b2, b3, e, h1, h2, h3⟩ := h
  exact ⟨b1, b2, b3, e, h1.frame ht hC, h2.frame ht hC, h3.frame ht hC⟩
theorem Cl3.to (h : Cl3 w N f u1 u2 u3 v) (hN : ∀ k, N k → k < w.heap.size → M k) : Cl3 w M f u1 u2 u3 v := by
  obtain ⟨b1, b2, b3, e, h1, h2, h3⟩ := h
  exact ⟨b1, b2, b3, e, h1.to hN, h2.to hN, h3.to hN⟩
theorem Cl3.fr (h : Cl3 W (Fr w) f u1 u2 u3 v) (ht : Tch (· = p) W w') (hp : p < w.heap.size) : Cl3 w' (Fr w) f u1 u2 u3 v := h.frame ht (fun k hk _ => ⟨fun e => by unfold Fr at hk; omega, hk⟩)
theorem Cl3.more (h : Cl3 W (Fr V) f u1 u2 u3 v) (hz : w.heap.size ≤ V.heap.size) : Cl3 W (Fr w) f u1 u2 u3 v := h.to (fun _ hk _ => Nat.le_trans hz hk)
theorem Cl4.frame (h : Cl4 w N f u1 u2 u3 u4 v) (ht : Tch C w w') (hC : ∀ k, N k → k < w.heap.size → ¬ C k ∧ M k) : Cl4 w' M f u1 u2 u3 u4 v := by
  obtain ⟨b1, b2, b3, b4, e, h1, h2, h3, h4⟩ := h
  exact ⟨b1, b2, b3, b4, e, h1.frame ht hC, h2.frame ht hC, h3.frame ht hC, h4.frame ht hC⟩
theorem Cl4.to (h : Cl4 w N f u1 u2 u3 u4 v) (hN : ∀ k, N k → k < w.heap.size → M k) : Cl4 w M f u1 u2 u3 u4 v := by
  obtain ⟨b1, b2, b3, b4, e, h1, h2, h3, h4⟩ := h
  exact ⟨b1, b2, b3, b4, e, h1.to hN, h2.to hN, h3.to hN, h4.to hN⟩
theorem Cl4.fr (h : Cl4 W (Fr w) f u1 u2 u3 u4 v) (ht : Tch (· = p) W w') (hp : p < w.heap.size) : Cl4 w' (Fr w) f u1 u2 u3 u4 v := h.frame ht (fun k hk _ => ⟨fun e => by unfold Fr at hk; omega, hk⟩)
theorem Cl4.more (h : Cl4 W (Fr V) f u1 u2 u3 u4 v) (hz : w.heap.size ≤ V.heap.size) : Cl4 W (Fr w) f u1 u2 u3 u4 v := h.to (fun _ hk _ => Nat.le_trans hz hk)
theorem box1 (h : PB w p lg x v) (t1 : TypeId) (u1 : Value) : PB (w.alloc (.cells #[u1] t1)) p lg x v ∧ Bx (w.alloc (.cells #[u1] t1)) (Fr w) w.heap.size u1 ∧ Tch (· = p) w (w.alloc (.cells #[u1] t1)) := ⟨Holds.alloc h _, Bx.new w t1 _ _ (Nat.le_refl _), (Tch.refl _ w).alloc _⟩
theorem hmf_any : ∀ (fn : Fn) (first cap : Array Value) (w : World), (Instr.makeFunc fn first cap).run Try.prog w = .ok (.func fn first cap) w := fun _ _ _ _ => rfl

set_option maxHeartbeats 400000 in
theorem stand_any (h : PB w p lg x v) (s : Int) (h0 : 0 ≤ x.pts) (h1 : x.pts ≤ 1000000) : Calls Try.prog 97 #[.pointer (some ⟨p, 0, none⟩), .int .u64 s] w fun e w' => e = .returned (.tuple #[]) ∧ PO w w' p lg { x with snap := s, pts := x.pts + 1 } v := by
  have c2 := Holds.cell h (i := 2) rfl
  have f2 := Holds.free h 2
  have c4 := Holds.cell h (i := 4) rfl
  have f4 := Holds.free h 4
  have H := Lib.hid h; clear h
  go_enter Try.func97, Try.ntmps97
  go_wp2
  refine ⟨rfl, .tuple #[], (by simp [results, Try.results97, go_sem]), rfl, ?_, ?_⟩
  · exact (H.out.set 2 (.int .u64 s)).set 4 (.int .i64 (x.pts + 1))
  · exact ((Tch.refl (· = p) w).setCell (p := ⟨p, 2, none⟩) (.inl rfl) _).setCell (p := ⟨p, 4, none⟩) (.inl rfl) _

set_option maxHeartbeats 400000 in
theorem count_any (h : PB w p lg x v) (n : Int) (fn : Fn) (fs cs : Array Value) :
    Calls Try.prog 73 #[.pointer (some ⟨p, 0, none⟩), .int .u64 n, .func fn fs cs] w fun e w' => e = .returned (.tuple #[]) ∧ ∃ b u, PO w w' p lg (x.ask 1 1 0 0) (LdV b) ∧ Bx w' (Fr w) b u ∧ Cl3 w' (Fr w) 94 (.pointer (some ⟨p, 0, none⟩)) (.int .u64 n) (.func fn fs cs) u := by
  have hmf := hmf_any
  have hlt := h.lt
  have HB := Lib.hid (boxes3 h 23 26 1 (.pointer (some ⟨p, 0, none⟩)) (.int .u64 n) (.func fn fs cs))
  have hA := Lib.hid (load_any HB.out.1 1 (.func 94) #[] #[.pointer (some ⟨w.heap.size, 0, none⟩), .pointer (some ⟨(w.heap.size + 1), 0, none⟩), .pointer (some ⟨(w.heap.size + 1 + 1), 0, none⟩)])
  clear h
  go_enter Try.func73, Try.ntmps73
  go_wp2_with (go_at_call 67; refine hA.out.mono ?_; rintro e w' ⟨rfl, h⟩; have H := Lib.hid h; clear h)
  refine ⟨rfl, .tuple #[], (by simp [results, Try.results73, go_sem]), rfl, ?_⟩
  obtain ⟨b, h1, h2⟩ := H.out
  have hB := HB.out
  have hT := hB.2.2.2.2
  exact ⟨b, _, ⟨h1.1, hT.trans h1.2⟩, h2.more hT.size, w.heap.size, (w.heap.size + 1), (w.heap.size + 1 + 1), rfl, hB.2.1.fr h1.2 hlt, hB.2.2.1.fr h1.2 hlt, hB.2.2.2.1.fr h1.2 hlt⟩

set_option maxHeartbeats 400000 in
theorem even_any (h : PB w p lg x v) (fn : Fn) (fs cs : Array Value) :
    Calls Try.prog 75 #[.pointer (some ⟨p, 0, none⟩), .func fn fs cs] w fun e w' => e = .returned (.tuple #[]) ∧ ∃ b u, PO w w' p lg (x.ask 1 0 0 0) (LdV b) ∧ Bx w' (Fr w) b u ∧ Cl2 w' (Fr w) 96 (.pointer (some ⟨p, 0, none⟩)) (.func fn fs cs) u := by
  have hmf := hmf_any
  have hlt := h.lt
  have HB := Lib.hid (boxes2 h 23 91 (.pointer (some ⟨p, 0, none⟩)) (.func fn fs cs))
  have hA := Lib.hid (load_any HB.out.1 0 (.func 96) #[] #[.pointer (some ⟨w.heap.size, 0, none⟩), .pointer (some ⟨(w.heap.size + 1), 0, none⟩)])
  clear h
  go_enter Try.func75, Try.ntmps75
  go_wp2_with (go_at_call 67; refine hA.out.mono ?_; rintro e w' ⟨rfl, h⟩; have H := Lib.hid h; clear h)
  refine ⟨rfl, .tuple #[], (by simp [results, Try.results75, go_sem]), rfl, ?_⟩
  obtain ⟨b, h1, h2⟩ := H.out
  have hB := HB.out
  have hT := hB.2.2.2
  exact ⟨b, _, ⟨h1.1, hT.trans h1.2⟩, h2.more hT.size, w.heap.size, (w.heap.size + 1), rfl, hB.2.1.fr h1.2 hlt, hB.2.2.1.fr h1.2 hlt⟩

set_option maxHeartbeats 400000 in
theorem fetch_any (h : PB w p lg x v) (a : Int) :
    Calls Try.prog 46 #[.pointer (some ⟨p, 0, none⟩), .int .i64 a] w fun e w' => e = .returned (.tuple #[]) ∧ ∃ b u, PO w w' p lg (x.ask 1 a 0 0) (LdV b) ∧ Bx w' (Fr w) b u ∧ Cl2 w' (Fr w) 68 (.pointer (some ⟨p, 0, none⟩)) (.int .i64 a) u := by
  have hmf := hmf_any
  have hlt := h.lt
  have HB := Lib.hid (boxes2 h 23 3 (.pointer (some ⟨p, 0, none⟩)) (.int .i64 a))
  have hA := Lib.hid (load_any HB.out.1 a (.func 68) #[] #[.pointer (some ⟨w.heap.size, 0, none⟩), .pointer (some ⟨(w.heap.size + 1), 0, none⟩)])
  clear h
  go_enter Try.func46, Try.ntmps46
  go_wp2_with (go_at_call 67; refine hA.out.mono ?_; rintro e w' ⟨rfl, h⟩; have H := Lib.hid h; clear h)
  refine ⟨rfl, .tuple #[], (by simp [results, Try.results46, go_sem]), rfl, ?_⟩
  obtain ⟨b, h1, h2⟩ := H.out
  have hB := HB.out
  have hT := hB.2.2.2
  exact ⟨b, _, ⟨h1.1, hT.trans h1.2⟩, h2.more hT.size, w.heap.size, (w.heap.size + 1), rfl, hB.2.1.fr h1.2 hlt, hB.2.2.1.fr h1.2 hlt⟩

set_option maxHeartbeats 400000 in
theorem leave_any (h : PB w p lg x v) (how : Int) :
    Calls Try.prog 51 #[.pointer (some ⟨p, 0, none⟩), .int .i64 how] w fun e w' => e = .returned (.tuple #[]) ∧ ∃ b u u', PO w w' p lg (x.ask 1 1 0 0) (LdV b) ∧ Bx w' (Fr w) b u ∧ Cl3 w' (Fr w) 94 (.pointer (some ⟨p, 0, none⟩)) (.int .u64 18446744073709551615) u' u ∧ Cl2 w' (Fr w) 80 (.pointer (some ⟨p, 0, none⟩)) (.int .i64 how) u' := by
  have hmf := hmf_any
  have hlt := h.lt
  have HB := Lib.hid (boxes2 h 23 3 (.pointer (some ⟨p, 0, none⟩)) (.int .i64 how))
  have hA := Lib.hid (count_any HB.out.1 18446744073709551615 (.func 80) #[] #[.pointer (some ⟨w.heap.size, 0, none⟩), .pointer (some ⟨(w.heap.size + 1), 0, none⟩)])
  clear h
  go_enter Try.func51, Try.ntmps51
  go_wp2_with (go_at_call 73; refine hA.out.mono ?_; rintro e w' ⟨rfl, h⟩; have H := Lib.hid h; clear h)
  refine ⟨rfl, .tuple #[], (by simp [results, Try.results51, go_sem]), rfl, ?_⟩
  obtain ⟨b, u, h1, h2, h3⟩ := H.out
  have hB := HB.out
  have hT := hB.2.2.2
  exact ⟨b, u, _, ⟨h1.1, hT.trans h1.2⟩, h2.more hT.size, h3.more hT.size, w.heap.size, (w.heap.size + 1), rfl, hB.2.1.fr h1.2 hlt, hB.2.2.1.fr h1.2 hlt⟩

set_option maxHeartbeats 400000 in
theorem enter_any (h : PB w p lg x v)  :
    Calls Try.prog 49 #[.pointer (some ⟨p, 0, none⟩)] w fun e w' => e = .returned (.tuple #[]) ∧ ∃ b u u', PO w w' p lg (x.ask 1 1 0 0) (LdV b) ∧ Bx w' (Fr w) b u ∧ Cl3 w' (Fr w) 94 (.pointer (some ⟨p, 0, none⟩)) (.int .u64 1) u' u ∧ Cl1 w' (Fr w) 74 (.pointer (some ⟨p, 0, none⟩)) u' := by
  have hmf := hmf_any
  have hlt := h.lt
  have HB := Lib.hid (box1 h 23 (.pointer (some ⟨p, 0, none⟩)))
  have hA := Lib.hid (count_any HB.out.1 1 (.func 74) #[] #[.pointer (some ⟨w.heap.size, 0, none⟩)])
  clear h
  go_enter Try.func49, Try.ntmps49
  go_wp2_with (go_at_call 73; refine hA.out.mono ?_; rintro e w' ⟨rfl, h⟩; have H := Lib.hid h; clear h)
  refine ⟨rfl, .tuple #[], (by simp [results, Try.results49, go_sem]), rfl, ?_⟩
  obtain ⟨b, u, h1, h2, h3⟩ := H.out
  have hB := HB.out
  have hT := hB.2.2
  exact ⟨b, u, _, ⟨h1.1, hT.trans h1.2⟩, h2.more hT.size, h3.more hT.size, w.heap.size, rfl, hB.2.1.fr h1.2 hlt⟩

set_option maxHeartbeats 400000 in
theorem validate_any (h : PB w p lg x v) (fn : Fn) (fs cs : Array Value) :
    Calls Try.prog 70 #[.pointer (some ⟨p, 0, none⟩), .func fn fs cs] w fun e w' => e = .returned (.tuple #[]) ∧ ∃ b u u', PO w w' p lg (x.ask 1 0 0 0) (LdV b) ∧ Bx w' (Fr w) b u ∧ Cl2 w' (Fr w) 96 (.pointer (some ⟨p, 0, none⟩)) u' u ∧ Cl2 w' (Fr w) 90 (.pointer (some ⟨p, 0, none⟩)) (.func fn fs cs) u' := by
  have hmf := hmf_any
  have hlt := h.lt
  have HB := Lib.hid (boxes2 h 23 1 (.pointer (some ⟨p, 0, none⟩)) (.func fn fs cs))
  have hA := Lib.hid (even_any HB.out.1  (.func 90) #[] #[.pointer (some ⟨w.heap.size, 0, none⟩), .pointer (some ⟨(w.heap.size + 1), 0, none⟩)])
  clear h
  go_enter Try.func70, Try.ntmps70
  go_wp2_with (go_at_call 75; refine hA.out.mono ?_; rintro e w' ⟨rfl, h⟩; have H := Lib.hid h; clear h)
  refine ⟨rfl, .tuple #[], (by simp [results, Try.results70, go_sem]), rfl, ?_⟩
  obtain ⟨b, u, h1, h2, h3⟩ := H.out
  have hB := HB.out
  have hT := hB.2.2.2
  exact ⟨b, u, _, ⟨h1.1, hT.trans h1.2⟩, h2.more hT.size, h3.more hT.size, w.heap.size, (w.heap.size + 1), rfl, hB.2.1.fr h1.2 hlt, hB.2.2.1.fr h1.2 hlt⟩

set_option maxRecDepth 100000 in
set_option maxHeartbeats 400000 in
theorem sign_any (h : PB w p lg x v) :
    Calls Try.prog 54 #[.pointer (some ⟨p, 0, none⟩)] w fun e w' => e = .returned (.tuple #[]) ∧ ∃ b u, PO w w' p lg (x.ask 3 0 (IntKind.u64.wrap (x.snap + 1)) x.snap) (CsV b) ∧ Bx w' (Fr w) b u ∧ Cl1 w' (Fr w) 83 (.pointer (some ⟨p, 0, none⟩)) u := by
  have hmf := hmf_any
  have hlt := h.lt
  have HB := Lib.hid (box1 h 23 (.pointer (some ⟨p, 0, none⟩)))
  have hA := Lib.hid (cas_any (Holds.drew HB.out.1) 0 x.snap (IntKind.u64.wrap (x.snap + 1)) (.func 83) #[] #[.pointer (some ⟨w.heap.size, 0, none⟩)])
  have hp := HB.out.1.lt
  have c2 := Holds.cell HB.out.1 (i := 2) rfl
  have q0 := HB.out.2.1.1
  clear h
  go_enter Try.func54, Try.ntmps54
  go_wp2
  generalize w.alloc (.cells #[.pointer (some ⟨p, 0, none⟩)] 23) = W at *
  go_still_tail 11, (by kernel_rfl)
  change wpList _ _ _ _ _ W.drew
  go_wp2_with (go_at_call 82; refine hA.out.mono ?_; rintro e w' ⟨rfl, h⟩; have H := Lib.hid h; clear h)
  refine ⟨rfl, .tuple #[], (by simp [results, Try.results54, go_sem]), rfl, ?_⟩
  obtain ⟨b, h1, h2⟩ := H.out
  have hB := HB.out
  exact ⟨b, _, ⟨h1.1, hB.2.2.trans ((Tch.refl _ W).drew.trans h1.2)⟩, h2.more hB.2.2.size, w.heap.size, rfl, hB.2.1.fr ((Tch.refl _ W).drew.trans h1.2) hlt⟩

set_option maxRecDepth 100000 in
set_option maxHeartbeats 400000 in
theorem write_nil (h : PB w p lg x v) (ad : Option Addr) (cap : Nat) :
    Calls Try.prog 84 #[.pointer (some ⟨p, 0, none⟩), .slice ad 0 cap] w fun e w' => e = .returned (.tuple #[]) ∧ ∃ b, PO w w' p lg (x.ask 2 0 (IntKind.u64.wrap (x.snap + 2)) 0) (StV b) ∧ Bx w' (Fr w) b (.func (.func 101) #[.pointer (some ⟨p, 0, none⟩)] #[]) := by
  have hmf := hmf_any
  have hlt := h.lt
  have HB := Lib.hid (boxes2 h 23 27 (.pointer (some ⟨p, 0, none⟩)) (.slice ad 0 cap))
  have hA := Lib.hid (store_any (Holds.drew HB.out.1) 0 (IntKind.u64.wrap (x.snap + 2)) (.func 101) #[.pointer (some ⟨p, 0, none⟩)] #[])
  have hp := HB.out.1.lt
  have c2 := Holds.cell HB.out.1 (i := 2) rfl
  have q0 := HB.out.2.1.1
  have q1 := HB.out.2.2.1.1
  clear h
  go_enter Try.func84, Try.ntmps84
  go_wp2
  generalize (w.alloc (.cells #[.pointer (some ⟨p, 0, none⟩)] 23)).alloc (.cells #[.slice ad 0 cap] 27) = W at *
  go_still_tail 8, (by kernel_rfl)
  change wpList _ _ _ _ _ W.drew
  go_wp2_with (go_at_call 100; refine hA.out.mono ?_; rintro e w' ⟨rfl, h⟩; have H := Lib.hid h; clear h)
  refine bodyPost_ret (v := .tuple #[]) (by simp [results, Try.results84, go_sem]) rfl ?_
  obtain ⟨b, h1, h2⟩ := H.out
  have hB := HB.out
  have hT := hB.2.2.2.trans ((Tch.refl (· = p) W).drew)
  exact ⟨rfl, b, ⟨h1.1, hT.trans h1.2⟩, h2.more hT.size⟩

set_option maxRecDepth 100000 in
set_option maxHeartbeats 400000 in
theorem write_cons (h : PB w p lg x v) (q c n cap : Nat) (y : Pr) (ha : w.cell? ⟨q, c, none⟩ = some (.int .i64 y.a)) (hv : w.cell? ⟨q, c + 1, none⟩ = some (.int .u64 y.v)) (hn : n ≤ 128) :
    Calls Try.prog 84 #[.pointer (some ⟨p, 0, none⟩), .slice (some ⟨q, c, none⟩) (n + 1) cap] w fun e w' => e = .returned (.tuple #[]) ∧ ∃ b u, PO w w' p lg (x.ask 2 y.a y.v 0) (StV b) ∧ Bx w' (Fr w) b u ∧ Cl2 w' (Fr w) 102 (.pointer (some ⟨p, 0, none⟩)) (.slice (some ⟨q, c, none⟩) (n + 1) cap) u := by
  have hmf := hmf_any
  have hlt := h.lt
  have HB := Lib.hid (boxes2 h 23 27 (.pointer (some ⟨p, 0, none⟩)) (.slice (some ⟨q, c, none⟩) (n + 1) cap))
  have hA := Lib.hid (store_any (Holds.drew HB.out.1) y.a y.v (.func 102) #[] #[.pointer (some ⟨w.heap.size, 0, none⟩), .pointer (some ⟨(w.heap.size + 1), 0, none⟩)])
  have hp := HB.out.1.lt
  have hq := World.block_lt_of_cell? _ _ ha
  have bl : Below w.heap.size w ((w.alloc (.cells #[.pointer (some ⟨p, 0, none⟩)] 23)).alloc (.cells #[.slice (some ⟨q, c, none⟩) (n + 1) cap] 27)) := ((Below.refl _ w).alloc (Nat.le_refl _) _).alloc (by simp) _
  have ka := (bl.cell (p := ⟨q, c, none⟩) hq).trans ha
  have kv := (bl.cell (p := ⟨q, c + 1, none⟩) hq).trans hv
  have d1 : decide ((n : Int) + 1 = 0) = false := by simp; omega
  have q0 := HB.out.2.1.1
  have q1 := HB.out.2.2.1.1
  clear h ha hv bl
  go_enter Try.func84, Try.ntmps84
  go_wp2
  generalize (w.alloc (.cells #[.pointer (some ⟨p, 0, none⟩)] 23)).alloc (.cells #[.slice (some ⟨q, c, none⟩) (n + 1) cap] 27) = W at *
  go_still_tail 10, (by kernel_rfl)
  change wpList _ _ _ _ _ W.drew
  go_wp2_with (go_at_call 100; refine hA.out.mono ?_; rintro e w' ⟨rfl, h⟩; have H := Lib.hid h; clear h)
  refine ⟨rfl, .tuple #[], (by simp [results, Try.results84, go_sem]), rfl, ?_⟩
  obtain ⟨b, h1, h2⟩ := H.out
  have hB := HB.out
  have hT := hB.2.2.2.trans ((Tch.refl (· = p) W).drew)
  have hD := (Tch.refl (· = p) W).drew.trans h1.2
  exact ⟨b, _, ⟨h1.1, hT.trans h1.2⟩, h2.more hT.size, w.heap.size, w.heap.size + 1, rfl, hB.2.1.fr hD hlt, hB.2.2.1.fr hD hlt⟩

theorem boxes4 (h : PB w p lg x v) (t1 t2 t3 t4 : TypeId) (u1 u2 u3 u4 : Value) : PB ((((w.alloc (.cells #[u1] t1)).alloc (.cells #[u2] t2)).alloc (.cells #[u3] t3)).alloc (.cells #[u4] t4)) p lg x v ∧ Bx ((((w.alloc (.cells #[u1] t1)).alloc (.cells #[u2] t2)).alloc (.cells #[u3] t3)).alloc (.cells #[u4] t4)) (Fr w) w.heap.size u1 ∧ Bx ((((w.alloc (.cells #[u1] t1)).alloc (.cells #[u2] t2)).alloc (.cells #[u3] t3)).alloc (.cells #[u4] t4)) (Fr w) (w.heap.size + 1) u2 ∧ Bx ((((w.alloc (.cells #[u1] t1)).alloc (.cells #[u2] t2)).alloc (.cells #[u3] t3)).alloc (.cells #[u4] t4)) (Fr w) (w.heap.size + 1 + 1) u3 ∧ Bx ((((w.alloc (.cells #[u1] t1)).alloc (.cells #[u2] t2)).alloc (.cells #[u3] t3)).alloc (.cells #[u4] t4)) (Fr w) (w.heap.size + 1 + 1 + 1) u4 ∧ Tch (· = p) w ((((w.alloc (.cells #[u1] t1)).alloc (.cells #[u2] t2)).alloc (.cells #[u3] t3)).alloc (.cells #[u4] t4)) := by
  obtain ⟨h1, h2, h3, h4, h5⟩ := boxes3 h t1 t2 t3 u1 u2 u3
  refine ⟨Holds.alloc h1 _, ⟨(World.cell?_of_block (a := ⟨_, 0, none⟩) (Below.heap_alloc _ _ _ h2.lt)).trans h2.1, h2.2⟩, ⟨(World.cell?_of_block (a := ⟨_, 0, none⟩) (Below.heap_alloc _ _ _ h3.lt)).trans h3.1, h3.2⟩, ⟨(World.cell?_of_block (a := ⟨_, 0, none⟩) (Below.heap_alloc _ _ _ h4.lt)).trans h4.1, h4.2⟩, ⟨?_, by unfold Fr; omega⟩, h5.alloc _⟩
  have := (Holds.new (((w.alloc (.cells #[u1] t1)).alloc (.cells #[u2] t2)).alloc (.cells #[u3] t3)) t4 [u4]).cell (i := 0) rfl
  rw [World.size_alloc, World.size_alloc, World.size_alloc] at this
  exact this

set_option maxRecDepth 100000 in
set_option maxHeartbeats 400000 in
theorem compare_nil (h : PB w p lg x v) (g : Int) (ad : Option Addr) (cap : Nat) (fn : Fn) (fs cs : Array Value) :
    Calls Try.prog 91 #[.pointer (some ⟨p, 0, none⟩), .int .u64 g, .slice ad 0 cap, .func fn fs cs] w fun e w' => e = .returned (.tuple #[]) ∧ ∃ b u, PO w w' p lg (x.ask 1 0 0 0) (LdV b) ∧ Bx w' (Fr w) b u ∧ Cl3 w' (Fr w) 103 (.int .u64 g) (.pointer (some ⟨p, 0, none⟩)) (.func fn fs cs) u := by
  have hmf := hmf_any
  have hlt := h.lt
  have HB := Lib.hid (boxes4 h 23 26 27 1 (.pointer (some ⟨p, 0, none⟩)) (.int .u64 g) (.slice ad 0 cap) (.func fn fs cs))
  have hA := Lib.hid (load_any HB.out.1 0 (.func 103) #[] #[.pointer (some ⟨(w.heap.size + 1), 0, none⟩), .pointer (some ⟨w.heap.size, 0, none⟩), .pointer (some ⟨(w.heap.size + 1 + 1 + 1), 0, none⟩)])
  have q0 := HB.out.2.1.1
  have q1 := HB.out.2.2.1.1
  have q2 := HB.out.2.2.2.1.1
  have q3 := HB.out.2.2.2.2.1.1
  clear h
  go_enter Try.func91, Try.ntmps91
  go_wp2_with (go_at_call 67; refine hA.out.mono ?_; rintro e w' ⟨rfl, h⟩; have H := Lib.hid h; clear h)
  refine bodyPost_ret (v := .tuple #[]) (by simp [results, Try.results91, go_sem]) rfl ?_
  obtain ⟨b, h1, h2⟩ := H.out
  have hB := HB.out
  have hT := hB.2.2.2.2.2
  exact ⟨rfl, b, _, ⟨h1.1, hT.trans h1.2⟩, h2.more hT.size, (w.heap.size + 1), w.heap.size, (w.heap.size + 1 + 1 + 1), rfl, hB.2.2.1.fr h1.2 hlt, hB.2.1.fr h1.2 hlt, hB.2.2.2.2.1.fr h1.2 hlt⟩

set_option maxRecDepth 100000 in
set_option maxHeartbeats 400000 in
theorem compare_cons (h : PB w p lg x v) (g : Int) (q c n cap : Nat) (y : Pr) (ha : w.cell? ⟨q, c, none⟩ = some (.int .i64 y.a)) (hn : n ≤ 128) (fn : Fn) (fs cs : Array Value) :
    Calls Try.prog 91 #[.pointer (some ⟨p, 0, none⟩), .int .u64 g, .slice (some ⟨q, c, none⟩) (n + 1) cap, .func fn fs cs] w fun e w' => e = .returned (.tuple #[]) ∧ ∃ b u, PO w w' p lg (x.ask 1 y.a 0 0) (LdV b) ∧ Bx w' (Fr w) b u ∧ Cl4 w' (Fr w) 104 (.slice (some ⟨q, c, none⟩) (n + 1) cap) (.pointer (some ⟨p, 0, none⟩)) (.int .u64 g) (.func fn fs cs) u := by
  have hmf := hmf_any
  have hlt := h.lt
  have HB := Lib.hid (boxes4 h 23 26 27 1 (.pointer (some ⟨p, 0, none⟩)) (.int .u64 g) (.slice (some ⟨q, c, none⟩) (n + 1) cap) (.func fn fs cs))
  have hA := Lib.hid (load_any (Holds.drew HB.out.1) y.a (.func 104) #[] #[.pointer (some ⟨(w.heap.size + 1 + 1), 0, none⟩), .pointer (some ⟨w.heap.size, 0, none⟩), .pointer (some ⟨(w.heap.size + 1), 0, none⟩), .pointer (some ⟨(w.heap.size + 1 + 1 + 1), 0, none⟩)])
  have hq := World.block_lt_of_cell? _ _ ha
  have bl : Below w.heap.size w ((((w.alloc (.cells #[.pointer (some ⟨p, 0, none⟩)] 23)).alloc (.cells #[.int .u64 g] 26)).alloc (.cells #[.slice (some ⟨q, c, none⟩) (n + 1) cap] 27)).alloc (.cells #[.func fn fs cs] 1)) := ((((Below.refl _ w).alloc (Nat.le_refl _) _).alloc (by simp) _).alloc (by simp; omega) _).alloc (by simp; omega) _
  have ka := (bl.cell (p := ⟨q, c, none⟩) hq).trans ha
  have d1 : decide ((n : Int) + 1 = 0) = false := by simp; omega
  clear ha bl
  have q0 := HB.out.2.1.1
  have q1 := HB.out.2.2.1.1
  have q2 := HB.out.2.2.2.1.1
  have q3 := HB.out.2.2.2.2.1.1
  clear h
  go_enter Try.func91, Try.ntmps91
  go_wp2
  generalize ((((w.alloc (.cells #[.pointer (some ⟨p, 0, none⟩)] 23)).alloc (.cells #[.int .u64 g] 26)).alloc (.cells #[.slice (some ⟨q, c, none⟩) (n + 1) cap] 27)).alloc (.cells #[.func fn fs cs] 1)) = W at *
  go_still_tail 6, (by kernel_rfl)
  change wpList _ _ _ _ _ W.drew
  go_wp2_with (go_at_call 67; refine hA.out.mono ?_; rintro e w' ⟨rfl, h⟩; have H := Lib.hid h; clear h)
  refine ⟨rfl, .tuple #[], (by simp [results, Try.results91, go_sem]), rfl, ?_⟩
  obtain ⟨b, h1, h2⟩ := H.out
  have hB := HB.out
  have hT := hB.2.2.2.2.2.trans ((Tch.refl (· = p) W).drew)
  have hD := (Tch.refl (· = p) W).drew.trans h1.2
  exact ⟨b, _, ⟨h1.1, hT.trans h1.2⟩, h2.more hT.size, (w.heap.size + 1 + 1), w.heap.size, (w.heap.size + 1), (w.heap.size + 1 + 1 + 1), rfl, hB.2.2.2.1.fr hD hlt, hB.2.1.fr hD hlt, hB.2.2.1.fr hD hlt, hB.2.2.2.2.1.fr hD hlt⟩
end

end Go.Proofs.Ytgdfiggloifncaa
