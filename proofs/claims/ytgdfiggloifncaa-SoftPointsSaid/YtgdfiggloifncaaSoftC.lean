/- A path: what comes behind answers, without the log. Conditions: those stated in each theorem. -/
import Derived.Test.YtgdfiggloifncaaSoftB
namespace Go.Proofs.Ytgdfiggloifncaa
open Go.RowKit Go.BigFrame
attribute [local go_sem] run_store_func

/-- What is left of a list, in memory. -/
def Lf (w : World) (N : Nat → Prop) (v : Value) (l : List Pr) : Prop := ∃ ad cap, v = .slice ad l.length cap ∧ l.length ≤ cap ∧ l.length ≤ 128 ∧ FitL l ∧ (l = [] ∨ ∃ q c, ad = some ⟨q, c, none⟩ ∧ N q ∧ q < w.heap.size ∧ ∀ k y, l[k]? = some y → w.rangeAt q (c + k * 2) y.cells)
def hdA (l : List Pr) : Int := match l with | [] => 0 | y :: _ => y.a
def hdV (s : Int) (l : List Pr) : Int := match l with | [] => IntKind.u64.wrap (s + 2) | y :: _ => y.v
def CmV (w : World) (N : Nat → Prop) (p : Nat) (g : Int) (l : List Pr) (lv th u : Value) : Prop := match l with
  | [] => Cl3 w N 103 (.int .u64 g) (.pointer (some ⟨p, 0, none⟩)) th u
  | _ :: _ => Cl4 w N 104 lv (.pointer (some ⟨p, 0, none⟩)) (.int .u64 g) th u
def WrV (w : World) (N : Nat → Prop) (p : Nat) (l : List Pr) (lv u : Value) : Prop := match l with
  | [] => u = .func (.func 101) #[.pointer (some ⟨p, 0, none⟩)] #[]
  | _ :: _ => Cl2 w N 102 (.pointer (some ⟨p, 0, none⟩)) lv u

section
variable {w w' W V : World} {N M C : Nat → Prop} {p lg b b1 b2 b3 b4 : Nat} {x : PW} {u u1 u2 u3 u4 v lv th : Value} {R : World → Prop} {f : FuncId} {l : List Pr} {g : Int}
theorem Lf.frame (h : Lf w N v l) (ht : Tch C w w') (hC : ∀ k, N k → k < w.heap.size → ¬ C k ∧ M k) : Lf w' M v l := by
  obtain ⟨ad, cap, e, h1, h2, h3, h4⟩ := h
  refine ⟨ad, cap, e, h1, h2, h3, ?_⟩
  rcases h4 with h4 | ⟨q, c, rfl, hq, hl, h4⟩
  · exact .inl h4
  · refine .inr ⟨q, c, rfl, (hC q hq hl).2, Nat.lt_of_lt_of_le hl ht.size, fun k y hy i z hi => ?_⟩
    rw [World.cell?_of_block (a := ⟨q, c + k * 2 + i, none⟩) (ht.block q hl (hC q hq hl).1)]
    exact h4 k y hy i z hi
theorem CmV.frame (h : CmV w N p g l lv th u) (ht : Tch C w w') (hC : ∀ k, N k → k < w.heap.size → ¬ C k ∧ M k) : CmV w' M p g l lv th u := by
  cases l with
  | nil => exact Cl3.frame h ht hC
  | cons y l => exact Cl4.frame h ht hC
theorem WrV.frame (h : WrV w N p l lv u) (ht : Tch C w w') (hC : ∀ k, N k → k < w.heap.size → ¬ C k ∧ M k) : WrV w' M p l lv u := by
  cases l with
  | nil => exact h
  | cons y l => exact Cl2.frame h ht hC
theorem Lf.tail {y : Pr} {ad : Option Addr} {n cap : Nat} (h : Lf w N (.slice ad n cap) (y :: l)) : ∃ q c, ad = some ⟨q, c, none⟩ ∧ n = l.length + 1 ∧ n ≤ cap ∧ n ≤ 128 ∧ w.cell? ⟨q, c, none⟩ = some (.int .i64 y.a) ∧ w.cell? ⟨q, c + 1, none⟩ = some (.int .u64 y.v) ∧ y.fit ∧ Lf w N (.slice (if cap = 1 then some ⟨q, c, none⟩ else some ⟨q, c + 2, none⟩) l.length (cap - 1)) l := by
  obtain ⟨ad', cap', e, h1, h2, h3, h4⟩ := h
  cases e
  rcases h4 with h4 | ⟨q, c, rfl, hq, hl, h4⟩
  · cases h4
  · have h0 := h4 0 y rfl
    simp only [Nat.zero_mul, Nat.add_zero] at h0
    refine ⟨q, c, rfl, rfl, h1, h2, h0 0 _ rfl, h0 1 _ rfl, h3 y (by simp), _, _, rfl, by simp at h1; omega, by simp at h2; omega, fun z hz => h3 z (by simp [hz]), ?_⟩
    by_cases hc : cap = 1
    · left
      simp at h1
      exact List.eq_nil_of_length_eq_zero (by omega)
    · rw [if_neg hc]
      refine .inr ⟨q, c + 2, rfl, hq, hl, fun k z hz => ?_⟩
      have := h4 (k + 1) z (by simpa using hz)
      rwa [show c + (k + 1) * 2 = c + 2 + k * 2 from by omega] at this

/-! ### compare, write -/
theorem compare_any (h : PB w p lg x v) (g : Int) (hl : Lf w N lv l) (fn : Fn) (fs cs : Array Value) :
    Calls Try.prog 91 #[.pointer (some ⟨p, 0, none⟩), .int .u64 g, lv, .func fn fs cs] w fun e w' => e = .returned (.tuple #[]) ∧ ∃ b u, PO w w' p lg (x.ask 1 (hdA l) 0 0) (LdV b) ∧ Bx w' (Fr w) b u ∧ CmV w' (Fr w) p g l lv (.func fn fs cs) u := by
  obtain ⟨ad, cap, rfl, h1, h2, h3⟩ := id hl
  cases l with
  | nil => exact compare_nil h g ad cap fn fs cs
  | cons y l =>
    obtain ⟨q, c, rfl, -, -, -, ha, -, -, -⟩ := hl.tail
    exact compare_cons h g q c l.length cap y ha (by simp at h2; omega) fn fs cs
theorem wback_any (h : PB w p lg x v) (hl : Lf w N lv l) :
    Calls Try.prog 84 #[.pointer (some ⟨p, 0, none⟩), lv] w fun e w' => e = .returned (.tuple #[]) ∧ ∃ b u, PO w w' p lg (x.ask 2 (hdA l) (hdV x.snap l) 0) (StV b) ∧ Bx w' (Fr w) b u ∧ WrV w' (Fr w) p l lv u := by
  obtain ⟨ad, cap, rfl, h1, h2, h3⟩ := id hl
  cases l with
  | nil => exact (write_nil h ad cap).mono fun e w' ⟨e1, b, h1, h2⟩ => ⟨e1, b, _, h1, h2, rfl⟩
  | cons y l =>
    obtain ⟨q, c, rfl, -, -, -, ha, hv, -, -⟩ := hl.tail
    exact write_cons h q c l.length cap y ha hv (by simp at h2; omega)

set_option maxRecDepth 100000 in
set_option maxHeartbeats 400000 in
theorem enter1_any (h : PB w p lg x v) (k1 : w.cell? ⟨b1, 0, none⟩ = some (.pointer (some ⟨p, 0, none⟩))) :
    Calls Try.prog 74 #[.pointer (some ⟨b1, 0, none⟩)] w fun e w' => e = .returned (.tuple #[]) ∧ ∃ b u, PO w w' p lg (x.ask 1 0 0 0) (LdV b) ∧ Bx w' (Fr w) b u ∧ Cl2 w' (Fr w) 96 (.pointer (some ⟨p, 0, none⟩)) (.func (.func 76) #[.pointer (some ⟨p, 0, none⟩)] #[]) u := by
  have hmf := hmf_any
  have HA := Lib.hid (even_any h (.func 76) #[.pointer (some ⟨p, 0, none⟩)] #[])
  clear h
  go_enter Try.func74, Try.ntmps74
  go_wp2_with (go_at_call 75; refine HA.out.mono ?_; rintro e w' ⟨rfl, h⟩; have H := Lib.hid h; clear h)
  refine ⟨rfl, .tuple #[], (by simp [results, Try.results74, go_sem]), rfl, ?_⟩
  exact H.out

set_option maxRecDepth 100000 in
set_option maxHeartbeats 400000 in
theorem begun_any (h : PB w p lg x v) (s : Int) (h0 : 0 ≤ x.pts) (h1 : x.pts ≤ 1000000) :
    Calls Try.prog 76 #[.pointer (some ⟨p, 0, none⟩), .int .u64 s] w fun e w' => e = .returned (.tuple #[]) ∧ PO w w' p lg { x with snap := s, pts := x.pts + 1, live := true } v := by
  have HA := Lib.hid (stand_any h s h0 h1)
  clear h
  go_enter Try.func76, Try.ntmps76
  go_wp2_with (go_at_call 97; refine HA.out.mono ?_; rintro e w1 ⟨rfl, h⟩; have c5 := Holds.cell h.1 (i := 5) rfl; have f5 := Holds.free h.1 5; have H := Lib.hid h; clear h)
  refine ⟨rfl, .tuple #[], (by simp [results, Try.results76, go_sem]), rfl, ?_⟩
  exact ⟨H.out.1.set 5 (.bool true), H.out.2.setCell (p := ⟨p, 5, none⟩) (.inl rfl) _⟩

set_option maxRecDepth 100000 in
set_option maxHeartbeats 400000 in
theorem count1_any (h : PB w p lg x v) (m n : Int) (k1 : w.cell? ⟨b1, 0, none⟩ = some (.pointer (some ⟨p, 0, none⟩))) (k2 : w.cell? ⟨b2, 0, none⟩ = some (.int .u64 n)) :
    Calls Try.prog 94 #[.int .u64 m, .pointer (some ⟨b1, 0, none⟩), .pointer (some ⟨b2, 0, none⟩), .pointer (some ⟨b3, 0, none⟩)] w fun e w' => e = .returned (.tuple #[]) ∧ ∃ b, PO w w' p lg (x.ask 3 1 (IntKind.u64.wrap (m + n)) m) (CsV b) ∧ Bx w' (Fr w) b (.func (.func 95) #[] #[.pointer (some ⟨b1, 0, none⟩), .pointer (some ⟨b2, 0, none⟩), .pointer (some ⟨b3, 0, none⟩)]) := by
  have hmf := hmf_any
  have HA := Lib.hid (cas_any h 1 m (IntKind.u64.wrap (m + n)) (.func 95) #[] #[.pointer (some ⟨b1, 0, none⟩), .pointer (some ⟨b2, 0, none⟩), .pointer (some ⟨b3, 0, none⟩)])
  clear h
  go_enter Try.func94, Try.ntmps94
  go_wp2_with (go_at_call 82; refine HA.out.mono ?_; rintro e w' ⟨rfl, h⟩; have H := Lib.hid h; clear h)
  refine ⟨rfl, .tuple #[], (by simp [results, Try.results94, go_sem]), rfl, ?_⟩
  exact H.out

set_option maxRecDepth 100000 in
set_option maxHeartbeats 400000 in
theorem count11_no (h : PB w p lg x v) (n : Int) (fn : Fn) (fs cs : Array Value) (k1 : w.cell? ⟨b1, 0, none⟩ = some (.pointer (some ⟨p, 0, none⟩))) (k2 : w.cell? ⟨b2, 0, none⟩ = some (.int .u64 n)) (k3 : w.cell? ⟨b3, 0, none⟩ = some (.func fn fs cs)) :
    Calls Try.prog 95 #[.bool false, .pointer (some ⟨b1, 0, none⟩), .pointer (some ⟨b2, 0, none⟩), .pointer (some ⟨b3, 0, none⟩)] w fun e w' => e = .returned (.tuple #[]) ∧ ∃ b u, PO w w' p lg (x.ask 1 1 0 0) (LdV b) ∧ Bx w' (Fr w) b u ∧ Cl3 w' (Fr w) 94 (.pointer (some ⟨p, 0, none⟩)) (.int .u64 n) (.func fn fs cs) u := by
  have hmf := hmf_any
  have HA := Lib.hid (count_any h n fn fs cs)
  clear h
  go_enter Try.func95, Try.ntmps95
  go_wp2_with (go_at_call 73; refine HA.out.mono ?_; rintro e w' ⟨rfl, h⟩; have H := Lib.hid h; clear h)
  refine bodyPost_ret (v := .tuple #[]) (by simp [results, Try.results95, go_sem]) rfl ⟨rfl, ?_⟩
  exact H.out

set_option maxRecDepth 100000 in
set_option maxHeartbeats 400000 in
theorem count11_yes {g : FuncId} {fs cs : Array Value} (k3 : w.cell? ⟨b3, 0, none⟩ = some (.func (.func g) fs cs)) (he : En g) (hc : Calls Try.prog g (fs ++ #[] ++ cs) w fun e w' => e = .returned (.tuple #[]) ∧ R w') :
    Calls Try.prog 95 #[.bool true, .pointer (some ⟨b1, 0, none⟩), .pointer (some ⟨b2, 0, none⟩), .pointer (some ⟨b3, 0, none⟩)] w fun e w' => e = .returned (.tuple #[]) ∧ R w' := by
  have HE := Lib.hid he
  have HC := Lib.hid hc
  go_enter Try.func95, Try.ntmps95
  go_wp2_with (refine wpList_callV rfl (by rfl) (by rfl) HE.out _ (by simp) HC.out ?_; intro w' hR; have HR := Lib.hid hR; clear hR)
  refine ⟨rfl, .tuple #[], (by simp [results, Try.results95, go_sem]), rfl, ?_⟩
  exact HR.out

set_option maxRecDepth 100000 in
set_option maxHeartbeats 400000 in
theorem leave1_any (h : PB w p lg x v) (how : Int) (k1 : w.cell? ⟨b1, 0, none⟩ = some (.pointer (some ⟨p, 0, none⟩))) (k2 : w.cell? ⟨b2, 0, none⟩ = some (.int .i64 how)) :
    Calls Try.prog 80 #[.pointer (some ⟨b1, 0, none⟩), .pointer (some ⟨b2, 0, none⟩)] w fun e w' => e = .returned (.tuple #[]) ∧ PO w w' p lg { x with live := false, ended := how } v := by
  have c5 := Holds.cell h (i := 5) rfl
  have f5 := Holds.free h 5
  have c7 := Holds.cell h (i := 7) rfl
  have f7 := Holds.free h 7
  have H := Lib.hid h; clear h
  go_enter Try.func80, Try.ntmps80
  go_wp2
  refine ⟨rfl, .tuple #[], (by simp [results, Try.results80, go_sem]), rfl, ?_⟩
  exact ⟨(H.out.set 5 (.bool false)).set 7 (.int .i64 how), ((Tch.refl (· = p) w).setCell (p := ⟨p, 5, none⟩) (.inl rfl) _).setCell (p := ⟨p, 7, none⟩) (.inl rfl) _⟩

set_option maxRecDepth 100000 in
set_option maxHeartbeats 400000 in
theorem even1_odd (h : PB w p lg x v) (s : Int) (h0 : 0 ≤ s) (hs : s % 2 ≠ 0) (fn : Fn) (fs cs : Array Value) (k1 : w.cell? ⟨b1, 0, none⟩ = some (.pointer (some ⟨p, 0, none⟩))) (k2 : w.cell? ⟨b2, 0, none⟩ = some (.func fn fs cs)) :
    Calls Try.prog 96 #[.int .u64 s, .pointer (some ⟨b1, 0, none⟩), .pointer (some ⟨b2, 0, none⟩)] w fun e w' => e = .returned (.tuple #[]) ∧ ∃ b u, PO w w' p lg (x.ask 1 0 0 0) (LdV b) ∧ Bx w' (Fr w) b u ∧ Cl2 w' (Fr w) 96 (.pointer (some ⟨p, 0, none⟩)) (.func fn fs cs) u := by
  have hmf := hmf_any
  have d0 : s.tmod 2 = s % 2 := Int.tmod_eq_emod_of_nonneg h0
  have d1 : decide (s % 2 = 0) = false := by simpa using hs
  have HA := Lib.hid (even_any h fn fs cs)
  clear h
  go_enter Try.func96, Try.ntmps96
  go_wp2_with (go_at_call 75; refine HA.out.mono ?_; rintro e w' ⟨rfl, h⟩; have H := Lib.hid h; clear h)
  refine bodyPost_ret (v := .tuple #[]) (by simp [results, Try.results96, go_sem]) rfl ⟨rfl, ?_⟩
  exact H.out

set_option maxRecDepth 100000 in
set_option maxHeartbeats 400000 in
theorem even1_even (s : Int) (h0 : 0 ≤ s) (hs : s % 2 = 0) {g : FuncId} {fs cs : Array Value} (k2 : w.cell? ⟨b2, 0, none⟩ = some (.func (.func g) fs cs)) (he : En g) (hc : Calls Try.prog g (fs ++ #[.int .u64 s] ++ cs) w fun e w' => e = .returned (.tuple #[]) ∧ R w') :
    Calls Try.prog 96 #[.int .u64 s, .pointer (some ⟨b1, 0, none⟩), .pointer (some ⟨b2, 0, none⟩)] w fun e w' => e = .returned (.tuple #[]) ∧ R w' := by
  have d0 : s.tmod 2 = s % 2 := Int.tmod_eq_emod_of_nonneg h0
  have HE := Lib.hid he
  have HC := Lib.hid hc
  go_enter Try.func96, Try.ntmps96
  go_wp2_with (refine wpList_callV rfl (by rfl) (by rfl) HE.out _ (by simp [Act.eval]) HC.out ?_; intro w' hR; have HR := Lib.hid hR; clear hR)
  refine ⟨rfl, .tuple #[], (by simp [results, Try.results96, go_sem]), rfl, ?_⟩
  exact HR.out

set_option maxRecDepth 100000 in
set_option maxHeartbeats 400000 in
theorem compare1_no (h : PB w p lg x v) (now g : Int) (hn : now ≠ g) (fn : Fn) (fs cs : Array Value) (k1 : w.cell? ⟨b1, 0, none⟩ = some (.int .u64 g)) (k2 : w.cell? ⟨b2, 0, none⟩ = some (.pointer (some ⟨p, 0, none⟩))) (k3 : w.cell? ⟨b3, 0, none⟩ = some (.func fn fs cs)) :
    Calls Try.prog 103 #[.int .u64 now, .pointer (some ⟨b1, 0, none⟩), .pointer (some ⟨b2, 0, none⟩), .pointer (some ⟨b3, 0, none⟩)] w fun e w' => e = .returned (.tuple #[]) ∧ ∃ b u u', PO w w' p lg (x.ask 1 0 0 0) (LdV b) ∧ Bx w' (Fr w) b u ∧ Cl2 w' (Fr w) 96 (.pointer (some ⟨p, 0, none⟩)) u' u ∧ Cl2 w' (Fr w) 90 (.pointer (some ⟨p, 0, none⟩)) (.func fn fs cs) u' := by
  have hmf := hmf_any
  have HA := Lib.hid (validate_any h fn fs cs)
  clear h
  go_enter Try.func103, Try.ntmps103
  go_wp2_with (go_at_call 70; refine HA.out.mono ?_; rintro e w' ⟨rfl, h⟩; have H := Lib.hid h; clear h)
  refine bodyPost_ret (v := .tuple #[]) (by simp [results, Try.results103, go_sem]) rfl ⟨rfl, ?_⟩
  exact H.out

set_option maxRecDepth 100000 in
set_option maxHeartbeats 400000 in
theorem compare1_yes (h : PB w p lg x v) (g : Int) (h0 : 0 ≤ x.pts) (h1 : x.pts ≤ 1000000) {G : FuncId} {fs cs : Array Value} (k1 : w.cell? ⟨b1, 0, none⟩ = some (.int .u64 g)) (k2 : w.cell? ⟨b2, 0, none⟩ = some (.pointer (some ⟨p, 0, none⟩))) (k3 : w.cell? ⟨b3, 0, none⟩ = some (.func (.func G) fs cs)) (n3 : b3 ≠ p) (he : En G) (hc : ∀ w1, PO w w1 p lg { x with snap := g, pts := x.pts + 1 } v → Calls Try.prog G (fs ++ #[] ++ cs) w1 fun e w' => e = .returned (.tuple #[]) ∧ R w') :
    Calls Try.prog 103 #[.int .u64 g, .pointer (some ⟨b1, 0, none⟩), .pointer (some ⟨b2, 0, none⟩), .pointer (some ⟨b3, 0, none⟩)] w fun e w' => e = .returned (.tuple #[]) ∧ R w' := by
  have HA := Lib.hid (stand_any h g h0 h1)
  have HE := Lib.hid he
  have HC := Lib.hid hc
  have e3 := World.block_lt_of_cell? _ _ k3
  clear h hc
  go_enter Try.func103, Try.ntmps103
  go_wp2_with (first | (go_at_call 97; refine HA.out.mono ?_; rintro e w1 ⟨rfl, h⟩; have q3 := (World.cell?_of_block (a := ⟨b3, 0, none⟩) (h.2.block b3 e3 n3)).trans k3; have H := Lib.hid h; clear h) | (refine wpList_callV rfl (by rfl) (by rfl) HE.out _ (by simp) (HC.out _ H.out) ?_; intro w' hR; have HR := Lib.hid hR; clear hR))
  refine ⟨rfl, .tuple #[], (by simp [results, Try.results103, go_sem]), rfl, ?_⟩
  exact HR.out

set_option maxRecDepth 100000 in
set_option maxHeartbeats 400000 in
theorem fetch1_any (h : PB w p lg x v) (m : Int) (k1 : w.cell? ⟨b1, 0, none⟩ = some (.pointer (some ⟨p, 0, none⟩))) :
    Calls Try.prog 68 #[.int .u64 m, .pointer (some ⟨b1, 0, none⟩), .pointer (some ⟨b2, 0, none⟩)] w fun e w' => e = .returned (.tuple #[]) ∧ ∃ b c, PO w w' p lg (x.ask 1 0 0 0) (LdV b) ∧ Bx w' (Fr w) b (.func (.func 69) #[] #[.pointer (some ⟨b1, 0, none⟩), .pointer (some ⟨b2, 0, none⟩), .pointer (some ⟨c, 0, none⟩)]) ∧ Bx w' (Fr w) c (.int .u64 m) := by
  have hmf := hmf_any
  have hlt := h.lt
  have HB := Lib.hid (box1 h 26 (.int .u64 m))
  have HA := Lib.hid (load_any HB.out.1 0 (.func 69) #[] #[.pointer (some ⟨b1, 0, none⟩), .pointer (some ⟨b2, 0, none⟩), .pointer (some ⟨w.heap.size, 0, none⟩)])
  have hq := World.block_lt_of_cell? _ _ k1
  clear h
  go_enter Try.func68, Try.ntmps68
  go_wp2_with (go_at_call 67; refine HA.out.mono ?_; rintro e w' ⟨rfl, h⟩; have H := Lib.hid h; clear h)
  refine ⟨rfl, .tuple #[], (by simp [results, Try.results68, go_sem]), rfl, ?_⟩
  obtain ⟨b, h1, h2⟩ := H.out
  have hB := HB.out
  exact ⟨b, w.heap.size, ⟨h1.1, hB.2.2.trans h1.2⟩, h2.more hB.2.2.size, hB.2.1.fr h1.2 hlt⟩

set_option maxRecDepth 100000 in
set_option maxHeartbeats 400000 in
theorem fetch11_no (h : PB w p lg x v) (s : Int) (hs : s ≠ x.snap) (k1 : w.cell? ⟨b1, 0, none⟩ = some (.pointer (some ⟨p, 0, none⟩))) :
    Calls Try.prog 69 #[.int .u64 s, .pointer (some ⟨b1, 0, none⟩), .pointer (some ⟨b2, 0, none⟩), .pointer (some ⟨b3, 0, none⟩)] w fun e w' => e = .returned (.tuple #[]) ∧ ∃ b u u', PO w w' p lg (x.ask 1 0 0 0) (LdV b) ∧ Bx w' (Fr w) b u ∧ Cl2 w' (Fr w) 96 (.pointer (some ⟨p, 0, none⟩)) u' u ∧ Cl2 w' (Fr w) 90 (.pointer (some ⟨p, 0, none⟩)) (.func (.func 71) #[] #[.pointer (some ⟨b1, 0, none⟩), .pointer (some ⟨b2, 0, none⟩)]) u' := by
  have hmf := hmf_any
  have c2 := Holds.cell h (i := 2) rfl
  have HA := Lib.hid (validate_any h (.func 71) #[] #[.pointer (some ⟨b1, 0, none⟩), .pointer (some ⟨b2, 0, none⟩)])
  clear h
  go_enter Try.func69, Try.ntmps69
  go_wp2_with (go_at_call 70; refine HA.out.mono ?_; rintro e w' ⟨rfl, h⟩; have H := Lib.hid h; clear h)
  refine bodyPost_ret (v := .tuple #[]) (by simp [results, Try.results69, go_sem]) rfl ⟨rfl, ?_⟩
  exact H.out

set_option maxRecDepth 100000 in
set_option maxHeartbeats 400000 in
theorem fetch111_any (h : PB w p lg x v) (a : Int) (k1 : w.cell? ⟨b1, 0, none⟩ = some (.pointer (some ⟨p, 0, none⟩))) (k2 : w.cell? ⟨b2, 0, none⟩ = some (.int .i64 a)) :
    Calls Try.prog 71 #[.pointer (some ⟨b1, 0, none⟩), .pointer (some ⟨b2, 0, none⟩)] w fun e w' => e = .returned (.tuple #[]) ∧ ∃ b u, PO w w' p lg (x.ask 1 a 0 0) (LdV b) ∧ Bx w' (Fr w) b u ∧ Cl2 w' (Fr w) 68 (.pointer (some ⟨p, 0, none⟩)) (.int .i64 a) u := by
  have hmf := hmf_any
  have HA := Lib.hid (fetch_any h a)
  clear h
  go_enter Try.func71, Try.ntmps71
  go_wp2_with (go_at_call 46; refine HA.out.mono ?_; rintro e w' ⟨rfl, h⟩; have H := Lib.hid h; clear h)
  refine ⟨rfl, .tuple #[], (by simp [results, Try.results71, go_sem]), rfl, ?_⟩
  exact H.out

set_option maxRecDepth 100000 in
set_option maxHeartbeats 400000 in
theorem sign1_no (h : PB w p lg x v) (k1 : w.cell? ⟨b1, 0, none⟩ = some (.pointer (some ⟨p, 0, none⟩))) :
    Calls Try.prog 83 #[.bool false, .pointer (some ⟨b1, 0, none⟩)] w fun e w' => e = .returned (.tuple #[]) ∧ ∃ b u u', PO w w' p lg (x.ask 1 0 0 0) (LdV b) ∧ Bx w' (Fr w) b u ∧ Cl2 w' (Fr w) 96 (.pointer (some ⟨p, 0, none⟩)) u' u ∧ Cl2 w' (Fr w) 90 (.pointer (some ⟨p, 0, none⟩)) (.func (.func 54) #[.pointer (some ⟨p, 0, none⟩)] #[]) u' := by
  have hmf := hmf_any
  have HA := Lib.hid (validate_any h (.func 54) #[.pointer (some ⟨p, 0, none⟩)] #[])
  clear h
  go_enter Try.func83, Try.ntmps83
  go_wp2_with (go_at_call 70; refine HA.out.mono ?_; rintro e w' ⟨rfl, h⟩; have H := Lib.hid h; clear h)
  refine bodyPost_ret (v := .tuple #[]) (by simp [results, Try.results83, go_sem]) rfl ⟨rfl, ?_⟩
  exact H.out

set_option maxRecDepth 100000 in
set_option maxHeartbeats 400000 in
theorem written_any (h : PB w p lg x v) :
    Calls Try.prog 101 #[.pointer (some ⟨p, 0, none⟩)] w fun e w' => e = .returned (.tuple #[]) ∧ ∃ b u u', PO w w' p lg (PW.ask { x with writing := false } 1 1 0 0) (LdV b) ∧ Bx w' (Fr w) b u ∧ Cl3 w' (Fr w) 94 (.pointer (some ⟨p, 0, none⟩)) (.int .u64 18446744073709551615) u' u ∧ Cl2 w' (Fr w) 80 (.pointer (some ⟨p, 0, none⟩)) (.int .i64 1) u' := by
  have c6 := Holds.cell h (i := 6) rfl
  have f6 := Holds.free h 6
  have hB : PO w (w.setCell ⟨p, 6, none⟩ (.bool false)) p lg { x with writing := false } v := ⟨h.set 6 (.bool false), (Tch.refl (· = p) w).setCell (p := ⟨p, 6, none⟩) (.inl rfl) _⟩
  have HB := Lib.hid hB
  have HA := Lib.hid (leave_any hB.1 1)
  clear h hB
  go_enter Try.func101, Try.ntmps101
  go_wp2_with (go_at_call 51; refine HA.out.mono ?_; rintro e w' ⟨rfl, h⟩; have H := Lib.hid h; clear h)
  refine ⟨rfl, .tuple #[], (by simp [results, Try.results101, go_sem]), rfl, ?_⟩
  obtain ⟨b, u, u', h1, h2, h3, h4⟩ := H.out
  have hz := HB.out.2.size
  exact ⟨b, u, u', ⟨h1.1, HB.out.2.trans h1.2⟩, h2.more hz, h3.more hz, h4.more hz⟩

set_option maxRecDepth 100000 in
set_option maxHeartbeats 400000 in
theorem compare2_no (h : PB w p lg x v) (now : Int) {y : Pr} (hl : Lf w N lv (y :: l)) (hn : now ≠ y.v) (k1 : w.cell? ⟨b1, 0, none⟩ = some lv) (k2 : w.cell? ⟨b2, 0, none⟩ = some (.pointer (some ⟨p, 0, none⟩))) :
    Calls Try.prog 104 #[.int .u64 now, .pointer (some ⟨b1, 0, none⟩), .pointer (some ⟨b2, 0, none⟩), .pointer (some ⟨b3, 0, none⟩), .pointer (some ⟨b4, 0, none⟩)] w fun e w' => e = .returned (.tuple #[]) ∧ ∃ b u u', PO w w' p lg (x.ask 1 1 0 0) (LdV b) ∧ Bx w' (Fr w) b u ∧ Cl3 w' (Fr w) 94 (.pointer (some ⟨p, 0, none⟩)) (.int .u64 18446744073709551615) u' u ∧ Cl2 w' (Fr w) 80 (.pointer (some ⟨p, 0, none⟩)) (.int .i64 2) u' := by
  obtain ⟨ad, cap, rfl, h1, h2, h3⟩ := id hl
  obtain ⟨q, c, rfl, -, -, -, ha, hv, -, -⟩ := hl.tail
  clear hl h3
  have hmf := hmf_any
  have HA := Lib.hid (leave_any h 2)
  clear h
  go_enter Try.func104, Try.ntmps104
  go_wp2_with (go_at_call 51; refine HA.out.mono ?_; rintro e w' ⟨rfl, h⟩; have H := Lib.hid h; clear h)
  refine bodyPost_ret (v := .tuple #[]) (by simp [results, Try.results104, go_sem]) rfl ⟨rfl, ?_⟩
  exact H.out

set_option maxRecDepth 100000 in
set_option maxHeartbeats 400000 in
theorem compare2_yes (h : PB w p lg x v) (g : Int) {y : Pr} (hl : Lf w N lv (y :: l)) (fn : Fn) (fs cs : Array Value) (k1 : w.cell? ⟨b1, 0, none⟩ = some lv) (k2 : w.cell? ⟨b2, 0, none⟩ = some (.pointer (some ⟨p, 0, none⟩))) (k3 : w.cell? ⟨b3, 0, none⟩ = some (.int .u64 g)) (k4 : w.cell? ⟨b4, 0, none⟩ = some (.func fn fs cs)) :
    Calls Try.prog 104 #[.int .u64 y.v, .pointer (some ⟨b1, 0, none⟩), .pointer (some ⟨b2, 0, none⟩), .pointer (some ⟨b3, 0, none⟩), .pointer (some ⟨b4, 0, none⟩)] w fun e w' => e = .returned (.tuple #[]) ∧ ∃ lv' b u, Lf w N lv' l ∧ PO w w' p lg (x.ask 1 (hdA l) 0 0) (LdV b) ∧ Bx w' (Fr w) b u ∧ CmV w' (Fr w) p g l lv' (.func fn fs cs) u := by
  have hmf := hmf_any
  obtain ⟨ad, cap, rfl, h1, h2, h3⟩ := id hl
  obtain ⟨q, c, rfl, hn, hc1, hc2, ha, hv, -, hl'⟩ := hl.tail
  have HL := Lib.hid hl'
  have HA := Lib.hid (compare_any (Holds.drew h) g (Lf.frame (C := fun _ => False) (M := N) hl' (Tch.refl _ w).drew (fun k hk _ => ⟨fun e => e, hk⟩)) fn fs cs)
  clear h hl hl' h3 ha hn
  simp only [List.length_cons] at *
  have b0 : (1 : Int) ≤ (l.length : Int) + 1 := by omega
  go_enter Try.func104, Try.ntmps104
  go_wp2
  go_still_tail 5, (by kernel_rfl)
  change wpList _ _ _ _ _ w.drew
  go_wp2_with (go_at_call 91; refine HA.out.mono ?_; rintro e w' ⟨rfl, h⟩; have H := Lib.hid h; clear h)
  all_goals
    refine ⟨rfl, .tuple #[], (by simp [results, Try.results104, go_sem]), rfl, ?_⟩
    obtain ⟨b, u, i1, i2, i3⟩ := H.out
    exact ⟨_, HL.out, b, ⟨i1.1, (Tch.refl (· = p) w).drew.trans i1.2⟩, u, i2, i3⟩

set_option maxRecDepth 100000 in
set_option maxHeartbeats 400000 in
theorem write1_any (h : PB w p lg x v) {y : Pr} (hl : Lf w N lv (y :: l)) (k1 : w.cell? ⟨b1, 0, none⟩ = some (.pointer (some ⟨p, 0, none⟩))) (k2 : w.cell? ⟨b2, 0, none⟩ = some lv) :
    Calls Try.prog 102 #[.pointer (some ⟨b1, 0, none⟩), .pointer (some ⟨b2, 0, none⟩)] w fun e w' => e = .returned (.tuple #[]) ∧ ∃ lv' b u, Lf w N lv' l ∧ PO w w' p lg (x.ask 2 (hdA l) (hdV x.snap l) 0) (StV b) ∧ Bx w' (Fr w) b u ∧ WrV w' (Fr w) p l lv' u := by
  have hmf := hmf_any
  obtain ⟨ad, cap, rfl, h1, h2, h3⟩ := id hl
  obtain ⟨q, c, rfl, hn, hc1, hc2, ha, hv, -, hl'⟩ := hl.tail
  have HL := Lib.hid hl'
  have HA := Lib.hid (wback_any (Holds.drew h) (Lf.frame (C := fun _ => False) (M := N) hl' (Tch.refl _ w).drew (fun k hk _ => ⟨fun e => e, hk⟩)))
  clear h hl hl' h3 ha hn
  simp only [List.length_cons] at *
  have b0 : (1 : Int) ≤ (l.length : Int) + 1 := by omega
  go_enter Try.func102, Try.ntmps102
  go_wp2
  go_still_tail 3, (by kernel_rfl)
  change wpList _ _ _ _ _ w.drew
  go_wp2_with (go_at_call 84; refine HA.out.mono ?_; rintro e w' ⟨rfl, h⟩; have H := Lib.hid h; clear h)
  all_goals
    refine ⟨rfl, .tuple #[], (by simp [results, Try.results102, go_sem]), rfl, ?_⟩
    obtain ⟨b, u, i1, i2, i3⟩ := H.out
    exact ⟨_, HL.out, b, ⟨i1.1, (Tch.refl (· = p) w).drew.trans i1.2⟩, u, i2, i3⟩
end

end Go.Proofs.Ytgdfiggloifncaa
