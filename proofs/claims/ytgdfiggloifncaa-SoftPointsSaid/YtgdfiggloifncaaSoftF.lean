/- A path: Give. Conditions: those stated in each theorem. -/
import Derived.Test.YtgdfiggloifncaaSoftP
import Derived.Shelf.Abstract
namespace Go.Proofs.Ytgdfiggloifncaa
open Go.RowKit Go.BigFrame Go.Maps Go.Shelf
attribute [local go_sem] run_store_func

theorem en_load_1 : En 89 := enters_of Try.func89 (by kernel_rfl) rfl
theorem en_store_1 : En 106 := enters_of Try.func106 (by kernel_rfl) rfl
theorem en_cas_1 : En 99 := enters_of Try.func99 (by kernel_rfl) rfl
theorem en_count_1 : En 94 := enters_of Try.func94 (by kernel_rfl) rfl
theorem en_count_1_1 : En 95 := enters_of Try.func95 (by kernel_rfl) rfl
theorem en_enter_1 : En 74 := enters_of Try.func74 (by kernel_rfl) rfl
theorem en_leave_1 : En 80 := enters_of Try.func80 (by kernel_rfl) rfl
theorem en_even_1 : En 96 := enters_of Try.func96 (by kernel_rfl) rfl
theorem en_begun : En 76 := enters_of Try.func76 (by kernel_rfl) rfl
theorem en_validate_1 : En 90 := enters_of Try.func90 (by kernel_rfl) rfl
theorem en_compare_1 : En 103 := enters_of Try.func103 (by kernel_rfl) rfl
theorem en_compare_2 : En 104 := enters_of Try.func104 (by kernel_rfl) rfl
theorem en_fetch_1 : En 68 := enters_of Try.func68 (by kernel_rfl) rfl
theorem en_fetch_1_1 : En 69 := enters_of Try.func69 (by kernel_rfl) rfl
theorem en_fetch_1_1_1 : En 71 := enters_of Try.func71 (by kernel_rfl) rfl
theorem en_sign : En 54 := enters_of Try.func54 (by kernel_rfl) rfl
theorem en_sign_1 : En 83 := enters_of Try.func83 (by kernel_rfl) rfl
theorem en_write_1 : En 102 := enters_of Try.func102 (by kernel_rfl) rfl
theorem en_written : En 101 := enters_of Try.func101 (by kernel_rfl) rfl

section
variable {w w' W : World} {N M C S T : Nat → Prop} {p lg : Nat} {x y : PV} {z : PW} {v u th : Value} {t : Th} {a : At} {R : World → Prop}
set_option maxRecDepth 100000 in
set_option maxHeartbeats 1000000 in
theorem give_Ld {b : Nat} (h : PB w p lg z (LdV b)) (n : Int) (ok : Bool) (hc : ∀ W, PO w W p lg (z.ask 0 0 0 0) .nilFunc → Calls Try.prog 89 #[.int .u64 n, .bool ok, .pointer (some ⟨b, 0, none⟩)] W fun e w' => e = .returned (.tuple #[]) ∧ R w') :
    Calls Try.prog 14 #[.pointer (some ⟨p, 0, none⟩), .int .u64 n, .bool ok] w fun e w' => e = .returned (.int .i64 0) ∧ R w' := by
  have HN := Lib.hid (pnone_any h)
  have HB := Lib.hid (busy_any (b := true) h ⟨_, _, _, rfl⟩)
  have c8 := Holds.cell h (i := 8) rfl
  have f8 := Holds.free h 8
  have c9 := Holds.cell h (i := 9) rfl
  have f9 := Holds.free h 9
  have c10 := Holds.cell h (i := 10) rfl
  have f10 := Holds.free h 10
  have c11 := Holds.cell h (i := 11) rfl
  have f11 := Holds.free h 11
  have c12 := Holds.cell h (i := 12) rfl
  have f12 := Holds.free h 12
  unfold LdV at c12
  have HW : Hid (PO w (((((w.setCell ⟨p, 8, none⟩ (.int .i64 0)).setCell ⟨p, 9, none⟩ (.int .i64 0)).setCell ⟨p, 10, none⟩ (.int .u64 0)).setCell ⟨p, 11, none⟩ (.int .u64 0)).setCell ⟨p, 12, none⟩ .nilFunc) p lg (z.ask 0 0 0 0) .nilFunc) := Lib.hid ⟨((((Holds.set h 8 (.int .i64 0)).set 9 (.int .i64 0)).set 10 (.int .u64 0)).set 11 (.int .u64 0)).set 12 .nilFunc, (((((Tch.refl (· = p) w).setCell (p := ⟨p, 8, none⟩) (.inl rfl) _).setCell (p := ⟨p, 9, none⟩) (.inl rfl) _).setCell (p := ⟨p, 10, none⟩) (.inl rfl) _).setCell (p := ⟨p, 11, none⟩) (.inl rfl) _).setCell (p := ⟨p, 12, none⟩) (.inl rfl) _⟩
  have HC := Lib.hid (hc _ HW.out)
  have hnil : ∀ (a : Addr) (m : Mode) (w : World), (store a .nilFunc m).run Try.prog w = stored Try.prog w a .nilFunc m := fun a m w => run_store _ w a _ m rfl
  clear h hc
  go_enter Try.func14, Try.ntmps14
  go_wp2_with (first | (go_at_call 47; refine HN.out.mono ?_; rintro e w' ⟨rfl, rfl⟩) | (go_at_call 23; refine HB.out.mono ?_; rintro e w' ⟨rfl, rfl⟩) | (go_at_call 89; refine HC.out.mono ?_; rintro e w' ⟨rfl, hR⟩; have HR := Lib.hid hR; clear hR))
  go_ret
  exact ⟨rfl, HR.out⟩
set_option maxRecDepth 100000 in
set_option maxHeartbeats 1000000 in
theorem give_St {b : Nat} (h : PB w p lg z (StV b)) (n : Int) (ok : Bool) (hc : ∀ W, PO w W p lg (z.ask 0 0 0 0) .nilFunc → Calls Try.prog 106 #[.int .u64 n, .bool ok, .pointer (some ⟨b, 0, none⟩)] W fun e w' => e = .returned (.tuple #[]) ∧ R w') :
    Calls Try.prog 14 #[.pointer (some ⟨p, 0, none⟩), .int .u64 n, .bool ok] w fun e w' => e = .returned (.int .i64 0) ∧ R w' := by
  have HN := Lib.hid (pnone_any h)
  have HB := Lib.hid (busy_any (b := true) h ⟨_, _, _, rfl⟩)
  have c8 := Holds.cell h (i := 8) rfl
  have f8 := Holds.free h 8
  have c9 := Holds.cell h (i := 9) rfl
  have f9 := Holds.free h 9
  have c10 := Holds.cell h (i := 10) rfl
  have f10 := Holds.free h 10
  have c11 := Holds.cell h (i := 11) rfl
  have f11 := Holds.free h 11
  have c12 := Holds.cell h (i := 12) rfl
  have f12 := Holds.free h 12
  unfold StV at c12
  have HW : Hid (PO w (((((w.setCell ⟨p, 8, none⟩ (.int .i64 0)).setCell ⟨p, 9, none⟩ (.int .i64 0)).setCell ⟨p, 10, none⟩ (.int .u64 0)).setCell ⟨p, 11, none⟩ (.int .u64 0)).setCell ⟨p, 12, none⟩ .nilFunc) p lg (z.ask 0 0 0 0) .nilFunc) := Lib.hid ⟨((((Holds.set h 8 (.int .i64 0)).set 9 (.int .i64 0)).set 10 (.int .u64 0)).set 11 (.int .u64 0)).set 12 .nilFunc, (((((Tch.refl (· = p) w).setCell (p := ⟨p, 8, none⟩) (.inl rfl) _).setCell (p := ⟨p, 9, none⟩) (.inl rfl) _).setCell (p := ⟨p, 10, none⟩) (.inl rfl) _).setCell (p := ⟨p, 11, none⟩) (.inl rfl) _).setCell (p := ⟨p, 12, none⟩) (.inl rfl) _⟩
  have HC := Lib.hid (hc _ HW.out)
  have hnil : ∀ (a : Addr) (m : Mode) (w : World), (store a .nilFunc m).run Try.prog w = stored Try.prog w a .nilFunc m := fun a m w => run_store _ w a _ m rfl
  clear h hc
  go_enter Try.func14, Try.ntmps14
  go_wp2_with (first | (go_at_call 47; refine HN.out.mono ?_; rintro e w' ⟨rfl, rfl⟩) | (go_at_call 23; refine HB.out.mono ?_; rintro e w' ⟨rfl, rfl⟩) | (go_at_call 106; refine HC.out.mono ?_; rintro e w' ⟨rfl, hR⟩; have HR := Lib.hid hR; clear hR))
  go_ret
  exact ⟨rfl, HR.out⟩
set_option maxRecDepth 100000 in
set_option maxHeartbeats 1000000 in
theorem give_Cs {b : Nat} (h : PB w p lg z (CsV b)) (n : Int) (ok : Bool) (hc : ∀ W, PO w W p lg (z.ask 0 0 0 0) .nilFunc → Calls Try.prog 99 #[.int .u64 n, .bool ok, .pointer (some ⟨b, 0, none⟩)] W fun e w' => e = .returned (.tuple #[]) ∧ R w') :
    Calls Try.prog 14 #[.pointer (some ⟨p, 0, none⟩), .int .u64 n, .bool ok] w fun e w' => e = .returned (.int .i64 0) ∧ R w' := by
  have HN := Lib.hid (pnone_any h)
  have HB := Lib.hid (busy_any (b := true) h ⟨_, _, _, rfl⟩)
  have c8 := Holds.cell h (i := 8) rfl
  have f8 := Holds.free h 8
  have c9 := Holds.cell h (i := 9) rfl
  have f9 := Holds.free h 9
  have c10 := Holds.cell h (i := 10) rfl
  have f10 := Holds.free h 10
  have c11 := Holds.cell h (i := 11) rfl
  have f11 := Holds.free h 11
  have c12 := Holds.cell h (i := 12) rfl
  have f12 := Holds.free h 12
  unfold CsV at c12
  have HW : Hid (PO w (((((w.setCell ⟨p, 8, none⟩ (.int .i64 0)).setCell ⟨p, 9, none⟩ (.int .i64 0)).setCell ⟨p, 10, none⟩ (.int .u64 0)).setCell ⟨p, 11, none⟩ (.int .u64 0)).setCell ⟨p, 12, none⟩ .nilFunc) p lg (z.ask 0 0 0 0) .nilFunc) := Lib.hid ⟨((((Holds.set h 8 (.int .i64 0)).set 9 (.int .i64 0)).set 10 (.int .u64 0)).set 11 (.int .u64 0)).set 12 .nilFunc, (((((Tch.refl (· = p) w).setCell (p := ⟨p, 8, none⟩) (.inl rfl) _).setCell (p := ⟨p, 9, none⟩) (.inl rfl) _).setCell (p := ⟨p, 10, none⟩) (.inl rfl) _).setCell (p := ⟨p, 11, none⟩) (.inl rfl) _).setCell (p := ⟨p, 12, none⟩) (.inl rfl) _⟩
  have HC := Lib.hid (hc _ HW.out)
  have hnil : ∀ (a : Addr) (m : Mode) (w : World), (store a .nilFunc m).run Try.prog w = stored Try.prog w a .nilFunc m := fun a m w => run_store _ w a _ m rfl
  clear h hc
  go_enter Try.func14, Try.ntmps14
  go_wp2_with (first | (go_at_call 47; refine HN.out.mono ?_; rintro e w' ⟨rfl, rfl⟩) | (go_at_call 23; refine HB.out.mono ?_; rintro e w' ⟨rfl, rfl⟩) | (go_at_call 99; refine HC.out.mono ?_; rintro e w' ⟨rfl, hR⟩; have HR := Lib.hid hR; clear hR))
  go_ret
  exact ⟨rfl, HR.out⟩
set_option maxHeartbeats 400000 in
theorem give_idle (h : PB w p lg z .nilFunc) (n : Int) (ok : Bool) :
    Calls Try.prog 14 #[.pointer (some ⟨p, 0, none⟩), .int .u64 n, .bool ok] w fun e w' => e = .returned (.int .i64 80) ∧ w = w' := by
  have HN := Lib.hid (pnone_any h)
  have HB := Lib.hid (busy_any (b := false) h rfl)
  clear h
  go_enter Try.func14, Try.ntmps14
  go_wp2_with (first | (go_at_call 47; refine HN.out.mono ?_; rintro e w' ⟨rfl, rfl⟩) | (go_at_call 23; refine HB.out.mono ?_; rintro e w' ⟨rfl, rfl⟩))
  go_ret
  exact ⟨rfl, rfl⟩

/-- Where an answer has come. -/
structure Gv (w W : World) (T S : Nat → Prop) (p lg : Nat) (x : PV) : Prop where
  po : PO w W p lg (x.pw.ask 0 0 0 0) .nilFunc
  log : LgAt W S lg x.log
  sub : ∀ k, S k → T k ∧ k ≠ p ∧ k < w.heap.size
  tp : T p
  lt : p < w.heap.size
theorem Gv.fin (h : Gv w W T S p lg x) (hpo : PO W w' p lg y.pw v) (hl : y.log = x.log) (hf : y.at_.fit) (ha : AtV w' (Nw (Nx T S p) W) p y.at_ v) : SOut y w T p w' := by
  have hz := h.po.2.size
  refine ⟨⟨lg, S, v, hpo.1, ?_, fun k hk => ⟨.inl (h.sub k hk).1, (h.sub k hk).2.1, Nat.lt_of_lt_of_le (h.sub k hk).2.2 (Nat.le_trans hz hpo.2.size)⟩, .inl h.tp, hf, ?_⟩, (h.po.2.trans hpo.2).mono (fun k _ e => by subst e; exact h.tp)⟩
  · rw [hl]; exact h.log.frame hpo.2 (fun k hk => (h.sub k hk).2.1)
  · refine ha.frame (C := fun _ => False) (Tch.refl _ _) (fun k hk hk2 => ⟨fun e => e, ?_⟩)
    rcases hk with hk | hk
    · exact ⟨.inl hk.1, hk.2⟩
    · exact ⟨.inr ⟨Nat.le_trans hz hk, hk2⟩, fun e => by have := (h.sub k e).2.2; omega, fun e => by have := h.lt; omega⟩
theorem nx_old : ∀ k, Nx T S p k → k < W.heap.size → ¬ (k = p) ∧ Nw (Nx T S p) W k := fun _ hk _ => ⟨hk.2.2, .inl hk⟩
theorem nx_new : ∀ k, Fr W k → k < w'.heap.size → Nw (Nx T S p) W k := fun _ hk _ => .inr hk

theorem g_beginN (h : SAt w T p x) (hx : x.at_ = .beginN) (n : Int) (ok : Bool) :
    Calls Try.prog 14 #[.pointer (some ⟨p, 0, none⟩), .int .u64 n, .bool ok] w fun e w' => e = .returned (.int .i64 0) ∧ SOut ({ x with at_ := .beginCas n }) w T p w' := by
  obtain ⟨lg, S, v, hP, hL, hS, hT, hf, hA⟩ := h
  rw [hx] at hA hf
  obtain ⟨b, u, u', rfl, hb, hu, hu2⟩ := hA
  refine give_Ld hP n ok (fun W hW => ?_)
  have G : Gv w W T S p lg x := ⟨hW, hL.frame hW.2 (fun k hk => (hS k hk).2.1), hS, hT, hP.lt⟩
  have hfr : ∀ k, Nx T S p k → k < w.heap.size → ¬ (k = p) ∧ Nx T S p k := fun k hk _ => ⟨hk.2.2, hk⟩
  obtain ⟨b1, b2, b3, rfl, k1, k2, k3⟩ := (hu.frame hW.2 hfr)
  refine load1_any (hb.frame hW.2 hfr).1 en_count_1 n ok ?_
  refine (count1_any hW.1 n 1 k1.1 k2.1).mono ?_
  rintro e w' ⟨rfl, c, h1, h2⟩
  exact ⟨rfl, G.fin h1 rfl trivial ⟨c, _, u', rfl, h2.to nx_new, ⟨b1, b2, b3, rfl, k1.frame h1.2 nx_old, k2.frame h1.2 nx_old, k3.frame h1.2 nx_old⟩, (hu2.frame hW.2 hfr).frame h1.2 nx_old⟩⟩

theorem g_leaveN {how : Int} (h : SAt w T p x) (hx : x.at_ = .leaveN how) (n : Int) (ok : Bool) :
    Calls Try.prog 14 #[.pointer (some ⟨p, 0, none⟩), .int .u64 n, .bool ok] w fun e w' => e = .returned (.int .i64 0) ∧ SOut ({ x with at_ := .leaveCas how n }) w T p w' := by
  obtain ⟨lg, S, v, hP, hL, hS, hT, hf, hA⟩ := h
  rw [hx] at hA hf
  obtain ⟨b, u, u', rfl, hb, hu, hu2⟩ := hA
  refine give_Ld hP n ok (fun W hW => ?_)
  have G : Gv w W T S p lg x := ⟨hW, hL.frame hW.2 (fun k hk => (hS k hk).2.1), hS, hT, hP.lt⟩
  have hfr : ∀ k, Nx T S p k → k < w.heap.size → ¬ (k = p) ∧ Nx T S p k := fun k hk _ => ⟨hk.2.2, hk⟩
  obtain ⟨b1, b2, b3, rfl, k1, k2, k3⟩ := (hu.frame hW.2 hfr)
  refine load1_any (hb.frame hW.2 hfr).1 en_count_1 n ok ?_
  refine (count1_any hW.1 n 18446744073709551615 k1.1 k2.1).mono ?_
  rintro e w' ⟨rfl, c, h1, h2⟩
  exact ⟨rfl, G.fin h1 rfl trivial ⟨c, _, u', rfl, h2.to nx_new, ⟨b1, b2, b3, rfl, k1.frame h1.2 nx_old, k2.frame h1.2 nx_old, k3.frame h1.2 nx_old⟩, (hu2.frame hW.2 hfr).frame h1.2 nx_old⟩⟩

theorem g_beginCas_no {m : Int} (h : SAt w T p x) (hx : x.at_ = .beginCas m) (n : Int) (ok : Bool) (hok : ok = false) :
    Calls Try.prog 14 #[.pointer (some ⟨p, 0, none⟩), .int .u64 n, .bool ok] w fun e w' => e = .returned (.int .i64 0) ∧ SOut ({ x with at_ := .beginN }) w T p w' := by
  obtain ⟨lg, S, v, hP, hL, hS, hT, hf, hA⟩ := h
  rw [hx] at hA hf
  obtain ⟨b, u, u', rfl, hb, hu, hu2⟩ := hA
  subst hok
  refine give_Cs hP n false (fun W hW => ?_)
  have G : Gv w W T S p lg x := ⟨hW, hL.frame hW.2 (fun k hk => (hS k hk).2.1), hS, hT, hP.lt⟩
  have hfr : ∀ k, Nx T S p k → k < w.heap.size → ¬ (k = p) ∧ Nx T S p k := fun k hk _ => ⟨hk.2.2, hk⟩
  obtain ⟨q1, rfl, j1⟩ := (hu2.frame hW.2 hfr)
  obtain ⟨b1, b2, b3, rfl, k1, k2, k3⟩ := (hu.frame hW.2 hfr)
  refine cas1_any (hb.frame hW.2 hfr).1 en_count_1_1 n false ?_
  refine (count11_no hW.1 1 _ _ _ k1.1 k2.1 k3.1).mono ?_
  rintro e w' ⟨rfl, c, d, h1, h2, h3⟩
  exact ⟨rfl, G.fin h1 rfl trivial ⟨c, d, _, rfl, h2.to nx_new, h3.to nx_new, ⟨q1, rfl, j1.frame h1.2 nx_old⟩⟩⟩

theorem g_beginCas_yes {m : Int} (h : SAt w T p x) (hx : x.at_ = .beginCas m) (n : Int) (ok : Bool) (hok : ok = true) :
    Calls Try.prog 14 #[.pointer (some ⟨p, 0, none⟩), .int .u64 n, .bool ok] w fun e w' => e = .returned (.int .i64 0) ∧ SOut ({ x with at_ := .beginSeq }) w T p w' := by
  obtain ⟨lg, S, v, hP, hL, hS, hT, hf, hA⟩ := h
  rw [hx] at hA hf
  obtain ⟨b, u, u', rfl, hb, hu, hu2⟩ := hA
  subst hok
  refine give_Cs hP n true (fun W hW => ?_)
  have G : Gv w W T S p lg x := ⟨hW, hL.frame hW.2 (fun k hk => (hS k hk).2.1), hS, hT, hP.lt⟩
  have hfr : ∀ k, Nx T S p k → k < w.heap.size → ¬ (k = p) ∧ Nx T S p k := fun k hk _ => ⟨hk.2.2, hk⟩
  obtain ⟨q1, rfl, j1⟩ := (hu2.frame hW.2 hfr)
  obtain ⟨b1, b2, b3, rfl, k1, k2, k3⟩ := (hu.frame hW.2 hfr)
  refine cas1_any (hb.frame hW.2 hfr).1 en_count_1_1 n true ?_
  refine count11_yes k3.1 en_enter_1 ?_
  refine (enter1_any hW.1 j1.1).mono ?_
  rintro e w' ⟨rfl, c, d, h1, h2, h3⟩
  exact ⟨rfl, G.fin h1 rfl trivial ⟨c, d, rfl, h2.to nx_new, h3.to nx_new⟩⟩

theorem g_leaveCas_no {how m : Int} (h : SAt w T p x) (hx : x.at_ = .leaveCas how m) (n : Int) (ok : Bool) (hok : ok = false) :
    Calls Try.prog 14 #[.pointer (some ⟨p, 0, none⟩), .int .u64 n, .bool ok] w fun e w' => e = .returned (.int .i64 0) ∧ SOut ({ x with at_ := .leaveN how }) w T p w' := by
  obtain ⟨lg, S, v, hP, hL, hS, hT, hf, hA⟩ := h
  rw [hx] at hA hf
  obtain ⟨b, u, u', rfl, hb, hu, hu2⟩ := hA
  subst hok
  refine give_Cs hP n false (fun W hW => ?_)
  have G : Gv w W T S p lg x := ⟨hW, hL.frame hW.2 (fun k hk => (hS k hk).2.1), hS, hT, hP.lt⟩
  have hfr : ∀ k, Nx T S p k → k < w.heap.size → ¬ (k = p) ∧ Nx T S p k := fun k hk _ => ⟨hk.2.2, hk⟩
  obtain ⟨q1, q2, rfl, j1, j2⟩ := (hu2.frame hW.2 hfr)
  obtain ⟨b1, b2, b3, rfl, k1, k2, k3⟩ := (hu.frame hW.2 hfr)
  refine cas1_any (hb.frame hW.2 hfr).1 en_count_1_1 n false ?_
  refine (count11_no hW.1 18446744073709551615 _ _ _ k1.1 k2.1 k3.1).mono ?_
  rintro e w' ⟨rfl, c, d, h1, h2, h3⟩
  exact ⟨rfl, G.fin h1 rfl trivial ⟨c, d, _, rfl, h2.to nx_new, h3.to nx_new, ⟨q1, q2, rfl, j1.frame h1.2 nx_old, j2.frame h1.2 nx_old⟩⟩⟩

theorem g_leaveCas_yes {how m : Int} (h : SAt w T p x) (hx : x.at_ = .leaveCas how m) (n : Int) (ok : Bool) (hok : ok = true) :
    Calls Try.prog 14 #[.pointer (some ⟨p, 0, none⟩), .int .u64 n, .bool ok] w fun e w' => e = .returned (.int .i64 0) ∧ SOut ({ x with at_ := .no, live := false, ended := how }) w T p w' := by
  obtain ⟨lg, S, v, hP, hL, hS, hT, hf, hA⟩ := h
  rw [hx] at hA hf
  obtain ⟨b, u, u', rfl, hb, hu, hu2⟩ := hA
  subst hok
  refine give_Cs hP n true (fun W hW => ?_)
  have G : Gv w W T S p lg x := ⟨hW, hL.frame hW.2 (fun k hk => (hS k hk).2.1), hS, hT, hP.lt⟩
  have hfr : ∀ k, Nx T S p k → k < w.heap.size → ¬ (k = p) ∧ Nx T S p k := fun k hk _ => ⟨hk.2.2, hk⟩
  obtain ⟨q1, q2, rfl, j1, j2⟩ := (hu2.frame hW.2 hfr)
  obtain ⟨b1, b2, b3, rfl, k1, k2, k3⟩ := (hu.frame hW.2 hfr)
  refine cas1_any (hb.frame hW.2 hfr).1 en_count_1_1 n true ?_
  refine count11_yes k3.1 en_leave_1 ?_
  refine (leave1_any hW.1 how j1.1 j2.1).mono ?_
  rintro e w' ⟨rfl, h1⟩
  exact ⟨rfl, G.fin h1 rfl trivial rfl⟩

theorem g_beginSeq_odd (h : SAt w T p x) (hx : x.at_ = .beginSeq) (n : Int) (ok : Bool) (hn : 0 ≤ n) (hs : n % 2 ≠ 0) :
    Calls Try.prog 14 #[.pointer (some ⟨p, 0, none⟩), .int .u64 n, .bool ok] w fun e w' => e = .returned (.int .i64 0) ∧ SOut ({ x with at_ := .beginSeq }) w T p w' := by
  obtain ⟨lg, S, v, hP, hL, hS, hT, hf, hA⟩ := h
  rw [hx] at hA hf
  obtain ⟨b, u, rfl, hb, hu⟩ := hA
  refine give_Ld hP n ok (fun W hW => ?_)
  have G : Gv w W T S p lg x := ⟨hW, hL.frame hW.2 (fun k hk => (hS k hk).2.1), hS, hT, hP.lt⟩
  have hfr : ∀ k, Nx T S p k → k < w.heap.size → ¬ (k = p) ∧ Nx T S p k := fun k hk _ => ⟨hk.2.2, hk⟩
  obtain ⟨b1, b2, rfl, k1, k2⟩ := (hu.frame hW.2 hfr)
  refine load1_any (hb.frame hW.2 hfr).1 en_even_1 n ok ?_
  refine (even1_odd hW.1 n hn hs _ _ _ k1.1 k2.1).mono ?_
  rintro e w' ⟨rfl, c, d, h1, h2, h3⟩
  exact ⟨rfl, G.fin h1 rfl trivial ⟨c, d, rfl, h2.to nx_new, h3.to nx_new⟩⟩

theorem g_beginSeq_even (h : SAt w T p x) (hx : x.at_ = .beginSeq) (n : Int) (ok : Bool) (hn : 0 ≤ n) (hs : n % 2 = 0) (h0 : 0 ≤ x.pts) (h9 : x.pts ≤ 1000000) :
    Calls Try.prog 14 #[.pointer (some ⟨p, 0, none⟩), .int .u64 n, .bool ok] w fun e w' => e = .returned (.int .i64 0) ∧ SOut ({ x with at_ := .no, snap := n, pts := x.pts + 1, live := true }) w T p w' := by
  obtain ⟨lg, S, v, hP, hL, hS, hT, hf, hA⟩ := h
  rw [hx] at hA hf
  obtain ⟨b, u, rfl, hb, hu⟩ := hA
  refine give_Ld hP n ok (fun W hW => ?_)
  have G : Gv w W T S p lg x := ⟨hW, hL.frame hW.2 (fun k hk => (hS k hk).2.1), hS, hT, hP.lt⟩
  have hfr : ∀ k, Nx T S p k → k < w.heap.size → ¬ (k = p) ∧ Nx T S p k := fun k hk _ => ⟨hk.2.2, hk⟩
  obtain ⟨b1, b2, rfl, k1, k2⟩ := (hu.frame hW.2 hfr)
  refine load1_any (hb.frame hW.2 hfr).1 en_even_1 n ok ?_
  refine even1_even n hn hs k2.1 en_begun ?_
  refine (begun_any hW.1 n h0 h9).mono ?_
  rintro e w' ⟨rfl, h1⟩
  exact ⟨rfl, G.fin h1 rfl trivial rfl⟩

theorem g_loadWord {a : Int} (h : SAt w T p x) (hx : x.at_ = .loadWord a) (n : Int) (ok : Bool) (hn : (Lit.int .u64 n).wf = true) :
    Calls Try.prog 14 #[.pointer (some ⟨p, 0, none⟩), .int .u64 n, .bool ok] w fun e w' => e = .returned (.int .i64 0) ∧ SOut ({ x with at_ := .loadSeq a n }) w T p w' := by
  obtain ⟨lg, S, v, hP, hL, hS, hT, hf, hA⟩ := h
  rw [hx] at hA hf
  obtain ⟨b, u, rfl, hb, hu⟩ := hA
  refine give_Ld hP n ok (fun W hW => ?_)
  have G : Gv w W T S p lg x := ⟨hW, hL.frame hW.2 (fun k hk => (hS k hk).2.1), hS, hT, hP.lt⟩
  have hfr : ∀ k, Nx T S p k → k < w.heap.size → ¬ (k = p) ∧ Nx T S p k := fun k hk _ => ⟨hk.2.2, hk⟩
  obtain ⟨b1, b2, rfl, k1, k2⟩ := (hu.frame hW.2 hfr)
  refine load1_any (hb.frame hW.2 hfr).1 en_fetch_1 n ok ?_
  refine (fetch1_any (b2 := b2) hW.1 n k1.1).mono ?_
  rintro e w' ⟨rfl, c, d, h1, h2, h3⟩
  exact ⟨rfl, G.fin h1 rfl ⟨hf, hn⟩ ⟨c, _, rfl, h2.to nx_new, b1, b2, d, rfl, k1.frame h1.2 nx_old, k2.frame h1.2 nx_old, h3.to nx_new⟩⟩

theorem g_loadSeq_no {a y : Int} (h : SAt w T p x) (hx : x.at_ = .loadSeq a y) (n : Int) (ok : Bool) (hs : n ≠ x.snap) :
    Calls Try.prog 14 #[.pointer (some ⟨p, 0, none⟩), .int .u64 n, .bool ok] w fun e w' => e = .returned (.int .i64 0) ∧ SOut ({ x with at_ := .checkSeq (.fetch a) }) w T p w' := by
  obtain ⟨lg, S, v, hP, hL, hS, hT, hf, hA⟩ := h
  rw [hx] at hA hf
  obtain ⟨b, u, rfl, hb, hu⟩ := hA
  refine give_Ld hP n ok (fun W hW => ?_)
  have G : Gv w W T S p lg x := ⟨hW, hL.frame hW.2 (fun k hk => (hS k hk).2.1), hS, hT, hP.lt⟩
  have hfr : ∀ k, Nx T S p k → k < w.heap.size → ¬ (k = p) ∧ Nx T S p k := fun k hk _ => ⟨hk.2.2, hk⟩
  obtain ⟨b1, b2, b3, rfl, k1, k2, k3⟩ := (hu.frame hW.2 hfr)
  refine load1_any (hb.frame hW.2 hfr).1 en_fetch_1_1 n ok ?_
  refine (fetch11_no (b2 := b2) (b3 := b3) hW.1 n hs k1.1).mono ?_
  rintro e w' ⟨rfl, c, d, d2, h1, h2, h3, h4⟩
  exact ⟨rfl, G.fin h1 rfl hf.1 ⟨c, d, d2, _, rfl, h2.to nx_new, h3.to nx_new, h4.to nx_new, b1, b2, rfl, k1.frame h1.2 nx_old, k2.frame h1.2 nx_old⟩⟩

theorem Gv.bad (h : Gv w W T S p lg x) (k : FeBad W S p lg (x.pw.ask 0 0 0 0) x.log w') : SOut { x with at_ := .leaveN 2 } w T p w' := by
  obtain ⟨V, hV, k1, k2, b, u, u', k3, k4, k5, k6⟩ := k
  have hz := h.po.2.size
  have hlt := h.lt
  have hVw : V.heap.size ≤ w'.heap.size ∨ True := .inr trivial
  have k1' := LgAt.more (T := fun k => Gr S W V k ∧ k < w'.heap.size) k1 (fun k hk e => ⟨e, hk⟩)
  refine ⟨⟨lg, _, _, k3, k1', fun k hk => ?_, .inl h.tp, trivial, b, u, u', rfl, ?_, ?_, ?_⟩, (h.po.2.mono (fun k _ e => by subst e; exact h.tp)).trans (k2.mono (fun k _ e => by
    rcases e with e | e
    · subst e; exact h.tp
    · exact (h.sub k e).1))⟩
  · rcases hk.1 with e | e
    · exact ⟨.inl (h.sub k e).1, (h.sub k e).2.1, hk.2⟩
    · exact ⟨.inr ⟨Nat.le_trans hz e.1, hk.2⟩, by omega, hk.2⟩
  all_goals
    have hh : ∀ k, Fr V k → k < w'.heap.size → Nx (Gr T w w') (fun k => Gr S W V k ∧ k < w'.heap.size) p k := fun k hk hk2 => by
      unfold Fr at hk
      refine ⟨.inr ⟨by omega, hk2⟩, fun e => ?_, by omega⟩
      rcases e.1 with e | e
      · have := (h.sub k e).2.2; omega
      · omega
  · exact k4.to hh
  · exact k5.to hh
  · exact k6.to hh
theorem Gv.ok {z : PW} (h : Gv w W T S p lg x) (k : FeOk W S p lg z y.log .nilFunc w') (hz0 : z = y.pw) (hy : y.at_ = .no) : SOut y w T p w' := by
  subst hz0
  obtain ⟨k1, k2, k3⟩ := k
  have hz := h.po.2.size
  have hlt := h.lt
  refine ⟨⟨lg, _, _, k3, k1, fun k hk => ?_, .inl h.tp, by rw [hy]; trivial, by rw [hy]; rfl⟩, (h.po.2.mono (fun k _ e => by subst e; exact h.tp)).trans (k2.mono (fun k _ e => by
    rcases e with e | e
    · subst e; exact h.tp
    · exact (h.sub k e).1))⟩
  have hz2 := k2.size
  rcases hk with e | e
  · exact ⟨.inl (h.sub k e).1, (h.sub k e).2.1, Nat.lt_of_lt_of_le (h.sub k e).2.2 (Nat.le_trans hz hz2)⟩
  · exact ⟨.inr ⟨Nat.le_trans hz e.1, e.2⟩, by omega, e.2⟩
theorem g_loadSeq_off {a y : Int} (h : SAt w T p x) (hx : x.at_ = .loadSeq a y) (n : Int) (ok : Bool) (hs : n = x.snap) (hh : hasL x.log.r a = true) (hy : valL x.log.r a ≠ y) :
    Calls Try.prog 14 #[.pointer (some ⟨p, 0, none⟩), .int .u64 n, .bool ok] w fun e w' => e = .returned (.int .i64 0) ∧ SOut ({ x with at_ := .leaveN 2 }) w T p w' := by
  obtain ⟨lg, S, v, hP, hL, hS, hT, hf, hA⟩ := h
  rw [hx] at hA hf
  obtain ⟨b, u, rfl, hb, hu⟩ := hA
  subst hs
  refine give_Ld hP x.snap ok (fun W hW => ?_)
  have G : Gv w W T S p lg x := ⟨hW, hL.frame hW.2 (fun k hk => (hS k hk).2.1), hS, hT, hP.lt⟩
  have hfr : ∀ k, Nx T S p k → k < w.heap.size → ¬ (k = p) ∧ Nx T S p k := fun k hk _ => ⟨hk.2.2, hk⟩
  obtain ⟨b1, b2, b3, rfl, k1, k2, k3⟩ := (hu.frame hW.2 hfr)
  have hpS : ¬ S p := fun e => (hS p e).2.1 rfl
  refine load1_any (hb.frame hW.2 hfr).1 en_fetch_1_1 x.snap ok ?_
  refine fetch11_yes (x := x.pw.ask 0 0 0 0) (R := fun w' => SOut ({ x with at_ := .leaveN 2 }) w T p w') hW.1 a y k1.1 k2.1 k3.1 ?_
  refine (fetched_off hW.1 G.log hpS a y hf.1.1 hh hy).mono ?_
  rintro e w' ⟨rfl, h1⟩
  exact ⟨rfl, G.bad h1⟩

theorem g_loadSeq_full {a y : Int} (h : SAt w T p x) (hx : x.at_ = .loadSeq a y) (n : Int) (ok : Bool) (hs : n = x.snap) (hh : hasL x.log.r a = false) (he : errRead x.log.r a = 70) :
    Calls Try.prog 14 #[.pointer (some ⟨p, 0, none⟩), .int .u64 n, .bool ok] w fun e w' => e = .returned (.int .i64 0) ∧ SOut ({ x with at_ := .leaveN 2 }) w T p w' := by
  obtain ⟨lg, S, v, hP, hL, hS, hT, hf, hA⟩ := h
  rw [hx] at hA hf
  obtain ⟨b, u, rfl, hb, hu⟩ := hA
  subst hs
  refine give_Ld hP x.snap ok (fun W hW => ?_)
  have G : Gv w W T S p lg x := ⟨hW, hL.frame hW.2 (fun k hk => (hS k hk).2.1), hS, hT, hP.lt⟩
  have hfr : ∀ k, Nx T S p k → k < w.heap.size → ¬ (k = p) ∧ Nx T S p k := fun k hk _ => ⟨hk.2.2, hk⟩
  obtain ⟨b1, b2, b3, rfl, k1, k2, k3⟩ := (hu.frame hW.2 hfr)
  have hpS : ¬ S p := fun e => (hS p e).2.1 rfl
  refine load1_any (hb.frame hW.2 hfr).1 en_fetch_1_1 x.snap ok ?_
  refine fetch11_yes (x := x.pw.ask 0 0 0 0) (R := fun w' => SOut ({ x with at_ := .leaveN 2 }) w T p w') hW.1 a y k1.1 k2.1 k3.1 ?_
  refine (fetched_full hW.1 G.log hpS a y hf.1.1 hf.2 hh he).mono ?_
  rintro e w' ⟨rfl, h1⟩
  exact ⟨rfl, G.bad h1⟩

theorem g_loadSeq_ok {a y : Int} (h : SAt w T p x) (hx : x.at_ = .loadSeq a y) (n : Int) (ok : Bool) (hs : n = x.snap) (hh : hasL x.log.r a = true → valL x.log.r a = y) (he : errRead x.log.r a = 0) (h0 : 0 ≤ x.pts) (h9 : x.pts ≤ 1000000) :
    Calls Try.prog 14 #[.pointer (some ⟨p, 0, none⟩), .int .u64 n, .bool ok] w fun e w' => e = .returned (.int .i64 0) ∧ SOut ({ x with at_ := .no, val := y, pts := x.pts + 1, log := x.log.read a y }) w T p w' := by
  obtain ⟨lg, S, v, hP, hL, hS, hT, hf, hA⟩ := h
  rw [hx] at hA hf
  obtain ⟨b, u, rfl, hb, hu⟩ := hA
  subst hs
  refine give_Ld hP x.snap ok (fun W hW => ?_)
  have G : Gv w W T S p lg x := ⟨hW, hL.frame hW.2 (fun k hk => (hS k hk).2.1), hS, hT, hP.lt⟩
  have hfr : ∀ k, Nx T S p k → k < w.heap.size → ¬ (k = p) ∧ Nx T S p k := fun k hk _ => ⟨hk.2.2, hk⟩
  obtain ⟨b1, b2, b3, rfl, k1, k2, k3⟩ := (hu.frame hW.2 hfr)
  have hpS : ¬ S p := fun e => (hS p e).2.1 rfl
  refine load1_any (hb.frame hW.2 hfr).1 en_fetch_1_1 x.snap ok ?_
  refine fetch11_yes (x := x.pw.ask 0 0 0 0) (R := fun w' => SOut ({ x with at_ := .no, val := y, pts := x.pts + 1, log := x.log.read a y }) w T p w') hW.1 a y k1.1 k2.1 k3.1 ?_
  refine (fetched_ok hW.1 G.log hpS h0 h9 a y hf.1.1 hf.2 hh he).mono ?_
  rintro e w' ⟨rfl, h1⟩
  exact ⟨rfl, G.ok h1 rfl rfl⟩

end

end Go.Proofs.Ytgdfiggloifncaa
