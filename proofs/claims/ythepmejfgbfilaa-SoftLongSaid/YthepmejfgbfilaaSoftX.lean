/- The document's own path: what an answer makes of it. Conditions: those stated in each theorem. -/
import Derived.Test.YthepmejfgbfilaaSoftW
namespace Go.Proofs.Ythepmejfgbfilaa
open Go.RowKit Go.BigFrame Go.Maps

theorem drop_cons {l m : List Pr} {k : Nat} {y : Pr} (h : y :: m = l.drop k) : k < l.length ∧ l[k]? = some y ∧ m = l.drop (k + 1) := by
  have hk : k < l.length := by
    rcases Nat.lt_or_ge k l.length with h2 | h2
    · exact h2
    · rw [List.drop_eq_nil_of_le h2] at h; cases h
  rw [List.drop_eq_getElem_cons hk] at h
  simp only [List.cons.injEq] at h
  exact ⟨hk, by rw [List.getElem?_eq_getElem hk, h.1], h.2⟩
theorem drop_nil {l : List Pr} {k : Nat} (h : [] = l.drop k) (hk : k ≤ l.length) : k = l.length := by
  have := congrArg List.length h
  simp at this
  omega
section
variable {w w' W : World} {C M T : Nat → Prop} {q : Nat} {y : PV}

set_option maxRecDepth 100000 in
set_option maxHeartbeats 400000 in
theorem rg_beginN (h : RAt w T q y) (v : Int) (ok : Bool) (hy : y.at_ = .beginN) : Calls Try.prog 41 #[.pointer (some ⟨q, 0, none⟩), .int .u64 v, .bool ok] w fun e w' => e = .returned (.int .i64 0) ∧ ROut { y with at_ := .beginCas v } w T q w' := by
  obtain ⟨x, rv, wv, h1, h2, h3, h4, h5, h6, h7⟩ := h
  have ha := h2.at_
  rw [hy] at ha
  have c0 := h1.head.cell (i := 0) rfl
  have c1 := h1.head.cell (i := 1) rfl
  have f0 := h1.head.free 0
  have f1 := h1.head.free 1
  have hc : x.code = 1 := ha
  rw [hc] at c0
  have HE : Hid (ROut { y with at_ := .beginCas v } w T q ((w.setCell ⟨q, 1, none⟩ (.int .u64 v)).setCell ⟨q, 0, none⟩ (.int .i64 2))) := Lib.hid (RfOut.to (x' := { x with n := v, code := 2 }) (y' := { y with at_ := .beginCas v }) (RfOut.turned h1 (((Tch.refl (· = q) w).sq 1 _).sq 0 _) ((h1.head.set 1 _).set 0 _)) ⟨h2.snap, h2.val, h2.live, h2.writing, h2.ended, h2.pts, ⟨rfl, rfl⟩⟩ h3 h4 h5 h6 h7)
  clear h1 h2 h3 h4 h5 
  go_enter Try.func41, Try.ntmps41
  go_wp2
  go_ret
  exact ⟨rfl, HE.out⟩

set_option maxRecDepth 100000 in
set_option maxHeartbeats 400000 in
theorem rg_beginCas_yes (h : RAt w T q y) (v n : Int) (hy : y.at_ = .beginCas n) : Calls Try.prog 41 #[.pointer (some ⟨q, 0, none⟩), .int .u64 v, .bool true] w fun e w' => e = .returned (.int .i64 0) ∧ ROut { y with at_ := .beginSeq } w T q w' := by
  obtain ⟨x, rv, wv, h1, h2, h3, h4, h5, h6, h7⟩ := h
  have ha := h2.at_
  rw [hy] at ha
  have c0 := h1.head.cell (i := 0) rfl
  have f0 := h1.head.free 0
  have hc : x.code = 2 := ha.1
  rw [hc] at c0
  have HE : Hid (ROut { y with at_ := .beginSeq } w T q ((w.setCell ⟨q, 0, none⟩ (.int .i64 1)).setCell ⟨q, 0, none⟩ (.int .i64 3))) := Lib.hid (RfOut.to (x' := { x with code := 3 }) (y' := { y with at_ := .beginSeq }) (RfOut.turned h1 (((Tch.refl (· = q) w).sq 0 _).sq 0 _) ((h1.head.set 0 _).set 0 _)) ⟨h2.snap, h2.val, h2.live, h2.writing, h2.ended, h2.pts, rfl⟩ h3 h4 h5 h6 h7)
  clear h1 h2 h3 h4 h5 
  go_enter Try.func41, Try.ntmps41
  go_wp2
  go_ret
  exact ⟨rfl, HE.out⟩

set_option maxRecDepth 100000 in
set_option maxHeartbeats 400000 in
theorem rg_beginCas_no (h : RAt w T q y) (v n : Int) (hy : y.at_ = .beginCas n) : Calls Try.prog 41 #[.pointer (some ⟨q, 0, none⟩), .int .u64 v, .bool false] w fun e w' => e = .returned (.int .i64 0) ∧ ROut { y with at_ := .beginN } w T q w' := by
  obtain ⟨x, rv, wv, h1, h2, h3, h4, h5, h6, h7⟩ := h
  have ha := h2.at_
  rw [hy] at ha
  have c0 := h1.head.cell (i := 0) rfl
  have f0 := h1.head.free 0
  have hc : x.code = 2 := ha.1
  rw [hc] at c0
  have HE : Hid (ROut { y with at_ := .beginN } w T q (w.setCell ⟨q, 0, none⟩ (.int .i64 1))) := Lib.hid (RfOut.to (x' := { x with code := 1 }) (y' := { y with at_ := .beginN }) (RfOut.turned h1 ((Tch.refl (· = q) w).sq 0 _) (h1.head.set 0 _)) ⟨h2.snap, h2.val, h2.live, h2.writing, h2.ended, h2.pts, rfl⟩ h3 h4 h5 h6 h7)
  clear h1 h2 h3 h4 h5 
  go_enter Try.func41, Try.ntmps41
  go_wp2
  go_ret
  exact ⟨rfl, HE.out⟩

set_option maxRecDepth 100000 in
set_option maxHeartbeats 400000 in
theorem rg_beginSeq_even (h : RAt w T q y) (v : Int) (ok : Bool) (h0 : 0 ≤ y.pts) (h9 : y.pts ≤ 1000000) (hn : 0 ≤ v) (he : v % 2 = 0) (hy : y.at_ = .beginSeq) : Calls Try.prog 41 #[.pointer (some ⟨q, 0, none⟩), .int .u64 v, .bool ok] w fun e w' => e = .returned (.int .i64 0) ∧ ROut { y with at_ := .no, snap := v, pts := y.pts + 1, live := true } w T q w' := by
  obtain ⟨x, rv, wv, h1, h2, h3, h4, h5, h6, h7⟩ := h
  have ha := h2.at_
  rw [hy] at ha
  have c0 := h1.head.cell (i := 0) rfl
  have c8 := h1.head.cell (i := 8) rfl
  have c12 := h1.head.cell (i := 12) rfl
  have c15 := h1.head.cell (i := 15) rfl
  have f0 := h1.head.free 0
  have f8 := h1.head.free 8
  have f12 := h1.head.free 12
  have f15 := h1.head.free 15
  have hc : x.code = 3 := ha
  rw [hc] at c0
  have p0 : 0 ≤ x.pts := by rw [h2.pts]; exact h0
  have p9 : x.pts ≤ 1000000 := by rw [h2.pts]; exact h9
  have d0 : v.tmod 2 = v % 2 := Int.tmod_eq_emod_of_nonneg hn
  have HE : Hid (ROut { y with at_ := .no, snap := v, pts := y.pts + 1, live := true } w T q ((((w.setCell ⟨q, 8, none⟩ (.int .u64 v)).setCell ⟨q, 15, none⟩ (.int .i64 (x.pts + 1))).setCell ⟨q, 12, none⟩ (.bool true)).setCell ⟨q, 0, none⟩ (.int .i64 0))) := Lib.hid (RfOut.to (x' := { x with snap := v, pts := x.pts + 1, live := true, code := 0 }) (y' := { y with at_ := .no, snap := v, pts := y.pts + 1, live := true }) (RfOut.turned h1 (((((Tch.refl (· = q) w).sq 8 _).sq 15 _).sq 12 _).sq 0 _) ((((h1.head.set 8 _).set 15 _).set 12 _).set 0 _)) ⟨rfl, h2.val, rfl, h2.writing, h2.ended, by show x.pts + 1 = y.pts + 1; rw [h2.pts], rfl⟩ h3 h4 h5 h6 h7)
  clear h1 h2 h3 h4 h5 
  go_enter Try.func41, Try.ntmps41
  go_wp2
  go_ret
  exact ⟨rfl, HE.out⟩

set_option maxRecDepth 100000 in
set_option maxHeartbeats 400000 in
theorem rg_beginSeq_odd (h : RAt w T q y) (v : Int) (ok : Bool) (hn : 0 ≤ v) (he : v % 2 ≠ 0) (hy : y.at_ = .beginSeq) : Calls Try.prog 41 #[.pointer (some ⟨q, 0, none⟩), .int .u64 v, .bool ok] w fun e w' => e = .returned (.int .i64 0) ∧ ROut y w T q w' := by
  obtain ⟨x, rv, wv, h1, h2, h3, h4, h5, h6, h7⟩ := h
  have ha := h2.at_
  rw [hy] at ha
  have c0 := h1.head.cell (i := 0) rfl
  have hc : x.code = 3 := ha
  rw [hc] at c0
  have d0 : v.tmod 2 = v % 2 := Int.tmod_eq_emod_of_nonneg hn
  have d1 : decide (v % 2 = 0) = false := by simpa using he
  have HE : Hid (ROut y w T q w) := Lib.hid (RfOut.to (x' := x) (y' := y) (RfOut.turned h1 (Tch.refl (· = q) w) h1.head) ⟨h2.snap, h2.val, h2.live, h2.writing, h2.ended, h2.pts, (by rw [hy]; exact ha)⟩ h3 h4 h5 h6 h7)
  clear h1 h2 h3 h4 h5 
  go_enter Try.func41, Try.ntmps41
  go_wp2
  go_ret
  exact ⟨rfl, HE.out⟩

set_option maxRecDepth 100000 in
set_option maxHeartbeats 400000 in
theorem rg_loadWord (h : RAt w T q y) (v a : Int) (ok : Bool) (hy : y.at_ = .loadWord a) : Calls Try.prog 41 #[.pointer (some ⟨q, 0, none⟩), .int .u64 v, .bool ok] w fun e w' => e = .returned (.int .i64 0) ∧ ROut { y with at_ := .loadSeq a v } w T q w' := by
  obtain ⟨x, rv, wv, h1, h2, h3, h4, h5, h6, h7⟩ := h
  have ha := h2.at_
  rw [hy] at ha
  have c0 := h1.head.cell (i := 0) rfl
  have c3 := h1.head.cell (i := 3) rfl
  have f0 := h1.head.free 0
  have f3 := h1.head.free 3
  have hc : x.code = 4 := ha.1
  rw [hc] at c0
  have HE : Hid (ROut { y with at_ := .loadSeq a v } w T q ((w.setCell ⟨q, 3, none⟩ (.int .u64 v)).setCell ⟨q, 0, none⟩ (.int .i64 5))) := Lib.hid (RfOut.to (x' := { x with v := v, code := 5 }) (y' := { y with at_ := .loadSeq a v }) (RfOut.turned h1 (((Tch.refl (· = q) w).sq 3 _).sq 0 _) ((h1.head.set 3 _).set 0 _)) ⟨h2.snap, h2.val, h2.live, h2.writing, h2.ended, h2.pts, ⟨rfl, ha.2, rfl⟩⟩ h3 h4 h5 h6 h7)
  clear h1 h2 h3 h4 h5 
  go_enter Try.func41, Try.ntmps41
  go_wp2
  go_ret
  exact ⟨rfl, HE.out⟩

set_option maxRecDepth 100000 in
set_option maxHeartbeats 400000 in
theorem rg_leaveN (h : RAt w T q y) (v how : Int) (ok : Bool) (hy : y.at_ = .leaveN how) : Calls Try.prog 41 #[.pointer (some ⟨q, 0, none⟩), .int .u64 v, .bool ok] w fun e w' => e = .returned (.int .i64 0) ∧ ROut { y with at_ := .leaveCas how v } w T q w' := by
  obtain ⟨x, rv, wv, h1, h2, h3, h4, h5, h6, h7⟩ := h
  have ha := h2.at_
  rw [hy] at ha
  have c0 := h1.head.cell (i := 0) rfl
  have c1 := h1.head.cell (i := 1) rfl
  have f0 := h1.head.free 0
  have f1 := h1.head.free 1
  have hc : x.code = 12 := ha.1
  rw [hc] at c0
  have HE : Hid (ROut { y with at_ := .leaveCas how v } w T q ((w.setCell ⟨q, 1, none⟩ (.int .u64 v)).setCell ⟨q, 0, none⟩ (.int .i64 13))) := Lib.hid (RfOut.to (x' := { x with n := v, code := 13 }) (y' := { y with at_ := .leaveCas how v }) (RfOut.turned h1 (((Tch.refl (· = q) w).sq 1 _).sq 0 _) ((h1.head.set 1 _).set 0 _)) ⟨h2.snap, h2.val, h2.live, h2.writing, h2.ended, h2.pts, ⟨rfl, ha.2, rfl⟩⟩ h3 h4 h5 h6 h7)
  clear h1 h2 h3 h4 h5 
  go_enter Try.func41, Try.ntmps41
  go_wp2
  go_ret
  exact ⟨rfl, HE.out⟩

set_option maxRecDepth 100000 in
set_option maxHeartbeats 400000 in
theorem rg_leaveCas_yes (h : RAt w T q y) (v how n : Int) (hy : y.at_ = .leaveCas how n) : Calls Try.prog 41 #[.pointer (some ⟨q, 0, none⟩), .int .u64 v, .bool true] w fun e w' => e = .returned (.int .i64 0) ∧ ROut { y with at_ := .no, live := false, ended := how } w T q w' := by
  obtain ⟨x, rv, wv, h1, h2, h3, h4, h5, h6, h7⟩ := h
  have ha := h2.at_
  rw [hy] at ha
  have c0 := h1.head.cell (i := 0) rfl
  have c7 := h1.head.cell (i := 7) rfl
  have c12 := h1.head.cell (i := 12) rfl
  have c14 := h1.head.cell (i := 14) rfl
  have f0 := h1.head.free 0
  have f12 := h1.head.free 12
  have f14 := h1.head.free 14
  have hc : x.code = 13 := ha.1
  rw [hc] at c0
  have hw := ha.2.1
  rw [hw] at c7
  have HE : Hid (ROut { y with at_ := .no, live := false, ended := how } w T q ((((w.setCell ⟨q, 0, none⟩ (.int .i64 12)).setCell ⟨q, 0, none⟩ (.int .i64 0)).setCell ⟨q, 12, none⟩ (.bool false)).setCell ⟨q, 14, none⟩ (.int .i64 how))) := Lib.hid (RfOut.to (x' := { x with code := 0, live := false, ended := how }) (y' := { y with at_ := .no, live := false, ended := how }) (RfOut.turned h1 (((((Tch.refl (· = q) w).sq 0 _).sq 0 _).sq 12 _).sq 14 _) ((((h1.head.set 0 _).set 0 _).set 12 _).set 14 _)) ⟨h2.snap, h2.val, rfl, h2.writing, rfl, h2.pts, rfl⟩ h3 h4 h5 h6 h7)
  clear h1 h2 h3 h4 h5 
  go_enter Try.func41, Try.ntmps41
  go_wp2
  go_ret
  exact ⟨rfl, HE.out⟩

set_option maxRecDepth 100000 in
set_option maxHeartbeats 400000 in
theorem rg_leaveCas_no (h : RAt w T q y) (v how n : Int) (hy : y.at_ = .leaveCas how n) : Calls Try.prog 41 #[.pointer (some ⟨q, 0, none⟩), .int .u64 v, .bool false] w fun e w' => e = .returned (.int .i64 0) ∧ ROut { y with at_ := .leaveN how } w T q w' := by
  obtain ⟨x, rv, wv, h1, h2, h3, h4, h5, h6, h7⟩ := h
  have ha := h2.at_
  rw [hy] at ha
  have c0 := h1.head.cell (i := 0) rfl
  have f0 := h1.head.free 0
  have hc : x.code = 13 := ha.1
  rw [hc] at c0
  have HE : Hid (ROut { y with at_ := .leaveN how } w T q (w.setCell ⟨q, 0, none⟩ (.int .i64 12))) := Lib.hid (RfOut.to (x' := { x with code := 12 }) (y' := { y with at_ := .leaveN how }) (RfOut.turned h1 ((Tch.refl (· = q) w).sq 0 _) (h1.head.set 0 _)) ⟨h2.snap, h2.val, h2.live, h2.writing, h2.ended, h2.pts, ⟨rfl, ha.2.1⟩⟩ h3 h4 h5 h6 h7)
  clear h1 h2 h3 h4 h5 
  go_enter Try.func41, Try.ntmps41
  go_wp2
  go_ret
  exact ⟨rfl, HE.out⟩

set_option maxRecDepth 100000 in
set_option maxHeartbeats 400000 in
theorem rg_back_more (h : RAt w T q y) (v : Int) (ok : Bool) (z : Pr) (l : List Pr) (hm : l ≠ []) (hy : y.at_ = .back (z :: l)) : Calls Try.prog 41 #[.pointer (some ⟨q, 0, none⟩), .int .u64 v, .bool ok] w fun e w' => e = .returned (.int .i64 0) ∧ ROut { y with at_ := .back l } w T q w' := by
  obtain ⟨x, rv, wv, h1, h2, h3, h4, h5, h6, h7⟩ := h
  have ha := h2.at_
  rw [hy] at ha
  have c0 := h1.head.cell (i := 0) rfl
  have c5 := h1.head.cell (i := 5) rfl
  have c11 := h1.head.cell (i := 11) rfl
  have f5 := h1.head.free 5
  obtain ⟨k, hc, hi, hk, hl⟩ := ha
  obtain ⟨k1, -, k3⟩ := drop_cons hl
  rw [if_pos k1] at hc
  rw [hc] at c0
  rw [hi] at c5
  obtain ⟨ad, cap, rfl, -, -⟩ := h1.wl.spot
  have k4 : k + 1 < y.log.w.length := by
    rcases Nat.lt_or_ge (k + 1) y.log.w.length with h | h
    · exact h
    · exact absurd (k3.trans (List.drop_eq_nil_of_le h)) hm
  have d1 : decide ((k : Int) + 1 = (y.log.w.length : Int)) = false := by simp; omega
  have d2 : ((k : Int) + 1 == (y.log.w.length : Int)) = false := by simp; omega
  have HE : Hid (∀ n1 : Nat, ROut { y with at_ := .back l } w T q ((w.setCell ⟨q, 5, none⟩ (.int .i64 ((k : Int) + 1))).drewN n1)) := Lib.hid (fun n1 => RfOut.to (x' := { x with i := (k : Int) + 1 }) (y' := { y with at_ := .back l }) (RfOut.turned h1 (((Tch.refl (· = q) w).sq 5 _).drewN _) ((h1.head.set 5 _).drewN _)) ⟨h2.snap, h2.val, h2.live, h2.writing, h2.ended, h2.pts, ⟨k + 1, hc.trans (if_pos k4).symm, rfl, Nat.le_of_lt k4, k3⟩⟩ h3 h4 h5 h6 h7)
  clear h1 h2 h3 h4 h5 
  go_enter Try.func41, Try.ntmps41
  go_wp2
  go_quiet (fail)
  go_wp2
  go_ret
  exact ⟨rfl, HE.out _⟩

set_option maxRecDepth 100000 in
set_option maxHeartbeats 400000 in
theorem rg_back_end (h : RAt w T q y) (v : Int) (ok : Bool) (z : Pr) (hy : y.at_ = .back [z]) : Calls Try.prog 41 #[.pointer (some ⟨q, 0, none⟩), .int .u64 v, .bool ok] w fun e w' => e = .returned (.int .i64 0) ∧ ROut { y with at_ := .back [] } w T q w' := by
  obtain ⟨x, rv, wv, h1, h2, h3, h4, h5, h6, h7⟩ := h
  have ha := h2.at_
  rw [hy] at ha
  have c0 := h1.head.cell (i := 0) rfl
  have c5 := h1.head.cell (i := 5) rfl
  have c11 := h1.head.cell (i := 11) rfl
  have f0 := h1.head.free 0
  have f5 := h1.head.free 5
  obtain ⟨k, hc, hi, hk, hl⟩ := ha
  obtain ⟨k1, -, k3⟩ := drop_cons hl
  rw [if_pos k1] at hc
  rw [hc] at c0
  rw [hi] at c5
  obtain ⟨ad, cap, rfl, -, -⟩ := h1.wl.spot
  have k4 : k + 1 = y.log.w.length := drop_nil k3 (by omega)
  have d1 : decide ((k : Int) + 1 = (y.log.w.length : Int)) = true := by simp; omega
  have d2 : ((k : Int) + 1 == (y.log.w.length : Int)) = true := by simp; omega
  have HE : Hid (∀ n1 : Nat, ROut { y with at_ := .back [] } w T q (((w.setCell ⟨q, 5, none⟩ (.int .i64 ((k : Int) + 1))).drewN n1).setCell ⟨q, 0, none⟩ (.int .i64 11))) := Lib.hid (fun n1 => RfOut.to (x' := { x with i := (k : Int) + 1, code := 11 }) (y' := { y with at_ := .back [] }) (RfOut.turned h1 ((((Tch.refl (· = q) w).sq 5 _).drewN _).sq 0 _) (((h1.head.set 5 _).drewN _).set 0 _)) ⟨h2.snap, h2.val, h2.live, h2.writing, h2.ended, h2.pts, ⟨k + 1, (if_neg (show ¬ (k + 1 < y.log.w.length) by omega)).symm, rfl, Nat.le_of_eq k4, k3⟩⟩ h3 h4 h5 h6 h7)
  clear h1 h2 h3 h4 h5 
  go_enter Try.func41, Try.ntmps41
  go_wp2
  go_quiet (fail)
  go_wp2
  go_ret
  exact ⟨rfl, HE.out _⟩

set_option maxRecDepth 100000 in
set_option maxHeartbeats 400000 in
theorem t_no (h : RAt w T q y)  (hy : y.at_ = .take) : Calls Try.prog 63 #[.pointer (some ⟨q, 0, none⟩), .bool false] w fun e w' => e = .returned (.tuple #[]) ∧ ROut { y with at_ := .checkSeq .sign } w T q w' := by
  obtain ⟨x, rv, wv, h1, h2, h3, h4, h5, h6, h7⟩ := h
  have ha := h2.at_
  rw [hy] at ha
  have c0 := h1.head.cell (i := 0) rfl
  have c6 := h1.head.cell (i := 6) rfl
  have f0 := h1.head.free 0
  have f6 := h1.head.free 6
  have hc : x.code = 9 := ha.1
  rw [hc] at c0
  have HE : Hid (ROut { y with at_ := .checkSeq .sign } w T q ((w.setCell ⟨q, 6, none⟩ (.int .i64 9)).setCell ⟨q, 0, none⟩ (.int .i64 6))) := Lib.hid (RfOut.to (x' := { x with to := 9, code := 6 }) (y' := { y with at_ := .checkSeq .sign }) (RfOut.turned h1 (((Tch.refl (· = q) w).sq 6 _).sq 0 _) ((h1.head.set 6 _).set 0 _)) ⟨h2.snap, h2.val, h2.live, h2.writing, h2.ended, h2.pts, ⟨rfl, rfl, ha.2⟩⟩ h3 h4 h5 h6 h7)
  clear h1 h2 h3 h4 h5 
  go_enter Try.func63, Try.ntmps63
  go_wp2
  refine bodyPost_ret (v := .tuple #[]) (by simp [results, Try.results63, go_sem]) rfl ⟨rfl, ?_⟩
  exact HE.out

set_option maxRecDepth 100000 in
set_option maxHeartbeats 400000 in
theorem t_yes (h : RAt w T q y) (h0 : 0 ≤ y.pts) (h9 : y.pts ≤ 1000000) (hy : y.at_ = .take) : Calls Try.prog 63 #[.pointer (some ⟨q, 0, none⟩), .bool true] w fun e w' => e = .returned (.tuple #[]) ∧ ROut { y with at_ := .back y.log.w, pts := y.pts + 1, writing := true } w T q w' := by
  obtain ⟨x, rv, wv, h1, h2, h3, h4, h5, h6, h7⟩ := h
  have ha := h2.at_
  rw [hy] at ha
  have c0 := h1.head.cell (i := 0) rfl
  have c5 := h1.head.cell (i := 5) rfl
  have c13 := h1.head.cell (i := 13) rfl
  have c15 := h1.head.cell (i := 15) rfl
  have f0 := h1.head.free 0
  have f5 := h1.head.free 5
  have f13 := h1.head.free 13
  have f15 := h1.head.free 15
  have hc : x.code = 9 := ha.1
  rw [hc] at c0
  have p0 : 0 ≤ x.pts := by rw [h2.pts]; exact h0
  have p9 : x.pts ≤ 1000000 := by rw [h2.pts]; exact h9
  have HE : Hid (ROut { y with at_ := .back y.log.w, pts := y.pts + 1, writing := true } w T q ((((w.setCell ⟨q, 15, none⟩ (.int .i64 (x.pts + 1))).setCell ⟨q, 13, none⟩ (.bool true)).setCell ⟨q, 5, none⟩ (.int .i64 0)).setCell ⟨q, 0, none⟩ (.int .i64 10))) := Lib.hid (RfOut.to (x' := { x with pts := x.pts + 1, writing := true, i := 0, code := 10 }) (y' := { y with at_ := .back y.log.w, pts := y.pts + 1, writing := true }) (RfOut.turned h1 (((((Tch.refl (· = q) w).sq 15 _).sq 13 _).sq 5 _).sq 0 _) ((((h1.head.set 15 _).set 13 _).set 5 _).set 0 _)) ⟨h2.snap, h2.val, h2.live, rfl, h2.ended, by show x.pts + 1 = y.pts + 1; rw [h2.pts], ⟨0, (by rw [if_pos (List.length_pos_iff.2 ha.2)]), rfl, Nat.zero_le _, rfl⟩⟩ h3 h4 h5 h6 h7)
  clear h1 h2 h3 h4 h5 
  go_enter Try.func63, Try.ntmps63
  go_wp2
  refine ⟨rfl, .tuple #[], (by simp [results, Try.results63, go_sem]), rfl, ?_⟩
  exact HE.out

set_option maxRecDepth 100000 in
set_option maxHeartbeats 400000 in
theorem k_end_no (h : RAt w T q y) (v g : Int) (t : Th) (hv : v ≠ g) (hy : y.at_ = .check g [] t) : Calls Try.prog 62 #[.pointer (some ⟨q, 0, none⟩), .int .u64 v] w fun e w' => e = .returned (.tuple #[]) ∧ ROut { y with at_ := .checkSeq t } w T q w' := by
  obtain ⟨x, rv, wv, h1, h2, h3, h4, h5, h6, h7⟩ := h
  have ha := h2.at_
  rw [hy] at ha
  have c0 := h1.head.cell (i := 0) rfl
  have c4 := h1.head.cell (i := 4) rfl
  have f0 := h1.head.free 0
  obtain ⟨k, hc, hg, hi, hk, hl, ht⟩ := ha
  have k4 := drop_nil hl hk
  rw [if_neg (by omega)] at hc
  rw [hc] at c0
  rw [hg] at c4
  have d1 : (v == g) = false := by simpa using hv
  have HE : Hid (ROut { y with at_ := .checkSeq t } w T q (w.setCell ⟨q, 0, none⟩ (.int .i64 6))) := Lib.hid (RfOut.to (x' := { x with code := 6 }) (y' := { y with at_ := .checkSeq t }) (RfOut.turned h1 ((Tch.refl (· = q) w).sq 0 _) (h1.head.set 0 _)) ⟨h2.snap, h2.val, h2.live, h2.writing, h2.ended, h2.pts, ⟨rfl, ht⟩⟩ h3 h4 h5 h6 h7)
  clear h1 h2 h3 h4 h5 
  go_enter Try.func62, Try.ntmps62
  go_wp2
  refine bodyPost_ret (v := .tuple #[]) (by simp [results, Try.results62, go_sem]) rfl ⟨rfl, ?_⟩
  exact HE.out

set_option maxRecDepth 100000 in
set_option maxHeartbeats 400000 in
theorem k_end_fetch (h : RAt w T q y) (g a : Int) (h0 : 0 ≤ y.pts) (h9 : y.pts ≤ 1000000) (hy : y.at_ = .check g [] (.fetch a)) : Calls Try.prog 62 #[.pointer (some ⟨q, 0, none⟩), .int .u64 g] w fun e w' => e = .returned (.tuple #[]) ∧ ROut { y with at_ := .loadWord a, snap := g, pts := y.pts + 1 } w T q w' := by
  obtain ⟨x, rv, wv, h1, h2, h3, h4, h5, h6, h7⟩ := h
  have ha := h2.at_
  rw [hy] at ha
  have c0 := h1.head.cell (i := 0) rfl
  have c4 := h1.head.cell (i := 4) rfl
  have c6 := h1.head.cell (i := 6) rfl
  have c8 := h1.head.cell (i := 8) rfl
  have c15 := h1.head.cell (i := 15) rfl
  have f0 := h1.head.free 0
  have f8 := h1.head.free 8
  have f15 := h1.head.free 15
  obtain ⟨k, hc, hg, hi, hk, hl, ht⟩ := ha
  have k4 := drop_nil hl hk
  rw [if_neg (by omega)] at hc
  rw [hc] at c0
  rw [hg] at c4
  have p0 : 0 ≤ x.pts := by rw [h2.pts]; exact h0
  have p9 : x.pts ≤ 1000000 := by rw [h2.pts]; exact h9
  have hto := ht.1
  rw [hto] at c6
  have HE : Hid (ROut { y with at_ := .loadWord a, snap := g, pts := y.pts + 1 } w T q (((w.setCell ⟨q, 8, none⟩ (.int .u64 g)).setCell ⟨q, 15, none⟩ (.int .i64 (x.pts + 1))).setCell ⟨q, 0, none⟩ (.int .i64 4))) := Lib.hid (RfOut.to (x' := { x with snap := g, pts := x.pts + 1, code := 4 }) (y' := { y with at_ := .loadWord a, snap := g, pts := y.pts + 1 }) (RfOut.turned h1 ((((Tch.refl (· = q) w).sq 8 _).sq 15 _).sq 0 _) (((h1.head.set 8 _).set 15 _).set 0 _)) ⟨rfl, h2.val, h2.live, h2.writing, h2.ended, by show x.pts + 1 = y.pts + 1; rw [h2.pts], ⟨rfl, ht.2⟩⟩ h3 h4 h5 h6 h7)
  clear h1 h2 h3 h4 h5 
  go_enter Try.func62, Try.ntmps62
  go_wp2
  refine bodyPost_ret (v := .tuple #[]) (by simp [results, Try.results62, go_sem]) rfl ⟨rfl, ?_⟩
  exact HE.out

set_option maxRecDepth 100000 in
set_option maxHeartbeats 400000 in
theorem k_end_sign (h : RAt w T q y) (g : Int) (h0 : 0 ≤ y.pts) (h9 : y.pts ≤ 1000000) (hy : y.at_ = .check g [] .sign) : Calls Try.prog 62 #[.pointer (some ⟨q, 0, none⟩), .int .u64 g] w fun e w' => e = .returned (.tuple #[]) ∧ ROut { y with at_ := .take, snap := g, pts := y.pts + 1 } w T q w' := by
  obtain ⟨x, rv, wv, h1, h2, h3, h4, h5, h6, h7⟩ := h
  have ha := h2.at_
  rw [hy] at ha
  have c0 := h1.head.cell (i := 0) rfl
  have c4 := h1.head.cell (i := 4) rfl
  have c6 := h1.head.cell (i := 6) rfl
  have c8 := h1.head.cell (i := 8) rfl
  have c15 := h1.head.cell (i := 15) rfl
  have f0 := h1.head.free 0
  have f8 := h1.head.free 8
  have f15 := h1.head.free 15
  obtain ⟨k, hc, hg, hi, hk, hl, ht⟩ := ha
  have k4 := drop_nil hl hk
  rw [if_neg (by omega)] at hc
  rw [hc] at c0
  rw [hg] at c4
  have p0 : 0 ≤ x.pts := by rw [h2.pts]; exact h0
  have p9 : x.pts ≤ 1000000 := by rw [h2.pts]; exact h9
  have hto := ht.1
  rw [hto] at c6
  have HE : Hid (ROut { y with at_ := .take, snap := g, pts := y.pts + 1 } w T q (((w.setCell ⟨q, 8, none⟩ (.int .u64 g)).setCell ⟨q, 15, none⟩ (.int .i64 (x.pts + 1))).setCell ⟨q, 0, none⟩ (.int .i64 9))) := Lib.hid (RfOut.to (x' := { x with snap := g, pts := x.pts + 1, code := 9 }) (y' := { y with at_ := .take, snap := g, pts := y.pts + 1 }) (RfOut.turned h1 ((((Tch.refl (· = q) w).sq 8 _).sq 15 _).sq 0 _) (((h1.head.set 8 _).set 15 _).set 0 _)) ⟨rfl, h2.val, h2.live, h2.writing, h2.ended, by show x.pts + 1 = y.pts + 1; rw [h2.pts], ⟨rfl, ht.2⟩⟩ h3 h4 h5 h6 h7)
  clear h1 h2 h3 h4 h5 
  go_enter Try.func62, Try.ntmps62
  go_wp2
  refine bodyPost_ret (v := .tuple #[]) (by simp [results, Try.results62, go_sem]) rfl ⟨rfl, ?_⟩
  exact HE.out

set_option maxRecDepth 100000 in
set_option maxHeartbeats 400000 in
theorem k_odd (h : RAt w T q y) (v : Int) (t : Th) (hn : 0 ≤ v) (he : v % 2 ≠ 0) (hy : y.at_ = .checkSeq t) : Calls Try.prog 62 #[.pointer (some ⟨q, 0, none⟩), .int .u64 v] w fun e w' => e = .returned (.tuple #[]) ∧ ROut y w T q w' := by
  obtain ⟨x, rv, wv, h1, h2, h3, h4, h5, h6, h7⟩ := h
  have ha := h2.at_
  rw [hy] at ha
  have c0 := h1.head.cell (i := 0) rfl
  have hc : x.code = 6 := ha.1
  rw [hc] at c0
  have d0 : v.tmod 2 = v % 2 := Int.tmod_eq_emod_of_nonneg hn
  have d1 : v % 2 = 1 := by omega
  have HE : Hid (ROut y w T q w) := Lib.hid (RfOut.to (x' := x) (y' := y) (RfOut.turned h1 (Tch.refl (· = q) w) h1.head) ⟨h2.snap, h2.val, h2.live, h2.writing, h2.ended, h2.pts, (by rw [hy]; exact ha)⟩ h3 h4 h5 h6 h7)
  clear h1 h2 h3 h4 h5 
  go_enter Try.func62, Try.ntmps62
  go_wp2
  refine bodyPost_ret (v := .tuple #[]) (by simp [results, Try.results62, go_sem]) rfl ⟨rfl, ?_⟩
  exact HE.out

set_option maxRecDepth 100000 in
set_option maxHeartbeats 400000 in
theorem k_even_some (h : RAt w T q y) (v : Int) (t : Th) (hn : 0 ≤ v) (he : v % 2 = 0) (hr : 0 < y.log.r.length) (hy : y.at_ = .checkSeq t) : Calls Try.prog 62 #[.pointer (some ⟨q, 0, none⟩), .int .u64 v] w fun e w' => e = .returned (.tuple #[]) ∧ ROut { y with at_ := .check v y.log.r t } w T q w' := by
  obtain ⟨x, rv, wv, h1, h2, h3, h4, h5, h6, h7⟩ := h
  have ha := h2.at_
  rw [hy] at ha
  have c0 := h1.head.cell (i := 0) rfl
  have c4 := h1.head.cell (i := 4) rfl
  have c5 := h1.head.cell (i := 5) rfl
  have c10 := h1.head.cell (i := 10) rfl
  have f0 := h1.head.free 0
  have f4 := h1.head.free 4
  have f5 := h1.head.free 5
  have hc : x.code = 6 := ha.1
  rw [hc] at c0
  have d0 : v.tmod 2 = v % 2 := Int.tmod_eq_emod_of_nonneg hn
  obtain ⟨ad, cap, rfl, -, -⟩ := h1.r.spot
  have d1 : decide ((0 : Int) = (y.log.r.length : Int)) = false := by simp; omega
  have d2 : ((0 : Int) == (y.log.r.length : Int)) = false := by simp; omega
  have HE : Hid (∀ n1 : Nat, ROut { y with at_ := .check v y.log.r t } w T q ((((w.setCell ⟨q, 4, none⟩ (.int .u64 v)).setCell ⟨q, 5, none⟩ (.int .i64 0)).setCell ⟨q, 0, none⟩ (.int .i64 7)).drewN n1)) := Lib.hid (fun n1 => RfOut.to (x' := { x with g := v, i := 0, code := 7 }) (y' := { y with at_ := .check v y.log.r t }) (RfOut.turned h1 (((((Tch.refl (· = q) w).sq 4 _).sq 5 _).sq 0 _).drewN _) ((((h1.head.set 4 _).set 5 _).set 0 _).drewN _)) ⟨h2.snap, h2.val, h2.live, h2.writing, h2.ended, h2.pts, ⟨0, (if_pos hr).symm, rfl, rfl, Nat.zero_le _, rfl, ha.2⟩⟩ h3 h4 h5 h6 h7)
  clear h1 h2 h3 h4 h5 
  go_enter Try.func62, Try.ntmps62
  go_wp2
  go_quiet (fail)
  go_wp2
  refine ⟨rfl, .tuple #[], (by simp [results, Try.results62, go_sem]), rfl, ?_⟩
  exact HE.out _

set_option maxRecDepth 100000 in
set_option maxHeartbeats 400000 in
theorem k_even_none (h : RAt w T q y) (v : Int) (t : Th) (hn : 0 ≤ v) (he : v % 2 = 0) (hr : y.log.r.length = 0) (hy : y.at_ = .checkSeq t) : Calls Try.prog 62 #[.pointer (some ⟨q, 0, none⟩), .int .u64 v] w fun e w' => e = .returned (.tuple #[]) ∧ ROut { y with at_ := .check v y.log.r t } w T q w' := by
  obtain ⟨x, rv, wv, h1, h2, h3, h4, h5, h6, h7⟩ := h
  have ha := h2.at_
  rw [hy] at ha
  have c0 := h1.head.cell (i := 0) rfl
  have c4 := h1.head.cell (i := 4) rfl
  have c5 := h1.head.cell (i := 5) rfl
  have c10 := h1.head.cell (i := 10) rfl
  have f0 := h1.head.free 0
  have f4 := h1.head.free 4
  have f5 := h1.head.free 5
  have hc : x.code = 6 := ha.1
  rw [hc] at c0
  have d0 : v.tmod 2 = v % 2 := Int.tmod_eq_emod_of_nonneg hn
  obtain ⟨ad, cap, rfl, -, -⟩ := h1.r.spot
  rw [hr] at c10
  have HE : Hid (∀ n1 : Nat, ROut { y with at_ := .check v y.log.r t } w T q (((((w.setCell ⟨q, 4, none⟩ (.int .u64 v)).setCell ⟨q, 5, none⟩ (.int .i64 0)).setCell ⟨q, 0, none⟩ (.int .i64 7)).drewN n1).setCell ⟨q, 0, none⟩ (.int .i64 8))) := Lib.hid (fun n1 => RfOut.to (x' := { x with g := v, i := 0, code := 8 }) (y' := { y with at_ := .check v y.log.r t }) (RfOut.turned h1 ((((((Tch.refl (· = q) w).sq 4 _).sq 5 _).sq 0 _).drewN _).sq 0 _) (((((h1.head.set 4 _).set 5 _).set 0 _).drewN _).set 0 _)) ⟨h2.snap, h2.val, h2.live, h2.writing, h2.ended, h2.pts, ⟨0, (if_neg (show ¬ (0 < y.log.r.length) by omega)).symm, rfl, rfl, Nat.zero_le _, rfl, ha.2⟩⟩ h3 h4 h5 h6 h7)
  clear h1 h2 h3 h4 h5 
  go_enter Try.func62, Try.ntmps62
  go_wp2
  go_quiet (fail)
  go_wp2
  refine ⟨rfl, .tuple #[], (by simp [results, Try.results62, go_sem]), rfl, ?_⟩
  exact HE.out _

set_option maxRecDepth 100000 in
set_option maxHeartbeats 400000 in
theorem k_one_more (h : RAt w T q y) (g : Int) (z : Pr) (l : List Pr) (t : Th) (hm : l ≠ []) (hy : y.at_ = .check g (z :: l) t) : Calls Try.prog 62 #[.pointer (some ⟨q, 0, none⟩), .int .u64 z.v] w fun e w' => e = .returned (.tuple #[]) ∧ ROut { y with at_ := .check g l t } w T q w' := by
  obtain ⟨x, rv, wv, h1, h2, h3, h4, h5, h6, h7⟩ := h
  have ha := h2.at_
  rw [hy] at ha
  have c0 := h1.head.cell (i := 0) rfl
  have c5 := h1.head.cell (i := 5) rfl
  have c10 := h1.head.cell (i := 10) rfl
  have f0 := h1.head.free 0
  have f5 := h1.head.free 5
  obtain ⟨k, hc, hg, hi, hk, hl, ht⟩ := ha
  obtain ⟨k1, k2, k3⟩ := drop_cons hl
  rw [if_pos k1] at hc
  rw [hc] at c0
  rw [hi] at c5
  obtain ⟨ad, cap, rfl, hr, -⟩ := h1.r.spot
  obtain ⟨q0, o0, rfl⟩ := rows_some hr (by omega)
  have r1 := (rows_cells hr k2).2
  have k4 : k + 1 < y.log.r.length := by
    rcases Nat.lt_or_ge (k + 1) y.log.r.length with h | h
    · exact h
    · exact absurd (k3.trans (List.drop_eq_nil_of_le h)) hm
  have d1 : decide ((k : Int) + 1 = (y.log.r.length : Int)) = false := by simp; omega
  have d2 : ((k : Int) + 1 == (y.log.r.length : Int)) = false := by simp; omega
  have HE : Hid (∀ n1 n2 : Nat, ROut { y with at_ := .check g l t } w T q ((((w.drewN n1).setCell ⟨q, 5, none⟩ (.int .i64 ((k : Int) + 1))).setCell ⟨q, 0, none⟩ (.int .i64 7)).drewN n2)) := Lib.hid (fun n1 n2 => RfOut.to (x' := { x with i := (k : Int) + 1, code := 7 }) (y' := { y with at_ := .check g l t }) (RfOut.turned h1 (((((Tch.refl (· = q) w).drewN _).sq 5 _).sq 0 _).drewN _) ((((h1.head.drewN _).set 5 _).set 0 _).drewN _)) ⟨h2.snap, h2.val, h2.live, h2.writing, h2.ended, h2.pts, ⟨k + 1, (if_pos k4).symm, hg, rfl, Nat.le_of_lt k4, k3, ht⟩⟩ h3 h4 h5 h6 h7)
  clear h1 h2 h3 h4 h5 
  go_enter Try.func62, Try.ntmps62
  go_wp2
  go_quiet (fail)
  go_wp2
  go_quiet (fail)
  go_wp2
  refine ⟨rfl, .tuple #[], (by simp [results, Try.results62, go_sem]), rfl, ?_⟩
  exact HE.out _ _

set_option maxRecDepth 100000 in
set_option maxHeartbeats 400000 in
theorem k_one_last (h : RAt w T q y) (g : Int) (z : Pr) (t : Th) (hy : y.at_ = .check g [z] t) : Calls Try.prog 62 #[.pointer (some ⟨q, 0, none⟩), .int .u64 z.v] w fun e w' => e = .returned (.tuple #[]) ∧ ROut { y with at_ := .check g [] t } w T q w' := by
  obtain ⟨x, rv, wv, h1, h2, h3, h4, h5, h6, h7⟩ := h
  have ha := h2.at_
  rw [hy] at ha
  have c0 := h1.head.cell (i := 0) rfl
  have c5 := h1.head.cell (i := 5) rfl
  have c10 := h1.head.cell (i := 10) rfl
  have f0 := h1.head.free 0
  have f5 := h1.head.free 5
  obtain ⟨k, hc, hg, hi, hk, hl, ht⟩ := ha
  obtain ⟨k1, k2, k3⟩ := drop_cons hl
  rw [if_pos k1] at hc
  rw [hc] at c0
  rw [hi] at c5
  obtain ⟨ad, cap, rfl, hr, -⟩ := h1.r.spot
  obtain ⟨q0, o0, rfl⟩ := rows_some hr (by omega)
  have r1 := (rows_cells hr k2).2
  have k4 : k + 1 = y.log.r.length := drop_nil k3 (by omega)
  have d1 : decide ((k : Int) + 1 = (y.log.r.length : Int)) = true := by simp; omega
  have d2 : ((k : Int) + 1 == (y.log.r.length : Int)) = true := by simp; omega
  have HE : Hid (∀ n1 n2 : Nat, ROut { y with at_ := .check g [] t } w T q (((((w.drewN n1).setCell ⟨q, 5, none⟩ (.int .i64 ((k : Int) + 1))).setCell ⟨q, 0, none⟩ (.int .i64 7)).drewN n2).setCell ⟨q, 0, none⟩ (.int .i64 8))) := Lib.hid (fun n1 n2 => RfOut.to (x' := { x with i := (k : Int) + 1, code := 8 }) (y' := { y with at_ := .check g [] t }) (RfOut.turned h1 ((((((Tch.refl (· = q) w).drewN _).sq 5 _).sq 0 _).drewN _).sq 0 _) (((((h1.head.drewN _).set 5 _).set 0 _).drewN _).set 0 _)) ⟨h2.snap, h2.val, h2.live, h2.writing, h2.ended, h2.pts, ⟨k + 1, (if_neg (show ¬ (k + 1 < y.log.r.length) by omega)).symm, hg, rfl, Nat.le_of_eq k4, k3, ht⟩⟩ h3 h4 h5 h6 h7)
  clear h1 h2 h3 h4 h5 
  go_enter Try.func62, Try.ntmps62
  go_wp2
  go_quiet (fail)
  go_wp2
  go_quiet (fail)
  go_wp2
  refine ⟨rfl, .tuple #[], (by simp [results, Try.results62, go_sem]), rfl, ?_⟩
  exact HE.out _ _
end

end Go.Proofs.Ythepmejfgbfilaa
