/- A path: Give, the rest; whole. Conditions: those stated in each theorem. -/
import Derived.Test.YtgdfiggloifncaaSoftF
namespace Go.Proofs.Ytgdfiggloifncaa
open Go.RowKit Go.BigFrame Go.Maps Go.Shelf

theorem wf_u64_b {n : Int} (h : (Lit.int .u64 n).wf = true) : 0 ≤ n ∧ n ≤ 18446744073709551615 := by
  simp only [Lit.wf, Bool.and_eq_true, decide_eq_true_eq] at h
  exact h
theorem wf_i64_b {n : Int} (h : (Lit.int .i64 n).wf = true) : -9223372036854775808 ≤ n ∧ n ≤ 9223372036854775807 := by
  simp only [Lit.wf, Bool.and_eq_true, decide_eq_true_eq] at h
  exact h

section
variable {w w' W : World} {N M C S T : Nat → Prop} {p lg : Nat} {x y : PV} {z : PW} {v u th : Value} {t : Th} {a : At} {R : World → Prop} {l : List Pr} {g : Int}
/-- The form of what a validation goes on with. -/
theorem ThV.fn (h : ThV w N p t th) : ∃ G fs cs, th = .func (.func G) fs cs ∧ En G := by
  cases t with
  | fetch a => obtain ⟨b1, b2, rfl, _⟩ := h; exact ⟨_, _, _, rfl, en_fetch_1_1_1⟩
  | sign => cases h; exact ⟨_, _, _, rfl, en_sign⟩
theorem lf_more (h : Lf w (Fr W) v l) : Lf w (Nw (Nx T S p) W) v l := h.frame (C := fun _ => False) (Tch.refl _ _) (fun _ hk _ => ⟨fun e => e, .inr hk⟩)
theorem cm_more {lv : Value} (h : CmV w (Fr W) p g l lv th u) : CmV w (Nw (Nx T S p) W) p g l lv th u := h.frame (C := fun _ => False) (Tch.refl _ _) (fun _ hk _ => ⟨fun e => e, .inr hk⟩)
theorem wr_more {lv : Value} (h : WrV w (Fr W) p l lv u) : WrV w (Nw (Nx T S p) W) p l lv u := h.frame (C := fun _ => False) (Tch.refl _ _) (fun _ hk _ => ⟨fun e => e, .inr hk⟩)
/-- Where a validation goes on. -/
theorem th_runs (t : Th) (G : Gv w W T S p lg x) (ht : ThV W (Nx T S p) p t th) (hf : t.fit) (g : Int) {W2 : World} (h : PO W W2 p lg { x.pw.ask 0 0 0 0 with snap := g, pts := x.pts + 1 } .nilFunc) :
    ∃ q fs cs, th = .func (.func q) fs cs ∧ Calls Try.prog q (fs ++ #[] ++ cs) W2 fun e w' => e = .returned (.tuple #[]) ∧ SOut { x with at_ := t.at, snap := g, pts := x.pts + 1 } w T p w' := by
  have hfr : ∀ k, Nx T S p k → k < W.heap.size → ¬ (k = p) ∧ Nx T S p k := fun k hk _ => ⟨hk.2.2, hk⟩
  have ht2 := ht.frame h.2 hfr
  cases t with
  | fetch a =>
    obtain ⟨b1, b2, rfl, k1, k2⟩ := ht2
    refine ⟨_, _, _, rfl, (fetch111_any h.1 a k1.1 k2.1).mono ?_⟩
    rintro e w' ⟨rfl, c, d, h1, h2, h3⟩
    have hw := h.2.trans h1.2
    exact ⟨rfl, G.fin ⟨h1.1, hw⟩ rfl hf ⟨c, d, rfl, h2.to (fun k hk _ => .inr (Nat.le_trans h.2.size hk)), h3.to (fun k hk _ => .inr (Nat.le_trans h.2.size hk))⟩⟩
  | sign =>
    cases ht2
    refine ⟨_, _, _, rfl, (sign_any h.1).mono ?_⟩
    rintro e w' ⟨rfl, c, d, h1, h2, h3⟩
    have hw := h.2.trans h1.2
    exact ⟨rfl, G.fin ⟨h1.1, hw⟩ rfl trivial ⟨c, d, rfl, h2.to (fun k hk _ => .inr (Nat.le_trans h.2.size hk)), h3.to (fun k hk _ => .inr (Nat.le_trans h.2.size hk))⟩⟩

theorem g_checkSeq_odd {t : Th} (h : SAt w T p x) (hx : x.at_ = .checkSeq t) (n : Int) (ok : Bool) (hn : 0 ≤ n) (hs : n % 2 ≠ 0) :
    Calls Try.prog 14 #[.pointer (some ⟨p, 0, none⟩), .int .u64 n, .bool ok] w fun e w' => e = .returned (.int .i64 0) ∧ SOut ({ x with at_ := .checkSeq t }) w T p w' := by
  obtain ⟨lg, S, v, hP, hL, hS, hT, hf, hA⟩ := h
  rw [hx] at hA hf
  obtain ⟨b, u, u', th, rfl, hb, hu, hu2, ht⟩ := hA
  refine give_Ld hP n ok (fun W hW => ?_)
  have G : Gv w W T S p lg x := ⟨hW, hL.frame hW.2 (fun k hk => (hS k hk).2.1), hS, hT, hP.lt⟩
  have hfr : ∀ k, Nx T S p k → k < w.heap.size → ¬ (k = p) ∧ Nx T S p k := fun k hk _ => ⟨hk.2.2, hk⟩
  obtain ⟨b1, b2, rfl, k1, k2⟩ := (hu.frame hW.2 hfr)
  obtain ⟨q1, q2, rfl, j1, j2⟩ := (hu2.frame hW.2 hfr)
  refine load1_any (hb.frame hW.2 hfr).1 en_even_1 n ok ?_
  refine (even1_odd hW.1 n hn hs _ _ _ k1.1 k2.1).mono ?_
  rintro e w' ⟨rfl, c, d, h1, h2, h3⟩
  exact ⟨rfl, G.fin h1 rfl hf ⟨c, d, _, _, rfl, h2.to nx_new, h3.to nx_new, ⟨q1, q2, rfl, j1.frame h1.2 nx_old, j2.frame h1.2 nx_old⟩, (ht.frame hW.2 hfr).frame h1.2 nx_old⟩⟩

theorem g_checkSeq_even {t : Th} (h : SAt w T p x) (hx : x.at_ = .checkSeq t) (n : Int) (ok : Bool) (hn : 0 ≤ n) (hs : n % 2 = 0) :
    Calls Try.prog 14 #[.pointer (some ⟨p, 0, none⟩), .int .u64 n, .bool ok] w fun e w' => e = .returned (.int .i64 0) ∧ SOut ({ x with at_ := .check n x.log.r t }) w T p w' := by
  obtain ⟨lg, S, v, hP, hL, hS, hT, hf, hA⟩ := h
  rw [hx] at hA hf
  obtain ⟨b, u, u', th, rfl, hb, hu, hu2, ht⟩ := hA
  refine give_Ld hP n ok (fun W hW => ?_)
  have G : Gv w W T S p lg x := ⟨hW, hL.frame hW.2 (fun k hk => (hS k hk).2.1), hS, hT, hP.lt⟩
  have hfr : ∀ k, Nx T S p k → k < w.heap.size → ¬ (k = p) ∧ Nx T S p k := fun k hk _ => ⟨hk.2.2, hk⟩
  obtain ⟨b1, b2, rfl, k1, k2⟩ := (hu.frame hW.2 hfr)
  obtain ⟨q1, q2, rfl, j1, j2⟩ := (hu2.frame hW.2 hfr)
  obtain ⟨G0, fs, cs, rfl, heG⟩ := (ht.frame hW.2 hfr).fn
  refine load1_any (hb.frame hW.2 hfr).1 en_even_1 n ok ?_
  refine even1_even n hn hs k2.1 en_validate_1 ?_
  refine (validate1_any hW.1 G.log n _ _ _ j1.1 j2.1 j1.2.2.2 j2.2.2.2).mono ?_
  rintro e w' ⟨rfl, lv, c, d, h1, h2, h3, h4⟩
  exact ⟨rfl, G.fin h1 rfl hf ⟨c, d, lv, _, rfl, h3.to nx_new, lf_more h2, cm_more h4, (ht.frame hW.2 hfr).frame h1.2 nx_old⟩⟩

theorem g_checkEnd_no {t : Th} {g : Int} (h : SAt w T p x) (hx : x.at_ = .check g [] t) (n : Int) (ok : Bool) (hs : n ≠ g) :
    Calls Try.prog 14 #[.pointer (some ⟨p, 0, none⟩), .int .u64 n, .bool ok] w fun e w' => e = .returned (.int .i64 0) ∧ SOut ({ x with at_ := .checkSeq t }) w T p w' := by
  obtain ⟨lg, S, v, hP, hL, hS, hT, hf, hA⟩ := h
  rw [hx] at hA hf
  obtain ⟨b, u, lv, th, rfl, hb, hl, hc, ht⟩ := hA
  refine give_Ld hP n ok (fun W hW => ?_)
  have G : Gv w W T S p lg x := ⟨hW, hL.frame hW.2 (fun k hk => (hS k hk).2.1), hS, hT, hP.lt⟩
  have hfr : ∀ k, Nx T S p k → k < w.heap.size → ¬ (k = p) ∧ Nx T S p k := fun k hk _ => ⟨hk.2.2, hk⟩
  obtain ⟨b1, b2, b3, rfl, k1, k2, k3⟩ := Cl3.frame hc hW.2 hfr
  obtain ⟨G0, fs, cs, rfl, heG⟩ := (ht.frame hW.2 hfr).fn
  refine load1_any (hb.frame hW.2 hfr).1 en_compare_1 n ok ?_
  refine (compare1_no hW.1 n g hs _ _ _ k1.1 k2.1 k3.1).mono ?_
  rintro e w' ⟨rfl, c, d, d2, h1, h2, h3, h4⟩
  exact ⟨rfl, G.fin h1 rfl hf ⟨c, d, d2, _, rfl, h2.to nx_new, h3.to nx_new, h4.to nx_new, (ht.frame hW.2 hfr).frame h1.2 nx_old⟩⟩

theorem g_checkEnd_yes {t : Th} {g : Int} (h : SAt w T p x) (hx : x.at_ = .check g [] t) (n : Int) (ok : Bool) (hs : n = g) (h0 : 0 ≤ x.pts) (h9 : x.pts ≤ 1000000) :
    Calls Try.prog 14 #[.pointer (some ⟨p, 0, none⟩), .int .u64 n, .bool ok] w fun e w' => e = .returned (.int .i64 0) ∧ SOut ({ x with at_ := t.at, snap := n, pts := x.pts + 1 }) w T p w' := by
  obtain ⟨lg, S, v, hP, hL, hS, hT, hf, hA⟩ := h
  rw [hx] at hA hf
  obtain ⟨b, u, lv, th, rfl, hb, hl, hc, ht⟩ := hA
  subst hs
  refine give_Ld hP n ok (fun W hW => ?_)
  have G : Gv w W T S p lg x := ⟨hW, hL.frame hW.2 (fun k hk => (hS k hk).2.1), hS, hT, hP.lt⟩
  have hfr : ∀ k, Nx T S p k → k < w.heap.size → ¬ (k = p) ∧ Nx T S p k := fun k hk _ => ⟨hk.2.2, hk⟩
  obtain ⟨b1, b2, b3, rfl, k1, k2, k3⟩ := Cl3.frame hc hW.2 hfr
  have ht2 := (ht.frame hW.2 hfr)
  obtain ⟨G0, fs, cs, rfl, heG⟩ := ht2.fn
  refine load1_any (hb.frame hW.2 hfr).1 en_compare_1 n ok ?_
  refine compare1_yes hW.1 n h0 h9 k1.1 k2.1 k3.1 k3.2.2.2 heG (fun W2 hW2 => ?_)
  obtain ⟨q, fs2, cs2, e, hc2⟩ := th_runs t G ht2 hf n hW2
  cases e
  exact hc2

theorem g_check_no {t : Th} {g : Int} {q : Pr} {l : List Pr} (h : SAt w T p x) (hx : x.at_ = .check g (q :: l) t) (n : Int) (ok : Bool) (hs : n ≠ q.v) :
    Calls Try.prog 14 #[.pointer (some ⟨p, 0, none⟩), .int .u64 n, .bool ok] w fun e w' => e = .returned (.int .i64 0) ∧ SOut ({ x with at_ := .leaveN 2 }) w T p w' := by
  obtain ⟨lg, S, v, hP, hL, hS, hT, hf, hA⟩ := h
  rw [hx] at hA hf
  obtain ⟨b, u, lv, th, rfl, hb, hl, hc, ht⟩ := hA
  refine give_Ld hP n ok (fun W hW => ?_)
  have G : Gv w W T S p lg x := ⟨hW, hL.frame hW.2 (fun k hk => (hS k hk).2.1), hS, hT, hP.lt⟩
  have hfr : ∀ k, Nx T S p k → k < w.heap.size → ¬ (k = p) ∧ Nx T S p k := fun k hk _ => ⟨hk.2.2, hk⟩
  obtain ⟨b1, b2, b3, b4, rfl, k1, k2, k3, k4⟩ := Cl4.frame hc hW.2 hfr
  have hl2 := (hl.frame hW.2 hfr)
  refine load1_any (hb.frame hW.2 hfr).1 en_compare_2 n ok ?_
  refine (compare2_no (b3 := b3) (b4 := b4) hW.1 n hl2 hs k1.1 k2.1).mono ?_
  rintro e w' ⟨rfl, c, d, d2, h1, h2, h3, h4⟩
  exact ⟨rfl, G.fin h1 rfl trivial ⟨c, d, d2, rfl, h2.to nx_new, h3.to nx_new, h4.to nx_new⟩⟩

theorem g_check_yes {t : Th} {g : Int} {q : Pr} {l : List Pr} (h : SAt w T p x) (hx : x.at_ = .check g (q :: l) t) (n : Int) (ok : Bool) (hs : n = q.v) :
    Calls Try.prog 14 #[.pointer (some ⟨p, 0, none⟩), .int .u64 n, .bool ok] w fun e w' => e = .returned (.int .i64 0) ∧ SOut ({ x with at_ := .check g l t }) w T p w' := by
  obtain ⟨lg, S, v, hP, hL, hS, hT, hf, hA⟩ := h
  rw [hx] at hA hf
  obtain ⟨b, u, lv, th, rfl, hb, hl, hc, ht⟩ := hA
  subst hs
  refine give_Ld hP q.v ok (fun W hW => ?_)
  have G : Gv w W T S p lg x := ⟨hW, hL.frame hW.2 (fun k hk => (hS k hk).2.1), hS, hT, hP.lt⟩
  have hfr : ∀ k, Nx T S p k → k < w.heap.size → ¬ (k = p) ∧ Nx T S p k := fun k hk _ => ⟨hk.2.2, hk⟩
  obtain ⟨b1, b2, b3, b4, rfl, k1, k2, k3, k4⟩ := Cl4.frame hc hW.2 hfr
  have hl2 := (hl.frame hW.2 hfr)
  obtain ⟨G0, fs, cs, rfl, heG⟩ := (ht.frame hW.2 hfr).fn
  refine load1_any (hb.frame hW.2 hfr).1 en_compare_2 q.v ok ?_
  refine (compare2_yes hW.1 g hl2 _ _ _ k1.1 k2.1 k3.1 k4.1).mono ?_
  rintro e w' ⟨rfl, lv2, c, d, h1, h2, h3, h4⟩
  exact ⟨rfl, G.fin h2 rfl hf ⟨c, d, lv2, _, rfl, h3.to nx_new, h1.frame h2.2 nx_old, cm_more h4, (ht.frame hW.2 hfr).frame h2.2 nx_old⟩⟩

theorem g_take_no (h : SAt w T p x) (hx : x.at_ = .take) (n : Int) (ok : Bool) (hok : ok = false) :
    Calls Try.prog 14 #[.pointer (some ⟨p, 0, none⟩), .int .u64 n, .bool ok] w fun e w' => e = .returned (.int .i64 0) ∧ SOut ({ x with at_ := .checkSeq .sign }) w T p w' := by
  obtain ⟨lg, S, v, hP, hL, hS, hT, hf, hA⟩ := h
  rw [hx] at hA hf
  obtain ⟨b, u, rfl, hb, hu⟩ := hA
  subst hok
  refine give_Cs hP n false (fun W hW => ?_)
  have G : Gv w W T S p lg x := ⟨hW, hL.frame hW.2 (fun k hk => (hS k hk).2.1), hS, hT, hP.lt⟩
  have hfr : ∀ k, Nx T S p k → k < w.heap.size → ¬ (k = p) ∧ Nx T S p k := fun k hk _ => ⟨hk.2.2, hk⟩
  obtain ⟨b1, rfl, k1⟩ := (hu.frame hW.2 hfr)
  refine cas1_any (hb.frame hW.2 hfr).1 en_sign_1 n false ?_
  refine (sign1_no hW.1 k1.1).mono ?_
  rintro e w' ⟨rfl, c, d, d2, h1, h2, h3, h4⟩
  exact ⟨rfl, G.fin h1 rfl trivial ⟨c, d, d2, _, rfl, h2.to nx_new, h3.to nx_new, h4.to nx_new, rfl⟩⟩

theorem g_take_yes (h : SAt w T p x) (hx : x.at_ = .take) (n : Int) (ok : Bool) (hok : ok = true) (h0 : 0 ≤ x.pts) (h9 : x.pts ≤ 1000000) :
    Calls Try.prog 14 #[.pointer (some ⟨p, 0, none⟩), .int .u64 n, .bool ok] w fun e w' => e = .returned (.int .i64 0) ∧ SOut ({ x with at_ := .back x.log.w, pts := x.pts + 1, writing := true }) w T p w' := by
  obtain ⟨lg, S, v, hP, hL, hS, hT, hf, hA⟩ := h
  rw [hx] at hA hf
  obtain ⟨b, u, rfl, hb, hu⟩ := hA
  subst hok
  have hpS : ¬ S p := fun e => (hS p e).2.1 rfl
  refine give_Cs hP n true (fun W hW => ?_)
  have G : Gv w W T S p lg x := ⟨hW, hL.frame hW.2 (fun k hk => (hS k hk).2.1), hS, hT, hP.lt⟩
  have hfr : ∀ k, Nx T S p k → k < w.heap.size → ¬ (k = p) ∧ Nx T S p k := fun k hk _ => ⟨hk.2.2, hk⟩
  obtain ⟨b1, rfl, k1⟩ := (hu.frame hW.2 hfr)
  refine cas1_any (hb.frame hW.2 hfr).1 en_sign_1 n true ?_
  refine (sign1_yes hW.1 G.log hpS h0 h9 k1.1 k1.2.2.2).mono ?_
  rintro e w' ⟨rfl, lv, c, d, h1, h2, h3, h4⟩
  exact ⟨rfl, G.fin h1 rfl trivial ⟨c, d, lv, rfl, h3.to nx_new, lf_more h2, wr_more h4⟩⟩

theorem g_back_end (h : SAt w T p x) (hx : x.at_ = .back []) (n : Int) (ok : Bool) :
    Calls Try.prog 14 #[.pointer (some ⟨p, 0, none⟩), .int .u64 n, .bool ok] w fun e w' => e = .returned (.int .i64 0) ∧ SOut ({ x with at_ := .leaveN 1, writing := false }) w T p w' := by
  obtain ⟨lg, S, v, hP, hL, hS, hT, hf, hA⟩ := h
  rw [hx] at hA hf
  obtain ⟨b, u, lv, rfl, hb, hl, hw⟩ := hA
  cases hw
  refine give_St hP n ok (fun W hW => ?_)
  have G : Gv w W T S p lg x := ⟨hW, hL.frame hW.2 (fun k hk => (hS k hk).2.1), hS, hT, hP.lt⟩
  have hfr : ∀ k, Nx T S p k → k < w.heap.size → ¬ (k = p) ∧ Nx T S p k := fun k hk _ => ⟨hk.2.2, hk⟩
  refine store1_any (hb.frame hW.2 hfr).1 en_written n ok ?_
  refine (written_any hW.1).mono ?_
  rintro e w' ⟨rfl, c, d, d2, h1, h2, h3, h4⟩
  exact ⟨rfl, G.fin h1 rfl trivial ⟨c, d, d2, rfl, h2.to nx_new, h3.to nx_new, h4.to nx_new⟩⟩

theorem g_back_one {q : Pr} {l : List Pr} (h : SAt w T p x) (hx : x.at_ = .back (q :: l)) (n : Int) (ok : Bool) :
    Calls Try.prog 14 #[.pointer (some ⟨p, 0, none⟩), .int .u64 n, .bool ok] w fun e w' => e = .returned (.int .i64 0) ∧ SOut ({ x with at_ := .back l }) w T p w' := by
  obtain ⟨lg, S, v, hP, hL, hS, hT, hf, hA⟩ := h
  rw [hx] at hA hf
  obtain ⟨b, u, lv, rfl, hb, hl, hw⟩ := hA
  refine give_St hP n ok (fun W hW => ?_)
  have G : Gv w W T S p lg x := ⟨hW, hL.frame hW.2 (fun k hk => (hS k hk).2.1), hS, hT, hP.lt⟩
  have hfr : ∀ k, Nx T S p k → k < w.heap.size → ¬ (k = p) ∧ Nx T S p k := fun k hk _ => ⟨hk.2.2, hk⟩
  obtain ⟨b1, b2, rfl, k1, k2⟩ := Cl2.frame hw hW.2 hfr
  have hl2 := (hl.frame hW.2 hfr)
  refine store1_any (hb.frame hW.2 hfr).1 en_write_1 n ok ?_
  refine (write1_any hW.1 hl2 k1.1 k2.1).mono ?_
  rintro e w' ⟨rfl, lv2, c, d, h1, h2, h3, h4⟩
  exact ⟨rfl, G.fin h2 rfl trivial ⟨c, d, lv2, rfl, h3.to nx_new, h1.frame h2.2 nx_old, wr_more h4⟩⟩


theorem give_no (h : SAt w T p x) (hx : x.at_ = .no) (n : Int) (ok : Bool) :
    Calls Try.prog 14 #[.pointer (some ⟨p, 0, none⟩), .int .u64 n, .bool ok] w fun e w' => e = .returned (.int .i64 80) ∧ SOut x w T p w' := by
  obtain ⟨lg, S, v, hP, hL, hS, hT, hf, hA⟩ := id h
  rw [hx] at hA
  cases hA
  exact (give_idle hP n ok).mono fun e w' ⟨e1, e2⟩ => by subst e2; exact ⟨e1, SOut.refl h⟩

/-- An answer is given. -/
theorem give_any (h : SAt w T p x) (h0 : 0 ≤ x.pts) (h9 : x.pts ≤ 1000000) (n : Int) (ok : Bool) (hn : (Lit.int .u64 n).wf = true) :
    Calls Try.prog 14 #[.pointer (some ⟨p, 0, none⟩), .int .u64 n, .bool ok] w fun e w' => e = .returned (.int .i64 x.errG) ∧ SOut (x.give n ok) w T p w' := by
  have hn0 : 0 ≤ n := (wf_u64_b hn).1
  have hfit : x.at_.fit := by obtain ⟨lg, S, v, hP, hL, hS, hT, hf, hA⟩ := id h; exact hf
  unfold PV.errG PV.give
  cases hx : x.at_ with
  | no => exact give_no h hx n ok
  | beginN => exact g_beginN h hx n ok
  | beginCas m =>
    cases hok : ok with
    | true => exact g_beginCas_yes h hx n true rfl
    | false => exact g_beginCas_no h hx n false rfl
  | beginSeq =>
    simp only
    by_cases hs : n % 2 = 0
    · rw [if_pos hs]; exact g_beginSeq_even h hx n ok hn0 hs h0 h9
    · rw [if_neg hs]
      have := g_beginSeq_odd h hx n ok hn0 hs
      rwa [show ({ x with at_ := At.beginSeq } : PV) = x from by rw [← hx]] at this
  | loadWord a => exact g_loadWord h hx n ok hn
  | loadSeq a y =>
    simp only
    by_cases hs : n = x.snap
    · rw [if_neg (show ¬ (n ≠ x.snap) from fun e => e hs)]
      unfold badR
      rw [hx] at hfit
      have ha := hfit.1.2
      cases hh : hasL x.log.r a with
      | true =>
        by_cases hy : valL x.log.r a = y
        · by_cases h2 : errRead x.log.r a = 0
          · rw [if_neg (show ¬ ((true && valL x.log.r a != y || errRead x.log.r a != 0) = true) from by simp [hy, h2])]
            exact g_loadSeq_ok h hx n ok hs (fun _ => hy) h2 h0 h9
          · exfalso
            unfold errRead at h2; unfold hasL at hh
            rw [hh] at h2
            simp only [if_true] at h2
            exact h2 (if_neg (by omega))
        · rw [if_pos (show (true && valL x.log.r a != y || errRead x.log.r a != 0) = true from by simp [hy])]
          exact g_loadSeq_off h hx n ok hs hh hy
      | false =>
        by_cases h2 : errRead x.log.r a = 0
        · rw [if_neg (show ¬ ((false && valL x.log.r a != y || errRead x.log.r a != 0) = true) from by simp [h2])]
          exact g_loadSeq_ok h hx n ok hs (fun e => by rw [hh] at e; cases e) h2 h0 h9
        · by_cases h3 : errRead x.log.r a = 70
          · rw [if_pos (show (false && valL x.log.r a != y || errRead x.log.r a != 0) = true from by simp [h2])]
            exact g_loadSeq_full h hx n ok hs hh h3
          · exfalso
            unfold errRead at h2 h3; unfold hasL at hh
            rw [hh] at h2 h3
            rw [if_neg (by omega)] at h2 h3
            simp only [Bool.false_eq_true, if_false] at h2 h3
            split at h2
            · rename_i h4; rw [if_pos h4] at h3; exact h3 rfl
            · exact h2 rfl
    · rw [if_pos hs]
      exact g_loadSeq_no h hx n ok hs
  | checkSeq t =>
    simp only
    by_cases hs : n % 2 = 0
    · rw [if_pos hs]; exact g_checkSeq_even h hx n ok hn0 hs
    · rw [if_neg hs]
      have := g_checkSeq_odd h hx n ok hn0 hs
      rwa [show ({ x with at_ := At.checkSeq t } : PV) = x from by rw [← hx]] at this
  | check g l t =>
    cases l with
    | nil =>
      simp only
      by_cases hs : n = g
      · rw [if_neg (show ¬ (n ≠ g) from fun e => e hs)]; subst hs; exact g_checkEnd_yes h hx n ok rfl h0 h9
      · rw [if_pos hs]; exact g_checkEnd_no h hx n ok hs
    | cons q l =>
      simp only
      by_cases hs : n = q.v
      · rw [if_neg (show ¬ (n ≠ q.v) from fun e => e hs)]; exact g_check_yes h hx n ok hs
      · rw [if_pos hs]; exact g_check_no h hx n ok hs
  | take =>
    cases hok : ok with
    | true => exact g_take_yes h hx n true rfl h0 h9
    | false => exact g_take_no h hx n false rfl
  | back l =>
    cases l with
    | nil => exact g_back_end h hx n ok
    | cons q l => exact g_back_one h hx n ok
  | leaveN how => exact g_leaveN h hx n ok
  | leaveCas how m =>
    cases hok : ok with
    | true => exact g_leaveCas_yes h hx n true rfl
    | false => exact g_leaveCas_no h hx n false rfl
end

end Go.Proofs.Ytgdfiggloifncaa
