/- A path: what comes behind answers, with the log. Conditions: those stated in each theorem. -/
import Derived.Test.YtgdfiggloifncaaSoftC
import Derived.Test.YtgdfiggloifncaaLogH0
import Derived.Deep.RegionHeld3
namespace Go.Proofs.Ytgdfiggloifncaa
open Go.RowKit Go.BigFrame Go.Maps
attribute [local go_sem] run_store_func

theorem lf_of_row {w : World} {lo : Nat} {v : Value} {l : List Pr} (h : RowL w lo v l) (hf : FitL l) (hl : l.length ≤ 128) : Lf w (fun k => lo ≤ k) v l := by
  unfold RowL at h
  rcases owns_form h with ⟨rfl, h0, -⟩ | ⟨g, cap, rfl, hg⟩
  · have : l = [] := List.eq_nil_of_length_eq_zero h0
    subst this
    exact ⟨none, 0, rfl, Nat.le_refl _, by simp, hf, .inl rfl⟩
  · refine ⟨_, cap, rfl, ?_, hl, hf, .inr ⟨g, 0, rfl, (owns_lt h hg).1, (owns_lt h hg).2, fun k y hy i z hz => ?_⟩⟩
    · rcases h.2 with ⟨e, _⟩ | ⟨g', c, cur, hv, _, _, h1, _⟩
      · cases e
      · cases hv; exact h1
    · have hi : i < 2 := (List.getElem?_eq_some_iff.1 hz).1
      refine (owns_cell h hg (j := 0 + k * 2 + i) ?_).1
      match i, hi with
      | 0, _ => cases hz; rw [show 0 + k * 2 + 0 = 2 * k from by omega]; exact flatP_a hy
      | 1, _ => cases hz; rw [show 0 + k * 2 + 1 = 2 * k + 1 from by omega]; exact flatP_v hy

section
variable {w w' W V : World} {N M C S : Nat → Prop} {p lg b b1 b2 b3 b4 : Nat} {x : PW} {u u1 u2 u3 u4 v lv th : Value} {f : Lg} {l : List Pr}
theorem reads_lf (h : LgAt w S lg f) : Calls Try.prog 55 #[.pointer (some ⟨lg, 0, none⟩)] w fun e w' => ∃ lv, e = .returned lv ∧ Below w.heap.size w w' ∧ Lf w' (Fr w) lv f.r := by
  obtain ⟨f1, f2, f3, f4⟩ := h.fit
  exact (reads_any h).mono fun e w' ⟨v, e1, h1, h2⟩ => ⟨v, e1, h2, lf_of_row h1 f1 f3⟩
theorem writes_lf (h : LgAt w S lg f) : Calls Try.prog 53 #[.pointer (some ⟨lg, 0, none⟩)] w fun e w' => ∃ lv, e = .returned lv ∧ Below w.heap.size w w' ∧ Lf w' (Fr w) lv f.w := by
  obtain ⟨f1, f2, f3, f4⟩ := h.fit
  exact (writes_any h).mono fun e w' ⟨v, e1, h1, h2⟩ => ⟨v, e1, h2, lf_of_row h1 f2 f4⟩
theorem pb_below (h : PB w p lg x v) (hb : Below w.heap.size w w') : PB w' p lg x v := Holds.below h hb

set_option maxRecDepth 100000 in
set_option maxHeartbeats 2000000 in
theorem validate1_any (h : PB w p lg x v) (hL : LgAt w S lg f) (g : Int) (fn : Fn) (fs cs : Array Value) (k1 : w.cell? ⟨b1, 0, none⟩ = some (.pointer (some ⟨p, 0, none⟩))) (k2 : w.cell? ⟨b2, 0, none⟩ = some (.func fn fs cs)) (n1 : b1 ≠ p) (n2 : b2 ≠ p) :
    Calls Try.prog 90 #[.int .u64 g, .pointer (some ⟨b1, 0, none⟩), .pointer (some ⟨b2, 0, none⟩)] w fun e w' => e = .returned (.tuple #[]) ∧ ∃ lv b u, PO w w' p lg (x.ask 1 (hdA f.r) 0 0) (LdV b) ∧ Lf w' (Fr w) lv f.r ∧ Bx w' (Fr w) b u ∧ CmV w' (Fr w) p g f.r lv (.func fn fs cs) u := by
  have hlt := h.lt
  have e1 := World.block_lt_of_cell? _ _ k1
  have e2 := World.block_lt_of_cell? _ _ k2
  have HS : Hid (∀ V, Tch (· = p) w V → (∃ y z, PB V p lg y z) → V.cell? ⟨b1, 0, none⟩ = some (.pointer (some ⟨p, 0, none⟩)) ∧ V.cell? ⟨p, 1, none⟩ = some (.pointer (some ⟨lg, 0, none⟩)) ∧ V.cell? ⟨b2, 0, none⟩ = some (.func fn fs cs)) := Lib.hid (fun V ht ⟨y, z, hy⟩ => ⟨(World.cell?_of_block (a := ⟨b1, 0, none⟩) (ht.block b1 e1 n1)).trans k1, Holds.cell hy (i := 1) rfl, (World.cell?_of_block (a := ⟨b2, 0, none⟩) (ht.block b2 e2 n2)).trans k2⟩)
  have HR : Hid (∀ V, Below w.heap.size w V → Calls Try.prog 55 #[.pointer (some ⟨lg, 0, none⟩)] V fun e w' => ∃ lv, e = .returned lv ∧ Below w.heap.size w w' ∧ Lf w' (Fr w) lv f.r) := Lib.hid (fun V hV => (reads_lf (hL.below hV)).mono fun e w' ⟨lv, e1, h1, h2⟩ => ⟨lv, e1, hV.trans (h1.mono hV.size), Lf.frame (C := fun _ => False) h2 (Tch.refl _ _) (fun k hk _ => ⟨fun e => e, Nat.le_trans hV.size hk⟩)⟩)
  have HC : Hid (∀ V lv, Below w.heap.size w V → Lf V (Fr w) lv f.r → Calls Try.prog 91 #[.pointer (some ⟨p, 0, none⟩), .int .u64 g, lv, .func fn fs cs] V fun e w' => e = .returned (.tuple #[]) ∧ Tch (· = p) w w' ∧ (∃ y z, PB w' p lg y z) ∧ ∃ lv b u, PO w w' p lg (x.ask 1 (hdA f.r) 0 0) (LdV b) ∧ Lf w' (Fr w) lv f.r ∧ Bx w' (Fr w) b u ∧ CmV w' (Fr w) p g f.r lv (.func fn fs cs) u) := Lib.hid (fun V lv hV hl => (compare_any (Holds.below h hV) g hl fn fs cs).mono fun e w' ⟨e1, b, u, h1, h2, h3⟩ => by
    have ht : Tch (· = p) w w' := (Tch.of_idle hV).trans h1.2
    exact ⟨e1, ht, ⟨_, _, h1.1⟩, lv, b, u, ⟨h1.1, ht⟩, hl.frame h1.2 (fun k hk hk2 => ⟨fun e => by unfold Fr at hk; omega, hk⟩), h2.more hV.size, h3.frame (C := fun _ => False) (Tch.refl _ _) (fun k hk _ => ⟨fun e => e, Nat.le_trans hV.size hk⟩)⟩)
  have hB : Below w.heap.size w w.drew := below_drew1 (Below.refl _ w)
  have hS := HS.out w.drew (Tch.refl _ w).drew ⟨_, _, Holds.drew h⟩
  have HP := Lib.hid h
  have c1 := Holds.cell h (i := 1) rfl
  clear h hL
  go_enter Try.func90, Try.ntmps90
  go_wp2
  go_region_held3 (fun V => V.cell? ⟨b1, 0, none⟩ = some (.pointer (some ⟨p, 0, none⟩)) ∧ V.cell? ⟨p, 1, none⟩ = some (.pointer (some ⟨lg, 0, none⟩)) ∧ V.cell? ⟨b2, 0, none⟩ = some (.func fn fs cs)) (first | with_reducible exact hS | with_reducible exact HS.out _ hT hP) (first | (go_at_call 55; (with_reducible refine (HR.out _ hB).mono ?_); rintro e V ⟨lv, rfl, hB, hl⟩; have hT := Tch.of_idle (C := (· = p)) hB; have hP : ∃ y z, PB V p lg y z := ⟨_, _, pb_below HP.out hB⟩) | (go_at_call 91; (with_reducible refine (HC.out _ _ hB hl).mono ?_); rintro e V2 ⟨rfl, hT, hP, hR⟩))
  all_goals exact ⟨rfl, .tuple #[], (by simp [results, Try.results90, go_sem]), rfl, hR⟩

set_option maxRecDepth 100000 in
set_option maxHeartbeats 2000000 in
theorem sign1_yes (h : PB w p lg x v) (hL : LgAt w S lg f) (hpS : ¬ S p) (h0 : 0 ≤ x.pts) (h1 : x.pts ≤ 1000000) (k1 : w.cell? ⟨b1, 0, none⟩ = some (.pointer (some ⟨p, 0, none⟩))) (n1 : b1 ≠ p) :
    Calls Try.prog 83 #[.bool true, .pointer (some ⟨b1, 0, none⟩)] w fun e w' => e = .returned (.tuple #[]) ∧ ∃ lv b u, PO w w' p lg (PW.ask { x with pts := x.pts + 1, writing := true } 2 (hdA f.w) (hdV x.snap f.w) 0) (StV b) ∧ Lf w' (Fr w) lv f.w ∧ Bx w' (Fr w) b u ∧ WrV w' (Fr w) p f.w lv u := by
  have hlt := h.lt
  have e1 := World.block_lt_of_cell? _ _ k1
  have c4 := Holds.cell h (i := 4) rfl
  have f4 := Holds.free h 4
  have c6 := Holds.cell h (i := 6) rfl
  have f6 := Holds.free h 6
  have hW : PO w ((w.setCell ⟨p, 4, none⟩ (.int .i64 (x.pts + 1))).setCell ⟨p, 6, none⟩ (.bool true)) p lg { x with pts := x.pts + 1, writing := true } v := ⟨(Holds.set h 4 (.int .i64 (x.pts + 1))).set 6 (.bool true), ((Tch.refl (· = p) w).setCell (p := ⟨p, 4, none⟩) (.inl rfl) _).setCell (p := ⟨p, 6, none⟩) (.inl rfl) _⟩
  have hLW := hL.frame hW.2 (fun k hk e => hpS (e ▸ hk))
  have kW := (World.cell?_of_block (a := ⟨b1, 0, none⟩) (hW.2.block b1 e1 n1)).trans k1
  have HW := Lib.hid hW
  have HLW := Lib.hid hLW
  have HkW := Lib.hid kW
  clear h hL hW hLW kW hpS
  go_enter Try.func83, Try.ntmps83
  go_wp2
  generalize (w.setCell ⟨p, 4, none⟩ (.int .i64 (x.pts + 1))).setCell ⟨p, 6, none⟩ (.bool true) = W at *
  clear c4 f4 c6 f6 k1
  have hz := HW.out.2.size
  have e1 : b1 < W.heap.size := Nat.lt_of_lt_of_le e1 hz
  have HS : Hid (∀ V, Tch (· = p) W V → (∃ y z, PB V p lg y z) → V.cell? ⟨b1, 0, none⟩ = some (.pointer (some ⟨p, 0, none⟩)) ∧ V.cell? ⟨p, 1, none⟩ = some (.pointer (some ⟨lg, 0, none⟩))) := Lib.hid (fun V ht ⟨y, z, hy⟩ => ⟨(World.cell?_of_block (a := ⟨b1, 0, none⟩) (ht.block b1 e1 n1)).trans HkW.out, Holds.cell hy (i := 1) rfl⟩)
  have HR : Hid (∀ V, Below W.heap.size W V → Calls Try.prog 53 #[.pointer (some ⟨lg, 0, none⟩)] V fun e w' => ∃ lv, e = .returned lv ∧ Below W.heap.size W w' ∧ Lf w' (Fr W) lv f.w) := Lib.hid (fun V hV => (writes_lf (HLW.out.below hV)).mono fun e w' ⟨lv, e1, h1, h2⟩ => ⟨lv, e1, hV.trans (h1.mono hV.size), Lf.frame (C := fun _ => False) h2 (Tch.refl _ _) (fun k hk _ => ⟨fun e => e, Nat.le_trans hV.size hk⟩)⟩)
  have HC : Hid (∀ V lv, Below W.heap.size W V → Lf V (Fr W) lv f.w → Calls Try.prog 84 #[.pointer (some ⟨p, 0, none⟩), lv] V fun e w' => e = .returned (.tuple #[]) ∧ Tch (· = p) W w' ∧ (∃ y z, PB w' p lg y z) ∧ ∃ lv b u, PO W w' p lg (PW.ask { x with pts := x.pts + 1, writing := true } 2 (hdA f.w) (hdV x.snap f.w) 0) (StV b) ∧ Lf w' (Fr W) lv f.w ∧ Bx w' (Fr W) b u ∧ WrV w' (Fr W) p f.w lv u) := Lib.hid (fun V lv hV hl => (wback_any (Holds.below HW.out.1 hV) hl).mono fun e w' ⟨e1, b, u, h1, h2, h3⟩ => by
    have ht : Tch (· = p) W w' := (Tch.of_idle hV).trans h1.2
    exact ⟨e1, ht, ⟨_, _, h1.1⟩, lv, b, u, ⟨h1.1, ht⟩, hl.frame h1.2 (fun k hk hk2 => ⟨fun e => by unfold Fr at hk; omega, hk⟩), h2.more hV.size, h3.frame (C := fun _ => False) (Tch.refl _ _) (fun k hk _ => ⟨fun e => e, Nat.le_trans hV.size hk⟩)⟩)
  have hB : Below W.heap.size W W.drew := below_drew1 (Below.refl _ W)
  have hS := HS.out W.drew (Tch.refl _ W).drew ⟨_, _, Holds.drew HW.out.1⟩
  have HP := Lib.hid HW.out.1
  go_region_held3 (fun V => V.cell? ⟨b1, 0, none⟩ = some (.pointer (some ⟨p, 0, none⟩)) ∧ V.cell? ⟨p, 1, none⟩ = some (.pointer (some ⟨lg, 0, none⟩))) (first | with_reducible exact hS | with_reducible exact HS.out _ hT hP) (first | (go_at_call 53; (with_reducible refine (HR.out _ hB).mono ?_); rintro e V ⟨lv, rfl, hB, hl⟩; have hT := Tch.of_idle (C := (· = p)) hB; have hP : ∃ y z, PB V p lg y z := ⟨_, _, pb_below HP.out hB⟩) | (go_at_call 84; (with_reducible refine (HC.out _ _ hB hl).mono ?_); rintro e V2 ⟨rfl, hT, hP, hR⟩))
  all_goals
    obtain ⟨lv, b, u, i1, i2, i3, i4⟩ := hR
    exact ⟨rfl, .tuple #[], (by simp [results, Try.results83, go_sem]), rfl, lv, b, u, ⟨i1.1, HW.out.2.trans i1.2⟩, i2.frame (C := fun _ => False) (Tch.refl _ _) (fun k hk _ => ⟨fun e => e, Nat.le_trans hz hk⟩), i3.more hz, i4.frame (C := fun _ => False) (Tch.refl _ _) (fun k hk _ => ⟨fun e => e, Nat.le_trans hz hk⟩)⟩

/-- May what was loaded not be taken? -/
def badR (f : Lg) (a v : Int) : Bool := hasL f.r a && valL f.r a != v || errRead f.r a != 0

/-- What a fetch's end leaves that is not taken. -/
def FeBad (w : World) (S : Nat → Prop) (p lg : Nat) (x : PW) (f : Lg) (w' : World) : Prop := ∃ W : World, w.heap.size ≤ W.heap.size ∧ LgAt w' (Gr S w W) lg f ∧ Tch (fun k => k = p ∨ S k) w w' ∧ ∃ b u u', PB w' p lg (x.ask 1 1 0 0) (LdV b) ∧ Bx w' (Fr W) b u ∧ Cl3 w' (Fr W) 94 (.pointer (some ⟨p, 0, none⟩)) (.int .u64 18446744073709551615) u' u ∧ Cl2 w' (Fr W) 80 (.pointer (some ⟨p, 0, none⟩)) (.int .i64 2) u'
/-- And that is taken. -/
def FeOk (w : World) (S : Nat → Prop) (p lg : Nat) (x : PW) (f : Lg) (v : Value) (w' : World) : Prop := LgAt w' (Gr S w w') lg f ∧ Tch (fun k => k = p ∨ S k) w w' ∧ PB w' p lg x v

set_option maxRecDepth 100000 in
set_option maxHeartbeats 1000000 in
theorem fetched_off (h : PB w p lg x v) (hL : LgAt w S lg f) (hpS : ¬ S p) (a y : Int) (ha : (Lit.int .i64 a).wf = true) (hh : hasL f.r a = true) (hy : valL f.r a ≠ y) :
    Calls Try.prog 72 #[.pointer (some ⟨p, 0, none⟩), .int .i64 a, .int .u64 y] w fun e w' => e = .returned (.tuple #[]) ∧ FeBad w S p lg x f w' := by
  have HW := Lib.hid (was_any hL a ha)
  rw [hh] at HW
  have HA := Lib.hid (leave_any h 2)
  have HL := Lib.hid hL
  have c1 := Holds.cell h (i := 1) rfl
  generalize valL f.r a = z at *
  clear h hL hh
  go_enter Try.func72, Try.ntmps72
  go_wp2_with (first | (go_at_call 92; refine HW.out.mono ?_; rintro e w' ⟨rfl, rfl⟩) | (go_at_call 51; refine HA.out.mono ?_; rintro e w' ⟨rfl, h⟩; have H := Lib.hid h; clear h))
  refine bodyPost_ret (v := .tuple #[]) (by simp [results, Try.results72, go_sem]) rfl ⟨rfl, ?_⟩
  obtain ⟨b, u, u', h1, h2, h3, h4⟩ := H.out
  exact ⟨w, Nat.le_refl _, (HL.out.frame h1.2 (fun k hk e => hpS (e ▸ hk))).more (fun k _ hk => .inl hk), h1.2.mono (fun k _ e => .inl e), b, u, u', h1.1, h2, h3, h4⟩

set_option maxRecDepth 100000 in
set_option maxHeartbeats 1000000 in
theorem fetched_full (h : PB w p lg x v) (hL : LgAt w S lg f) (hpS : ¬ S p) (a y : Int) (ha : (Lit.int .i64 a).wf = true) (hyw : (Lit.int .u64 y).wf = true) (hh : hasL f.r a = false) (he : errRead f.r a = 70) :
    Calls Try.prog 72 #[.pointer (some ⟨p, 0, none⟩), .int .i64 a, .int .u64 y] w fun e w' => e = .returned (.tuple #[]) ∧ FeBad w S p lg x f w' := by
  have HW := Lib.hid (was_any hL a ha)
  have HR := Lib.hid (read_any hL a y ha hyw)
  rw [hh] at HW
  rw [he] at HR
  have hrd : f.read a y = f := by
    obtain ⟨fr, fw⟩ := f
    simp only [Lg.read, readL, errRead] at *
    by_cases h1 : a < 0
    · simp [h1] at he
    · by_cases h2 : (posL fr a).isSome
      · simp [h1, h2] at he
      · by_cases h3 : 128 ≤ fr.length
        · simp [h1, h2, h3]
        · simp [h1, h2, h3] at he
  rw [hrd] at HR
  have HP := Lib.hid h
  have c1 := Holds.cell h (i := 1) rfl
  generalize valL f.r a = z at *
  clear h hL hh he hrd
  go_enter Try.func72, Try.ntmps72
  go_wp2_with (first | (go_at_call 92; refine HW.out.mono ?_; rintro e w' ⟨rfl, rfl⟩) | (go_at_call 93; refine HR.out.mono ?_; rintro e w1 ⟨rfl, h⟩; have HQ := Lib.hid h; have HP1 := Lib.hid (h.2.holds hpS HP.out); clear h) | (go_at_call 51; refine (leave_any (lg := lg) (x := x) (v := v) HP1.out 2).mono ?_; rintro e w' ⟨rfl, h⟩; have H := Lib.hid h; clear h))
  refine bodyPost_ret (v := .tuple #[]) (by simp [results, Try.results72, go_sem]) rfl ⟨rfl, ?_⟩
  obtain ⟨b, u, u', h1, h2, h3, h4⟩ := H.out
  have hq := HQ.out
  have hlt := HP.out.lt
  exact ⟨w1, hq.2.size, hq.1.frame h1.2 (fun k hk e => by
    subst e
    rcases hk with hk | hk
    · exact hpS hk
    · omega), (hq.2.mono (fun k _ e => .inr e)).trans (h1.2.mono (fun k _ e => .inl e)), b, u, u', h1.1, h2, h3, h4⟩

set_option maxRecDepth 100000 in
set_option maxHeartbeats 1000000 in
theorem fetched_ok (h : PB w p lg x v) (hL : LgAt w S lg f) (hpS : ¬ S p) (h0 : 0 ≤ x.pts) (h1 : x.pts ≤ 1000000) (a y : Int) (ha : (Lit.int .i64 a).wf = true) (hyw : (Lit.int .u64 y).wf = true) (hh : hasL f.r a = true → valL f.r a = y) (he : errRead f.r a = 0) :
    Calls Try.prog 72 #[.pointer (some ⟨p, 0, none⟩), .int .i64 a, .int .u64 y] w fun e w' => e = .returned (.tuple #[]) ∧ FeOk w S p lg { x with val := y, pts := x.pts + 1 } (f.read a y) v w' := by
  have HW := Lib.hid (was_any hL a ha)
  have HR := Lib.hid (read_any hL a y ha hyw)
  rw [he] at HR
  have HP := Lib.hid h
  have c1 := Holds.cell h (i := 1) rfl
  have HF : Hid (∀ w1, LOut w S lg (f.read a y) w1 → FeOk w S p lg { x with val := y, pts := x.pts + 1 } (f.read a y) v ((w1.setCell ⟨p, 3, none⟩ (.int .u64 y)).setCell ⟨p, 4, none⟩ (.int .i64 (x.pts + 1))) ∧ w1.cell? ⟨p, 3, none⟩ = some (.int .u64 x.val) ∧ w1.frozen? ⟨p, 3, none⟩ = false ∧ w1.cell? ⟨p, 4, none⟩ = some (.int .i64 x.pts) ∧ w1.frozen? ⟨p, 4, none⟩ = false) := Lib.hid (fun w1 h => by
    have hP : PB w1 p lg x v := h.2.holds hpS HP.out
    have hT : Tch (· = p) w1 ((w1.setCell ⟨p, 3, none⟩ (.int .u64 y)).setCell ⟨p, 4, none⟩ (.int .i64 (x.pts + 1))) := ((Tch.refl (· = p) w1).setCell (p := ⟨p, 3, none⟩) (.inl rfl) _).setCell (p := ⟨p, 4, none⟩) (.inl rfl) _
    have hlt := HP.out.lt
    refine ⟨⟨(h.1.frame hT (fun k hk e => ?_)).more (fun k _ hk => hk.imp id (fun e => ⟨e.1, Nat.lt_of_lt_of_le e.2 hT.size⟩)), (h.2.mono (fun k _ e => .inr e)).trans (hT.mono (fun k _ e => .inl e)), (Holds.set hP 3 (.int .u64 y)).set 4 (.int .i64 (x.pts + 1))⟩, Holds.cell hP (i := 3) rfl, Holds.free hP 3, Holds.cell hP (i := 4) rfl, Holds.free hP 4⟩
    subst e
    rcases hk with hk | hk
    · exact hpS hk
    · omega)
  cases hc : hasL f.r a with
  | false =>
    rw [hc] at HW
    generalize valL f.r a = z at *
    clear h hL hh he hc
    go_enter Try.func72, Try.ntmps72
    go_wp2_with (first | (go_at_call 92; refine HW.out.mono ?_; rintro e w' ⟨rfl, rfl⟩) | (go_at_call 93; refine HR.out.mono ?_; rintro e w1 ⟨rfl, h⟩; obtain ⟨hQ, q1, q2, q3, q4⟩ := HF.out _ h; have HQ := Lib.hid hQ; clear h hQ))
    refine ⟨rfl, .tuple #[], (by simp [results, Try.results72, go_sem]), rfl, ?_⟩
    exact HQ.out
  | true =>
    rw [hc] at HW
    rw [hh hc] at HW
    clear h hL hh he hc
    go_enter Try.func72, Try.ntmps72
    go_wp2_with (first | (go_at_call 92; refine HW.out.mono ?_; rintro e w' ⟨rfl, rfl⟩) | (go_at_call 93; refine HR.out.mono ?_; rintro e w1 ⟨rfl, h⟩; obtain ⟨hQ, q1, q2, q3, q4⟩ := HF.out _ h; have HQ := Lib.hid hQ; clear h hQ))
    refine ⟨rfl, .tuple #[], (by simp [results, Try.results72, go_sem]), rfl, ?_⟩
    exact HQ.out

set_option maxRecDepth 100000 in
set_option maxHeartbeats 400000 in
theorem fetch11_yes {R : World → Prop} (h : PB w p lg x v) (a y : Int) (k1 : w.cell? ⟨b1, 0, none⟩ = some (.pointer (some ⟨p, 0, none⟩))) (k2 : w.cell? ⟨b2, 0, none⟩ = some (.int .i64 a)) (k3 : w.cell? ⟨b3, 0, none⟩ = some (.int .u64 y)) (hc : Calls Try.prog 72 #[.pointer (some ⟨p, 0, none⟩), .int .i64 a, .int .u64 y] w fun e w' => e = .returned (.tuple #[]) ∧ R w') :
    Calls Try.prog 69 #[.int .u64 x.snap, .pointer (some ⟨b1, 0, none⟩), .pointer (some ⟨b2, 0, none⟩), .pointer (some ⟨b3, 0, none⟩)] w fun e w' => e = .returned (.tuple #[]) ∧ R w' := by
  have c2 := Holds.cell h (i := 2) rfl
  have HC := Lib.hid hc
  clear h hc
  go_enter Try.func69, Try.ntmps69
  go_wp2_with (go_at_call 72; refine HC.out.mono ?_; rintro e w' ⟨rfl, h⟩; have H := Lib.hid h; clear h)
  refine ⟨rfl, .tuple #[], (by simp [results, Try.results69, go_sem]), rfl, ?_⟩
  exact H.out
end

end Go.Proofs.Ytgdfiggloifncaa
