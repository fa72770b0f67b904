/- The document's own: may, fits; the law's usual and Code. Conditions: those stated in each theorem. -/
import Derived.Test.YthjbcpgncnchoaaLbR
namespace Go.Proofs.Ythjbcpgncnchoaa
open Go.RowKit Go.BigFrame Go.Maps

set_option maxRecDepth 100000 in
set_option maxHeartbeats 1000000 in
theorem rmay_any (x : Pc) (w : World) : Calls Try.prog 15 #[x.val] w fun e w' => e = .returned (.bool (mayR x)) ∧ Below w.heap.size w w' := by
  have HB := Lib.hid ((Below.refl _ w).alloc (Nat.le_refl _) (.cells #[.int .i64 x.kind, .int .i64 x.base, .int .i64 x.buckets, .int .i64 x.cap] 23))
  have HS := Lib.hid (fun W => rsize_any x W)
  have hr := sizeR_range x
  have hb := boxP w x
  have hm : mayR x = (decide (0 < sizeR x) && decide (0 ≤ x.base) && decide (x.base ≤ 504) && decide (x.base + sizeR x ≤ 504)) := rfl
  generalize mayR x = rr at *
  generalize sizeR x = z at *
  by_cases h1 : 0 < z
  · have d1 : decide (0 < z) = true := by simpa using h1
    by_cases h2 : 0 ≤ x.base
    · have d2 : decide (0 ≤ x.base) = true := by simpa using h2
      have d2' : decide (x.base < 0) = false := by simp; omega
      by_cases h3 : x.base ≤ 504
      · have d3 : decide (x.base ≤ 504) = true := by simpa using h3
        rw [d1, d2, d3, Bool.true_and, Bool.true_and, Bool.true_and] at hm
        have hw : IntKind.i64.wrap (x.base + z) = x.base + z := IntWalk.i64_in _ (by omega)
        subst hm
        go_enter Try.func15, Try.ntmps15
        go_wp2_with (go_at_call 10; (with_reducible refine (HS.out _).mono ?_); rintro e V ⟨rfl, hb2⟩; have c1 := (hb.below hb2).cell (i := 1) rfl; have H2 := Lib.hid hb2; clear hb2)
        exact bodyPost_ret (results_tmp rfl _ _ _) rfl ⟨rfl, HB.out.trans (H2.out.mono HB.out.size)⟩
      · have d3 : decide (x.base ≤ 504) = false := by simpa using h3
        rw [d3] at hm
        simp only [Bool.and_false, Bool.false_and] at hm
        subst hm
        go_enter Try.func15, Try.ntmps15
        go_wp2_with (go_at_call 10; (with_reducible refine (HS.out _).mono ?_); rintro e V ⟨rfl, hb2⟩; have c1 := (hb.below hb2).cell (i := 1) rfl; have H2 := Lib.hid hb2; clear hb2)
        exact bodyPost_ret (results_tmp rfl _ _ _) rfl ⟨rfl, HB.out.trans (H2.out.mono HB.out.size)⟩
    · have d2 : decide (0 ≤ x.base) = false := by simpa using h2
      rw [d2] at hm
      simp only [Bool.and_false, Bool.false_and] at hm
      subst hm
      go_enter Try.func15, Try.ntmps15
      go_wp2_with (go_at_call 10; (with_reducible refine (HS.out _).mono ?_); rintro e V ⟨rfl, hb2⟩; have c1 := (hb.below hb2).cell (i := 1) rfl; have H2 := Lib.hid hb2; clear hb2)
      exact bodyPost_ret (results_tmp rfl _ _ _) rfl ⟨rfl, HB.out.trans (H2.out.mono HB.out.size)⟩
  · have d1 : decide (0 < z) = false := by simpa using h1
    rw [d1] at hm
    simp only [Bool.and_false, Bool.false_and] at hm
    subst hm
    go_enter Try.func15, Try.ntmps15
    go_wp2_with (go_at_call 10; (with_reducible refine (HS.out _).mono ?_); rintro e V ⟨rfl, hb2⟩; have c1 := (hb.below hb2).cell (i := 1) rfl; have H2 := Lib.hid hb2; clear hb2)
    exact bodyPost_ret (results_tmp rfl _ _ _) rfl ⟨rfl, HB.out.trans (H2.out.mono HB.out.size)⟩

/-- A list of instructions that may be a code. -/
def FitsL (l : List In) : Prop := l.length ≤ 128 ∧ ∀ i ∈ l, fitsI l.length i = true
set_option maxRecDepth 100000 in
set_option maxHeartbeats 2000000 in
theorem fits_yes (a : Option Addr) (ca : Nat) (l : List In) (w : World) (ha : RowsIn w a 5 In.cells l) (hl : FitsL l) :
    Calls Try.prog 16 #[.slice a l.length ca] w fun e w' => e = .returned (.bool true) ∧ Below w.heap.size w w' := by
  have hle := hl.1
  have Ha := Lib.hid ha; clear ha
  have Hl := Lib.hid hl; clear hl
  have d0 : decide ((128 : Int) < (l.length : Int)) = false := by simp; omega
  go_enter Try.func16, Try.ntmps16
  go_wp2_with fail
  go_loopw [3] (fun i wr => ∃ k : Nat, k ≤ l.length ∧ i = .int .i64 k ∧ Below w.heap.size w wr) (fun i _ => l.length - (intOf i).toNat)
  case atStart => exact ⟨0, by omega, by simp, Below.refl _ _⟩
  case round =>
    obtain ⟨k, hk, rfl, hbw⟩ := hrel
    have Hbw := Lib.hid hbw; clear hbw
    by_cases hlt : k < l.length
    · obtain ⟨x, hx⟩ : ∃ x, l[k]? = some x := ⟨l[k], List.getElem?_eq_getElem hlt⟩
      obtain ⟨q, c, rfl, hq, hr1⟩ := (Ha.out.below Hbw.out).row hx
      have hf := Hl.out.2 x (List.mem_of_getElem? hx)
      have HL := Lib.hid (fun W => rlegal_any x W)
      obtain ⟨op, xa, xb, xc, imm⟩ := x
      have hbk : (0 : Int) ≤ k ∧ (k : Int) < l.length := by omega
      have r0 : wr.cell? ⟨q, c + k * 5, none⟩ = some (.int .i64 op) := hr1 0 _ rfl
      have r1 : wr.cell? ⟨q, c + k * 5 + 1, none⟩ = some (.int .i64 xa) := hr1 1 _ rfl
      have r2 : wr.cell? ⟨q, c + k * 5 + 2, none⟩ = some (.int .i64 xb) := hr1 2 _ rfl
      have r3 : wr.cell? ⟨q, c + k * 5 + 3, none⟩ = some (.int .i64 xc) := hr1 3 _ rfl
      have r4 : wr.cell? ⟨q, c + k * 5 + 4, none⟩ = some (.int .i64 imm) := hr1 4 _ rfl
      clear hr1 hx
      simp only [fitsI, Bool.and_eq_true, Bool.or_eq_true, bne_iff_ne, decide_eq_true_eq, Bool.not_eq_true', Bool.and_eq_false_iff, decide_eq_false_iff_not] at hf
      obtain ⟨⟨hf1, hf2⟩, hf3⟩ := hf
      rw [hf1] at HL
      simp only [In.val] at HL
      have e1 : (op == 1) = false := by simpa using hf2
      have hbx : Hid (∀ V, Below (wr.alloc (.cells #[.int .i64 op, .int .i64 xa, .int .i64 xb, .int .i64 xc, .int .i64 imm] 40)).heap.size (wr.alloc (.cells #[.int .i64 op, .int .i64 xa, .int .i64 xb, .int .i64 xc, .int .i64 imm] 40)) V → Holds V wr.heap.size 40 (In.cells ⟨op, xa, xb, xc, imm⟩) ∧ Below w.heap.size w V) := Lib.hid (fun V h => ⟨(Holds.new wr 40 (In.cells ⟨op, xa, xb, xc, imm⟩)).below h, (Hbw.out.alloc Hbw.out.size _).trans (h.mono (Hbw.out.alloc Hbw.out.size _).size)⟩)
      by_cases hj : 13 ≤ op ∧ op ≤ 16
      · have g1 : decide (op < 13) = false := by simp; omega
        have g1' : decide (13 ≤ op) = true := by simp; omega
        have g2 : decide (op ≤ 16) = true := by simp; omega
        have hi : 0 ≤ imm ∧ imm ≤ l.length := by omega
        have g3 : decide (imm < 0) = false := by simp; omega
        have g4 : decide ((l.length : Int) < imm) = false := by simp; omega
        go_wp2_with (go_at_call 39; (with_reducible refine (HL.out _).mono ?_); rintro e V ⟨rfl, hb2⟩; obtain ⟨hv, hv2⟩ := hbx.out V hb2; have v0 := hv.cell (i := 0) rfl; have v4 := hv.cell (i := 4) rfl; have Hv := Lib.hid hv2; clear hb2 hv hv2)
        go_roundw
        case rel => exact ⟨k + 1, by omega, by simp, Hv.out⟩
        case measure => simp [intOf]; omega
      · by_cases hj1 : 13 ≤ op
        · have g1 : decide (op < 13) = false := by simp; omega
          have g1' : decide (13 ≤ op) = true := by simp; omega
          have g2 : decide (op ≤ 16) = false := by simp; omega
          go_wp2_with (go_at_call 39; (with_reducible refine (HL.out _).mono ?_); rintro e V ⟨rfl, hb2⟩; obtain ⟨hv, hv2⟩ := hbx.out V hb2; have v0 := hv.cell (i := 0) rfl; have v4 := hv.cell (i := 4) rfl; have Hv := Lib.hid hv2; clear hb2 hv hv2)
          go_roundw
          case rel => exact ⟨k + 1, by omega, by simp, Hv.out⟩
          case measure => simp [intOf]; omega
        · have g1 : decide (op < 13) = true := by simp; omega
          have g1' : decide (13 ≤ op) = false := by simp; omega
          go_wp2_with (go_at_call 39; (with_reducible refine (HL.out _).mono ?_); rintro e V ⟨rfl, hb2⟩; obtain ⟨hv, hv2⟩ := hbx.out V hb2; have v0 := hv.cell (i := 0) rfl; have v4 := hv.cell (i := 4) rfl; have Hv := Lib.hid hv2; clear hb2 hv hv2)
          go_roundw
          case rel => exact ⟨k + 1, by omega, by simp, Hv.out⟩
          case measure => simp [intOf]; omega
    · obtain rfl : k = l.length := by omega
      go_wp2
      go_ret
      exact ⟨rfl, Hbw.out⟩

def usualP (kind ck : Int) : Bool := decide (0 ≤ ck) && (((kind == 0) && decide (ck < 2)) || ((kind == 1) && decide (ck < 3)) || ((kind == 2) && decide (ck < 4)))
theorem two_boxes (w : World) (x : Pc) (c : Cc) : Holds ((w.alloc (.cells #[.int .i64 x.kind, .int .i64 x.base, .int .i64 x.buckets, .int .i64 x.cap] 23)).alloc (.cells #[.int .i64 c.kind, .int .u64 c.k, .int .u64 c.v] 26)) w.heap.size 23 x.cells ∧ Holds ((w.alloc (.cells #[.int .i64 x.kind, .int .i64 x.base, .int .i64 x.buckets, .int .i64 x.cap] 23)).alloc (.cells #[.int .i64 c.kind, .int .u64 c.k, .int .u64 c.v] 26)) (w.heap.size + 1) 26 c.cells ∧ Below w.heap.size w ((w.alloc (.cells #[.int .i64 x.kind, .int .i64 x.base, .int .i64 x.buckets, .int .i64 x.cap] 23)).alloc (.cells #[.int .i64 c.kind, .int .u64 c.k, .int .u64 c.v] 26)) :=
  ⟨(boxP w x).alloc _, newAt (by simp) 26 c.cells, ((Below.refl _ w).alloc (Nat.le_refl _) _).alloc (by simp) _⟩
set_option maxRecDepth 100000 in
set_option maxHeartbeats 4000000 in
theorem usual_any (x : Pc) (c : Cc) (w : World) : Calls Try.prog 13 #[x.val, c.val] w fun e w' => e = .returned (.bool (usualP x.kind c.kind)) ∧ Below w.heap.size w w' := by
  obtain ⟨hx, hc, hbl⟩ := two_boxes w x c
  have x0 := hx.cell (i := 0) rfl
  have c0 := hc.cell (i := 0) rfl
  have HB := Lib.hid hbl; clear hbl hx hc
  have hm : usualP x.kind c.kind = (decide (0 ≤ c.kind) && (((x.kind == 0) && decide (c.kind < 2)) || ((x.kind == 1) && decide (c.kind < 3)) || ((x.kind == 2) && decide (c.kind < 4)))) := rfl
  generalize usualP x.kind c.kind = rr at *
  by_cases h0 : 0 ≤ c.kind
  · have d0 : decide (0 ≤ c.kind) = true := by simpa using h0
    have d0' : decide (c.kind < 0) = false := by simp; omega
    rw [d0] at hm
    by_cases k0 : x.kind = 0
    · have e0 : (x.kind == 0) = true := by simpa using k0
      have e1 : (x.kind == 1) = false := by simp; omega
      have e2 : (x.kind == 2) = false := by simp; omega
      cases hd : decide (c.kind < 2) <;> (rw [e0, e1, e2, hd] at hm; subst hm; clear k0 h0; go_enter Try.func13, Try.ntmps13; go_wp2; exact bodyPost_ret (results_tmp rfl _ _ _) rfl ⟨rfl, HB.out⟩)
    · have e0 : (x.kind == 0) = false := by simpa using k0
      by_cases k1 : x.kind = 1
      · have e1 : (x.kind == 1) = true := by simpa using k1
        have e2 : (x.kind == 2) = false := by simp; omega
        cases hd : decide (c.kind < 3) <;> (rw [e0, e1, e2, hd] at hm; subst hm; clear k0 k1 h0; go_enter Try.func13, Try.ntmps13; go_wp2; exact bodyPost_ret (results_tmp rfl _ _ _) rfl ⟨rfl, HB.out⟩)
      · have e1 : (x.kind == 1) = false := by simpa using k1
        by_cases k2 : x.kind = 2
        · have e2 : (x.kind == 2) = true := by simpa using k2
          cases hd : decide (c.kind < 4) <;> (rw [e0, e1, e2, hd] at hm; subst hm; clear k0 k1 k2 h0; go_enter Try.func13, Try.ntmps13; go_wp2; exact bodyPost_ret (results_tmp rfl _ _ _) rfl ⟨rfl, HB.out⟩)
        · have e2 : (x.kind == 2) = false := by simpa using k2
          rw [e0, e1, e2] at hm
          subst hm
          clear k0 k1 k2 h0
          go_enter Try.func13, Try.ntmps13
          go_wp2
          exact bodyPost_ret (results_tmp rfl _ _ _) rfl ⟨rfl, HB.out⟩
  · have d0 : decide (0 ≤ c.kind) = false := by simpa using h0
    rw [d0, Bool.false_and] at hm
    subst hm
    go_enter Try.func13, Try.ntmps13
    go_wp2
    exact bodyPost_ret (results_tmp rfl _ _ _) rfl ⟨rfl, HB.out⟩

/-- Which code a call has. -/
def codeX (x : Pc) (c : Cc) : WV :=
  if x.kind = 0 then (if c.kind = 0 then codeQPush (poolX x) c.v else codeQPop (poolX x))
  else if x.kind = 1 then (if c.kind = 0 then codeHPut (poolX x) c.k c.v else if c.kind = 2 then codeHCut (poolX x) c.k else codeHGet (poolX x) c.k)
  else (if c.kind = 0 then codeTPut (poolX x) c.k c.v else if c.kind = 2 then codeTCut (poolX x) c.k else if c.kind = 3 then codeTLeast (poolX x) else codeTGet (poolX x) c.k)
theorem codeX_inv (x : Pc) (c : Cc) (hx : x.Ok) : Inv (codeX x c) 120 := by
  have hl : (poolX x).links ≤ 2 := by have := (poolX_any hx).w1; unfold Pl.links; omega
  unfold codeX
  repeat' split
  · exact inv_QPush
  · exact inv_QPop
  · exact inv_HPut hl
  · exact inv_HCut
  · exact inv_HGet
  · exact inv_TPut hl
  · exact inv_TCut
  · exact inv_TLeast
  · exact inv_TGet
theorem codeX_fits (x : Pc) (c : Cc) (hx : x.Ok) : FitsL (codeX x c).out := ⟨Nat.le_trans (codeX_inv x c hx).out_len (by decide), (codeX_inv x c hx).fits⟩
theorem codeX_ne (x : Pc) (c : Cc) : 1 ≤ (codeX x c).out.length := by
  unfold WV.out
  rw [patchL_len]
  unfold codeX
  repeat' split
  all_goals exact block_ne _ _
set_option maxRecDepth 100000 in
set_option maxHeartbeats 4000000 in
theorem code_any (x : Pc) (c : Cc) (hx : x.Ok) (hc : c.Ok) (w : World) : Calls Try.prog 14 #[x.val, c.val] w fun e w' => LibO w (poolX x) (codeX x c).out e w' := by
  obtain ⟨hbx, hbc, hbl⟩ := two_boxes w x c
  have x0 := hbx.cell (i := 0) rfl
  have x1 := hbx.cell (i := 1) rfl
  have x2 := hbx.cell (i := 2) rfl
  have x3 := hbx.cell (i := 3) rfl
  have c0 := hbc.cell (i := 0) rfl
  have c1 := hbc.cell (i := 1) rfl
  have c2 := hbc.cell (i := 2) rfl
  have HB := Lib.hid hbl; clear hbl hbx hbc
  have HO : Hid (∀ (V : World) (P : Pl) (l : List In) (e : Ending) (V' : World), Below w.heap.size w V → LibO V P l e V' → LibO w P l e V') := Lib.hid (fun V P l e V' hb h => by
    obtain ⟨v, n, h1, h2, h3, h4⟩ := h
    exact ⟨v, n, h1, hb.trans (h2.mono hb.size), fun m => ⟨(h3 m).1, owns_mono (h3 m).2 (fun g e => Nat.le_trans hb.size (owns_lt (h3 m).2 e).1)⟩, h4⟩)
  obtain ⟨y, hcx⟩ : ∃ y, y = codeX x c := ⟨_, rfl⟩
  obtain ⟨pp, hpx⟩ : ∃ pp, pp = poolX x := ⟨_, rfl⟩
  rw [← hcx, ← hpx]
  unfold codeX at hcx
  rw [← hpx] at hcx
  unfold poolX at hpx
  by_cases k0 : x.kind = 0
  · have e0 : (x.kind == 0) = true := by simpa using k0
    have e1 : (x.kind == 1) = false := by simp; omega
    rw [if_pos k0] at hcx hpx
    clear k0
    by_cases j0 : c.kind = 0
    · have f0 : (c.kind == 0) = true := by simpa using j0
      have f2 : (c.kind == 2) = false := by simp; omega
      have f3 : (c.kind == 3) = false := by simp; omega
      rw [if_pos j0] at hcx
      clear j0
      go_enter Try.func14, Try.ntmps14
      go_wp2_with (go_at_call 21; (with_reducible refine (QueuePush_any x.base x.cap hx.b hx.c c.v hc.v _).mono ?_); rintro e V h; obtain ⟨v, n, rfl, h2, h3, h4⟩ := h; have H := Lib.hid (HO.out _ _ _ _ _ HB.out ⟨v, n, rfl, h2, h3, h4⟩); clear h2 h3 h4)
      refine bodyPost_ret (results_tmp2 rfl _ _ _) rfl ?_
      rw [hcx, hpx]
      exact H.out
    · have f0 : (c.kind == 0) = false := by simpa using j0
      rw [if_neg j0] at hcx
      go_enter Try.func14, Try.ntmps14
      go_wp2_with (go_at_call 23; (with_reducible refine (QueuePop_any x.base x.cap hx.b hx.c _).mono ?_); rintro e V h; obtain ⟨v, n, rfl, h2, h3, h4⟩ := h; have H := Lib.hid (HO.out _ _ _ _ _ HB.out ⟨v, n, rfl, h2, h3, h4⟩); clear h2 h3 h4)
      refine bodyPost_ret (results_tmp2 rfl _ _ _) rfl ?_
      rw [hcx, hpx]
      exact H.out
  · have e0 : (x.kind == 0) = false := by simpa using k0
    rw [if_neg k0] at hcx hpx
    by_cases k1 : x.kind = 1
    · have e1 : (x.kind == 1) = true := by simpa using k1
      rw [if_pos k1] at hcx hpx
      clear k0 k1
      by_cases j0 : c.kind = 0
      · have f0 : (c.kind == 0) = true := by simpa using j0
        have f2 : (c.kind == 2) = false := by simp; omega
        have f3 : (c.kind == 3) = false := by simp; omega
        rw [if_pos j0] at hcx
        clear j0
        go_enter Try.func14, Try.ntmps14
        go_wp2_with (go_at_call 25; (with_reducible refine (HashPut_any x.base x.buckets x.cap hx.b hx.c c.k hc.k c.v hc.v _).mono ?_); rintro e V h; obtain ⟨v, n, rfl, h2, h3, h4⟩ := h; have H := Lib.hid (HO.out _ _ _ _ _ HB.out ⟨v, n, rfl, h2, h3, h4⟩); clear h2 h3 h4)
        refine bodyPost_ret (results_tmp2 rfl _ _ _) rfl ?_
        rw [hcx, hpx]
        exact H.out
      · have f0 : (c.kind == 0) = false := by simpa using j0
        rw [if_neg j0] at hcx
        by_cases j2 : c.kind = 2
        · have f2 : (c.kind == 2) = true := by simpa using j2
          have f3 : (c.kind == 3) = false := by simp; omega
          rw [if_pos j2] at hcx
          clear j2
          go_enter Try.func14, Try.ntmps14
          go_wp2_with (go_at_call 26; (with_reducible refine (HashCut_any x.base x.buckets x.cap hx.b hx.c c.k hc.k _).mono ?_); rintro e V h; obtain ⟨v, n, rfl, h2, h3, h4⟩ := h; have H := Lib.hid (HO.out _ _ _ _ _ HB.out ⟨v, n, rfl, h2, h3, h4⟩); clear h2 h3 h4)
          refine bodyPost_ret (results_tmp2 rfl _ _ _) rfl ?_
          rw [hcx, hpx]
          exact H.out
        · have f2 : (c.kind == 2) = false := by simpa using j2
          rw [if_neg j2] at hcx
          go_enter Try.func14, Try.ntmps14
          go_wp2_with (go_at_call 27; (with_reducible refine (HashGet_any x.base x.buckets x.cap hx.b hx.c c.k hc.k _).mono ?_); rintro e V h; obtain ⟨v, n, rfl, h2, h3, h4⟩ := h; have H := Lib.hid (HO.out _ _ _ _ _ HB.out ⟨v, n, rfl, h2, h3, h4⟩); clear h2 h3 h4)
          refine bodyPost_ret (results_tmp2 rfl _ _ _) rfl ?_
          rw [hcx, hpx]
          exact H.out
    · have e1 : (x.kind == 1) = false := by simpa using k1
      rw [if_neg k1] at hcx hpx
      clear k0 k1
      by_cases j0 : c.kind = 0
      · have f0 : (c.kind == 0) = true := by simpa using j0
        have f2 : (c.kind == 2) = false := by simp; omega
        have f3 : (c.kind == 3) = false := by simp; omega
        rw [if_pos j0] at hcx
        clear j0
        go_enter Try.func14, Try.ntmps14
        go_wp2_with (go_at_call 29; (with_reducible refine (TreePut_any x.base x.cap hx.b hx.c c.k hc.k c.v hc.v _).mono ?_); rintro e V h; obtain ⟨v, n, rfl, h2, h3, h4⟩ := h; have H := Lib.hid (HO.out _ _ _ _ _ HB.out ⟨v, n, rfl, h2, h3, h4⟩); clear h2 h3 h4)
        refine bodyPost_ret (results_tmp2 rfl _ _ _) rfl ?_
        rw [hcx, hpx]
        exact H.out
      · have f0 : (c.kind == 0) = false := by simpa using j0
        rw [if_neg j0] at hcx
        by_cases j2 : c.kind = 2
        · have f2 : (c.kind == 2) = true := by simpa using j2
          have f3 : (c.kind == 3) = false := by simp; omega
          rw [if_pos j2] at hcx
          clear j2
          go_enter Try.func14, Try.ntmps14
          go_wp2_with (go_at_call 31; (with_reducible refine (TreeCut_any x.base x.cap hx.b hx.c c.k hc.k _).mono ?_); rintro e V h; obtain ⟨v, n, rfl, h2, h3, h4⟩ := h; have H := Lib.hid (HO.out _ _ _ _ _ HB.out ⟨v, n, rfl, h2, h3, h4⟩); clear h2 h3 h4)
          refine bodyPost_ret (results_tmp2 rfl _ _ _) rfl ?_
          rw [hcx, hpx]
          exact H.out
        · have f2 : (c.kind == 2) = false := by simpa using j2
          rw [if_neg j2] at hcx
          by_cases j3 : c.kind = 3
          · have f3 : (c.kind == 3) = true := by simpa using j3
            rw [if_pos j3] at hcx
            clear j3
            go_enter Try.func14, Try.ntmps14
            go_wp2_with (go_at_call 30; (with_reducible refine (TreeLeast_any x.base x.cap hx.b hx.c _).mono ?_); rintro e V h; obtain ⟨v, n, rfl, h2, h3, h4⟩ := h; have H := Lib.hid (HO.out _ _ _ _ _ HB.out ⟨v, n, rfl, h2, h3, h4⟩); clear h2 h3 h4)
            refine bodyPost_ret (results_tmp2 rfl _ _ _) rfl ?_
            rw [hcx, hpx]
            exact H.out
          · have f3 : (c.kind == 3) = false := by simpa using j3
            rw [if_neg j3] at hcx
            go_enter Try.func14, Try.ntmps14
            go_wp2_with (go_at_call 32; (with_reducible refine (TreeGet_any x.base x.cap hx.b hx.c c.k hc.k _).mono ?_); rintro e V h; obtain ⟨v, n, rfl, h2, h3, h4⟩ := h; have H := Lib.hid (HO.out _ _ _ _ _ HB.out ⟨v, n, rfl, h2, h3, h4⟩); clear h2 h3 h4)
            refine bodyPost_ret (results_tmp2 rfl _ _ _) rfl ?_
            rw [hcx, hpx]
            exact H.out

set_option maxRecDepth 100000 in
theorem QueueSize_any (cap : Int) (hc : I64 cap) (w : World) : Calls Try.prog 9 #[.int .i64 cap] w fun e w' => e = .returned (.int .i64 (queueP 0 cap).size) ∧ Below w.heap.size w w' := by
  have HP := Lib.hid (queueP_any (by unfold I64; omega) hc : (queueP 0 cap).Any)
  have HA := Lib.hid (fun W => queueAt_any 0 cap W)
  go_enter Try.func9, Try.ntmps9
  go_wp2_with (first | (go_at_call 35; (with_reducible refine (HA.out _).mono ?_); rintro e V ⟨rfl, h⟩; have HQ := Lib.hid h; clear h) | (go_at_call 36; (with_reducible refine (size_any _ HP.out _).mono ?_); rintro e V2 ⟨rfl, h⟩; have HR := Lib.hid h; clear h))
  exact bodyPost_ret (results_tmp rfl _ _ _) rfl ⟨rfl, HQ.out.trans (HR.out.mono HQ.out.size)⟩

set_option maxRecDepth 100000 in
theorem HashSize_any (buckets cap : Int) (hc : I64 cap) (w : World) : Calls Try.prog 11 #[.int .i64 buckets, .int .i64 cap] w fun e w' => e = .returned (.int .i64 (hashP 0 buckets cap).size) ∧ Below w.heap.size w w' := by
  have HP := Lib.hid (hashP_any (by unfold I64; omega) hc : (hashP 0 buckets cap).Any)
  have HA := Lib.hid (fun W => hashAt_any 0 buckets cap W)
  go_enter Try.func11, Try.ntmps11
  go_wp2_with (first | (go_at_call 37; (with_reducible refine (HA.out _).mono ?_); rintro e V ⟨rfl, h⟩; have HQ := Lib.hid h; clear h) | (go_at_call 36; (with_reducible refine (size_any _ HP.out _).mono ?_); rintro e V2 ⟨rfl, h⟩; have HR := Lib.hid h; clear h))
  exact bodyPost_ret (results_tmp rfl _ _ _) rfl ⟨rfl, HQ.out.trans (HR.out.mono HQ.out.size)⟩

set_option maxRecDepth 100000 in
theorem TreeSize_any (cap : Int) (hc : I64 cap) (w : World) : Calls Try.prog 12 #[.int .i64 cap] w fun e w' => e = .returned (.int .i64 (treeP 0 cap).size) ∧ Below w.heap.size w w' := by
  have HP := Lib.hid (treeP_any (by unfold I64; omega) hc : (treeP 0 cap).Any)
  have HA := Lib.hid (fun W => treeAt_any 0 cap W)
  go_enter Try.func12, Try.ntmps12
  go_wp2_with (first | (go_at_call 38; (with_reducible refine (HA.out _).mono ?_); rintro e V ⟨rfl, h⟩; have HQ := Lib.hid h; clear h) | (go_at_call 36; (with_reducible refine (size_any _ HP.out _).mono ?_); rintro e V2 ⟨rfl, h⟩; have HR := Lib.hid h; clear h))
  exact bodyPost_ret (results_tmp rfl _ _ _) rfl ⟨rfl, HQ.out.trans (HR.out.mono HQ.out.size)⟩

end Go.Proofs.Ythjbcpgncnchoaa
