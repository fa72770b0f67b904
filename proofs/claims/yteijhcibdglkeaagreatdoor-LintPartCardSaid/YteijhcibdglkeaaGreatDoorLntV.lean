/- LintPart: the walk. Conditions: those stated in each theorem. -/
import Derived.Test.YteijhcibdglkeaaGreatDoorLntL
import Derived.Test.YteijhcibdglkeaaGreatDoorLntR
import Derived.Test.YteijhcibdglkeaaGreatDoorCame
import Derived.Test.YteijhcibdglkeaaGreatDoorDat
import Derived.Laws.AppendOwnNone
import Derived.Maps.AppendAt
import Derived.Deep.CutRange
namespace Go.Proofs.YteijhcibdglkeaaGreatDoor
open Go.RowKit Go.BigFrame Go.Shelf

def flatI (l : List In) : List Value := l.flatMap In.cells
theorem flatI_at : ∀ (l : List In) (k : Nat) (x : In), l[k]? = some x → ∀ (j : Nat) (v : Value), x.cells[j]? = some v → (flatI l)[k * 5 + j]? = some v
  | [], _, _, h, _, _, _ => by simp at h
  | y :: r, 0, x, h, j, v, hj => by
    simp at h; subst h
    have : j < y.cells.length := (List.getElem?_eq_some_iff.1 hj).1
    simp only [flatI, List.flatMap_cons, Nat.zero_mul, Nat.zero_add]
    rw [List.getElem?_append_left this]; exact hj
  | y :: r, k + 1, x, h, j, v, hj => by
    have := flatI_at r k x (by simpa using h) j v hj
    have hl : y.cells.length = 5 := by simp [In.cells]
    simp only [flatI, List.flatMap_cons] at this ⊢
    rw [List.getElem?_append_right (by omega), hl, show (k + 1) * 5 + j - 5 = k * 5 + j by omega]
    exact this
theorem flatI_len : ∀ (l : List In), (flatI l).length = l.length * 5
  | [] => rfl
  | x :: r => by
    have := flatI_len r
    unfold flatI at this ⊢
    rw [List.flatMap_cons, List.length_append, this, List.length_cons]
    simp [In.cells]; omega
theorem flatI_one (l : List In) : ∀ u ∈ flatI l, u.oneCell' = true := by
  intro u hu
  unfold flatI at hu
  obtain ⟨x, _, hx⟩ := List.mem_flatMap.1 hu
  simp only [In.cells, List.mem_cons, List.not_mem_nil, or_false] at hx
  rcases hx with rfl | rfl | rfl | rfl | rfl <;> rfl
theorem flatI_news {w : World} {a : Option Addr} {l : List In} (h : RowsIn w a 5 In.cells l) (ad : Addr) (ha : a = some ad) : ∀ j u, (flatI l)[j]? = some u → w.cell? (ad.add j) = some u := by
  intro j u hj
  have hlt : j < l.length * 5 := by rw [← flatI_len]; exact (List.getElem?_eq_some_iff.1 hj).1
  have hk : j / 5 < l.length := by omega
  obtain ⟨x, hx⟩ : ∃ x, l[j / 5]? = some x := ⟨l[j / 5], List.getElem?_eq_getElem hk⟩
  obtain ⟨q, c, e, hq, hr⟩ := h.row hx
  rw [ha] at e
  cases e
  have hm : j % 5 < 5 := Nat.mod_lt _ (by omega)
  obtain ⟨v, hc⟩ : ∃ v, x.cells[j % 5]? = some v := ⟨_, List.getElem?_eq_getElem (by simp [In.cells]; omega)⟩
  have h1 := flatI_at l _ x hx _ _ hc
  rw [show j / 5 * 5 + j % 5 = j by omega, hj] at h1
  cases h1
  have := hr _ _ hc
  rw [show c + j / 5 * 5 + j % 5 = c + j by omega] at this
  unfold Addr.add
  split
  · rename_i h0; subst h0; exact this
  · exact this
theorem flatI_rows {w : World} {lo n cap : Nat} {ad : Option Addr} {l : List In} (h : w.ownsRow lo 43 5 (.slice ad cap n) l.length (flatI l)) : RowsIn w ad 5 In.cells l := by
  rcases owns_form h with ⟨_, h0, _⟩ | ⟨g, cap', e, _⟩
  · exact .inl (List.eq_nil_of_length_eq_zero h0)
  · cases e
    refine .inr ⟨g, 0, rfl, (owns_lt h rfl).2, fun k x hx j v hj => ?_⟩
    rw [Nat.zero_add]
    exact (owns_cell h (g := g) rfl (flatI_at l k x hx j v hj)).1
theorem owns_zeroI (w : World) (t : TypeId) : (w.alloc (.cells #[] t)).ownsRow w.heap.size t 5 (.slice (some ⟨w.heap.size, 0, none⟩) 0 0) 0 [] :=
  ⟨rfl, .inr ⟨w.heap.size, 0, #[], rfl, Nat.le_refl _, new_block w _, Nat.le_refl _, by unfold maxLen; omega, rfl, rfl⟩⟩


theorem Tryz.infoInstrG : (Tryz.prog.info? 43).map (fun i => (i.zero, i.size, i.bytes)) = some (some (.agg #[.int .i64 0, .int .i64 0, .int .i64 0, .int .i64 0, .int .i64 0]), 5, 40) := by kernel_rfl
theorem eqf_stepL (d : Nat) (f : Field) (fs : List Field) (xs ys : Array Value) (a b : Value) (r : Bool) (w : World) (hn : f.name ≠ "_") (h1 : (part f.type xs f.offset).run Tryz.prog w = .ok a w) (h2 : (part f.type ys f.offset).run Tryz.prog w = .ok b w) (h3 : (Op.equalIn d f.type a b).run Tryz.prog w = .ok r w) :
    (Op.eqFields d xs ys (f :: fs)).run Tryz.prog w = if r then (Op.eqFields d xs ys fs).run Tryz.prog w else .ok false w := by
  simp only [Op.eqFields, if_pos hn, Sem.run_bind, h1, h2, h3, Result.andThen_ok]
  cases r <;> simp
set_option maxRecDepth 100000 in
theorem same_fd (a b a' b' : Int) (w : World) : (Op.equalIn 10000 25 (.agg #[.int .i64 a, .int .i64 b]) (.agg #[.int .i64 a', .int .i64 b'])).run Tryz.prog w = .ok (a == a' && b == b') w := by
  rw [show (10000 : Nat) = 9999 + 1 from rfl, run_equalIn_agg w 9999 25 _ _ (by kernel_rfl) Tryz.stoodInHeld25]
  rw [show (Tryz.prog.fieldsOf 25).toList = [{ name := "Code", type := 3, offset := 0, embedded := false, tag := "", pkgPath := "", byteOffset := 0 }, { name := "Place", type := 3, offset := 1, embedded := false, tag := "", pkgPath := "", byteOffset := 8 }] from by kernel_rfl]
  rw [eqf_stepL 9999 _ _ _ _ (.int .i64 a) (.int .i64 a') (a == a') w (by simp) (by kernel_rfl) (by kernel_rfl) (run_equalIn_int w 9998 3 .i64 .i64 a a' Tryz.underlying3),
    eqf_stepL 9999 _ _ _ _ (.int .i64 b) (.int .i64 b') (b == b') w (by simp) (by kernel_rfl) (by kernel_rfl) (run_equalIn_int w 9998 3 .i64 .i64 b b' Tryz.underlying3)]
  cases a == a' <;> cases b == b' <;> simp [Op.eqFields]
@[local go_sem ↓ high] theorem same_fdv (a b : Int) (w : World) : (Op.equalIn 10000 25 (.agg #[.int .i64 a, .int .i64 b]) (.agg #[.int .i64 a, .int .i64 b])).run Tryz.prog w = .ok true w := by
  rw [same_fd]; simp
def instrKinds5 : List CK := [⟨0, .i64⟩, ⟨0, .i64⟩, ⟨0, .i64⟩, ⟨0, .i64⟩, ⟨0, .i64⟩]
theorem instr_mk5 (vs : List Value) (h : Fit instrKinds5 vs) : ∃ x : In, x.cells = vs ∧ x.Ok := by
  have h1 := h.1
  have h2 := h.2
  match vs, h1 with
  | [c0, c1, c2, c3, c4], _ =>
    obtain ⟨x0, rfl, w0⟩ := h2 0 _ _ rfl rfl
    obtain ⟨x1, rfl, w1⟩ := h2 1 _ _ rfl rfl
    obtain ⟨x2, rfl, w2⟩ := h2 2 _ _ rfl rfl
    obtain ⟨x3, rfl, w3⟩ := h2 3 _ _ rfl rfl
    obtain ⟨x4, rfl, w4⟩ := h2 4 _ _ rfl rfl
    have g : ∀ z, (Lit.int .i64 z).wf = true → I64 z := fun z h => by simp [Lit.wf, IntKind.min, IntKind.max, IntKind.signed, IntKind.bits] at h; unfold I64; omega
    exact ⟨⟨x0, x1, x2, x3, x4⟩, rfl, g _ w0, g _ w1, g _ w2, g _ w3, g _ w4⟩
def farB (n : Nat) (i : In) : Prop := legalP i = true ∧ 13 ≤ i.op ∧ i.op ≤ 16 ∧ (n : Int) ≤ i.imm ∧ i.imm ≤ 1024

set_option maxRecDepth 100000 in
set_option maxHeartbeats 8000000 in
theorem part_any (a : Option Addr) (cap : Nat) (c : List In) (hok : ∀ i ∈ c, i.Ok) (a1 : Option Addr) (cap1 : Nat) (d : List In) (hok1 : ∀ i ∈ d, i.Ok) (w : World) (h : StdN w) (hr : RowsIn w a 5 In.cells c) (hr1 : RowsIn w a1 5 In.cells d)
    (ha : a = none → c.length = 0 ∧ cap = 0) (ha1 : a1 = none → d.length = 0 ∧ cap1 = 0) : Calls Tryz.prog 6 #[.slice a c.length cap, .slice a1 d.length cap1] w fun e w' => e = .returned (.bool true) ∧ Below w.heap.size w w' := by
  have HA := Lib.hid (alive_lint h)
  have H := Lib.hid (And.intro h (And.intro hr hr1)); clear h hr hr1
  have Ha := Lib.hid (And.intro ha ha1); clear ha ha1
  have Hok := Lib.hid (And.intro hok hok1); clear hok hok1
  go_enter Tryz.func6, Tryz.ntmps6
  go_wp2_with fail
  refine HA.out.mono ?_
  rintro e w1 ⟨rfl, hb1⟩
  have H1 := Lib.hid hb1; clear hb1 HA
  by_cases hbig : 200 < c.length
  · have d1 : decide (200 < (c.length : Int)) = true := decide_eq_true (by omega)
    clear hbig
    go_wp2_with fail
    go_ret
    exact ⟨rfl, H1.out⟩
  have d1 : decide (200 < (c.length : Int)) = false := decide_eq_false (by omega)
  by_cases hbig1 : 200 < d.length
  · have e1 : decide (200 < (d.length : Int)) = true := decide_eq_true (by omega)
    clear hbig hbig1
    go_wp2_with fail
    go_ret
    exact ⟨rfl, H1.out⟩
  have e1 : decide (200 < (d.length : Int)) = false := decide_eq_false (by omega)
  have Hn := Lib.hid (And.intro (Nat.le_of_not_lt hbig) (Nat.le_of_not_lt hbig1)); clear hbig hbig1
  go_wp2_with fail
  go_loopg [32] (c.length + 1) (fun gg s32 wr => ∃ k : Nat, k ≤ c.length ∧ c.length + 1 - k ≤ gg ∧ s32 = .int .i64 k ∧ Below w.heap.size w wr ∧ ∀ j i, j < k → c[j]? = some i → ¬ farB c.length i)
  case atStart => exact ⟨0, by omega, by omega, rfl, H1.out, fun j i hj => by omega⟩
  case round =>
    obtain ⟨k, hk, hgg, rfl, hb, hall⟩ := hrel
    by_cases hkn : k < c.length
    · obtain ⟨x, hx⟩ : ∃ x, c[k]? = some x := ⟨_, List.getElem?_eq_getElem hkn⟩
      obtain ⟨q, o, rfl, -, hrow⟩ := (H.out.2.1.below hb).row hx
      obtain ⟨op, xa, xb, xc, im⟩ := x
      have hki : (0 : Int) ≤ k ∧ (k : Int) < c.length := by omega
      have hkk : IntKind.i64.wrap ((k : Int) + 1) = (k : Int) + 1 := by have := Hn.out.1; rw [IntKind.wrap_i64]; omega
      have r0 : wr.cell? ⟨q, o + k * 5, none⟩ = some (.int .i64 op) := hrow 0 _ rfl
      have r1 : wr.cell? ⟨q, o + k * 5 + 1, none⟩ = some (.int .i64 xa) := hrow 1 _ rfl
      have r2 : wr.cell? ⟨q, o + k * 5 + 2, none⟩ = some (.int .i64 xb) := hrow 2 _ rfl
      have r3 : wr.cell? ⟨q, o + k * 5 + 3, none⟩ = some (.int .i64 xc) := hrow 3 _ rfl
      have r4 : wr.cell? ⟨q, o + k * 5 + 4, none⟩ = some (.int .i64 im) := hrow 4 _ rfl
      have hlg : Calls Tryz.prog 14 #[.agg #[.int .i64 op, .int .i64 xa, .int .i64 xb, .int .i64 xc, .int .i64 im]] wr fun e w' => e = .returned (.bool (legalP ⟨op, xa, xb, xc, im⟩)) ∧ Below wr.heap.size wr w' := legal_any ⟨op, xa, xb, xc, im⟩ wr (H.out.1.std.forms.below hb)
      have HL := Lib.hid hlg; clear hlg
      have HX := Lib.hid (And.intro hb (And.intro hall (And.intro hkn (And.intro hgg hx)))); clear hb hall hkn hgg hx hk hrow
      go_wp2_with fail
      refine HL.out.mono ?_
      rintro e w2 ⟨rfl, hb2⟩
      have hb2' := HX.out.1.trans (hb2.mono HX.out.1.size)
      obtain ⟨q2, o2, e2, -, hrow⟩ := (H.out.2.1.below hb2').row HX.out.2.2.2.2
      cases e2
      have r0 : w2.cell? ⟨q, o + k * 5, none⟩ = some (.int .i64 op) := hrow 0 _ rfl
      have r4 : w2.cell? ⟨q, o + k * 5 + 4, none⟩ = some (.int .i64 im) := hrow 4 _ rfl
      have HB2 := Lib.hid hb2'; clear hb2 hb2' hrow HL
      cases hlp : legalP ⟨op, xa, xb, xc, im⟩ with
      | true =>
        have Hlp := Lib.hid hlp; clear hlp
        have hcs : (op < 13) ∨ (13 ≤ op ∧ 16 < op) ∨ (13 ≤ op ∧ op ≤ 16 ∧ im < c.length) ∨ (13 ≤ op ∧ op ≤ 16 ∧ c.length ≤ im ∧ 1024 < im) ∨ (13 ≤ op ∧ op ≤ 16 ∧ c.length ≤ im ∧ im ≤ 1024) := by omega
        rcases hcs with hc | hc | hc | hc | hc
        · have d2 : decide (13 ≤ op) = false := decide_eq_false (by omega)
          have hnf : ¬ farB c.length ⟨op, xa, xb, xc, im⟩ := fun hf => by
            obtain ⟨f1, f2, f3, f4, f5⟩ := hf
            simp only at f2 f3 f4 f5
            first | omega | (rw [Hlp.out] at f1; cases f1)
          have Hc := Lib.hid hnf; clear hc hnf
          go_wp2_with fail
          go_roundg (c.length - k)
          case rel => exact ⟨k + 1, by have := HX.out.2.2.1; omega, by have := HX.out.2.2.1; omega, by simp, HB2.out, fun j i hj hi => by
            by_cases e : j = k
            · subst e; rw [HX.out.2.2.2.2] at hi; cases hi; exact Hc.out
            · exact HX.out.2.1 j i (by omega) hi⟩
          case measure => have := HX.out.2.2; omega
        · have d2 : decide (13 ≤ op) = true := decide_eq_true (by omega)
          have d3 : decide (op ≤ 16) = false := decide_eq_false (by omega)
          have hnf : ¬ farB c.length ⟨op, xa, xb, xc, im⟩ := fun hf => by
            obtain ⟨f1, f2, f3, f4, f5⟩ := hf
            simp only at f2 f3 f4 f5
            first | omega | (rw [Hlp.out] at f1; cases f1)
          have Hc := Lib.hid hnf; clear hc hnf
          go_wp2_with fail
          go_roundg (c.length - k)
          case rel => exact ⟨k + 1, by have := HX.out.2.2.1; omega, by have := HX.out.2.2.1; omega, by simp, HB2.out, fun j i hj hi => by
            by_cases e : j = k
            · subst e; rw [HX.out.2.2.2.2] at hi; cases hi; exact Hc.out
            · exact HX.out.2.1 j i (by omega) hi⟩
          case measure => have := HX.out.2.2; omega
        · have d2 : decide (13 ≤ op) = true := decide_eq_true (by omega)
          have d3 : decide (op ≤ 16) = true := decide_eq_true (by omega)
          have d4 : decide ((c.length : Int) ≤ im) = false := decide_eq_false (by omega)
          have hnf : ¬ farB c.length ⟨op, xa, xb, xc, im⟩ := fun hf => by
            obtain ⟨f1, f2, f3, f4, f5⟩ := hf
            simp only at f2 f3 f4 f5
            first | omega | (rw [Hlp.out] at f1; cases f1)
          have Hc := Lib.hid hnf; clear hc hnf
          go_wp2_with fail
          go_roundg (c.length - k)
          case rel => exact ⟨k + 1, by have := HX.out.2.2.1; omega, by have := HX.out.2.2.1; omega, by simp, HB2.out, fun j i hj hi => by
            by_cases e : j = k
            · subst e; rw [HX.out.2.2.2.2] at hi; cases hi; exact Hc.out
            · exact HX.out.2.1 j i (by omega) hi⟩
          case measure => have := HX.out.2.2; omega
        · have d2 : decide (13 ≤ op) = true := decide_eq_true (by omega)
          have d3 : decide (op ≤ 16) = true := decide_eq_true (by omega)
          have d4 : decide ((c.length : Int) ≤ im) = true := decide_eq_true (by omega)
          have d5 : decide (im ≤ 1024) = false := decide_eq_false (by omega)
          have hnf : ¬ farB c.length ⟨op, xa, xb, xc, im⟩ := fun hf => by
            obtain ⟨f1, f2, f3, f4, f5⟩ := hf
            simp only at f2 f3 f4 f5
            first | omega | (rw [Hlp.out] at f1; cases f1)
          have Hc := Lib.hid hnf; clear hc hnf
          go_wp2_with fail
          go_roundg (c.length - k)
          case rel => exact ⟨k + 1, by have := HX.out.2.2.1; omega, by have := HX.out.2.2.1; omega, by simp, HB2.out, fun j i hj hi => by
            by_cases e : j = k
            · subst e; rw [HX.out.2.2.2.2] at hi; cases hi; exact Hc.out
            · exact HX.out.2.1 j i (by omega) hi⟩
          case measure => have := HX.out.2.2; omega
        · have d2 : decide (13 ≤ op) = true := decide_eq_true (by omega)
          have d3 : decide (op ≤ 16) = true := decide_eq_true (by omega)
          have d4 : decide ((c.length : Int) ≤ im) = true := decide_eq_true (by omega)
          have d5 : decide (im ≤ 1024) = true := decide_eq_true (by omega)
          have Hc := Lib.hid hc; clear hc
          go_wp2_with fail
          go_ret
          exact ⟨rfl, HB2.out⟩
      | false =>
        have Hlp := Lib.hid hlp; clear hlp
        have hcs : (op < 13) ∨ (13 ≤ op ∧ 16 < op) ∨ (13 ≤ op ∧ op ≤ 16 ∧ im < c.length) ∨ (13 ≤ op ∧ op ≤ 16 ∧ c.length ≤ im ∧ 1024 < im) ∨ (13 ≤ op ∧ op ≤ 16 ∧ c.length ≤ im ∧ im ≤ 1024) := by omega
        rcases hcs with hc | hc | hc | hc | hc
        · have d2 : decide (13 ≤ op) = false := decide_eq_false (by omega)
          have hnf : ¬ farB c.length ⟨op, xa, xb, xc, im⟩ := fun hf => by
            obtain ⟨f1, f2, f3, f4, f5⟩ := hf
            simp only at f2 f3 f4 f5
            first | omega | (rw [Hlp.out] at f1; cases f1)
          have Hc := Lib.hid hnf; clear hc hnf
          go_wp2_with fail
          go_roundg (c.length - k)
          case rel => exact ⟨k + 1, by have := HX.out.2.2.1; omega, by have := HX.out.2.2.1; omega, by simp, HB2.out, fun j i hj hi => by
            by_cases e : j = k
            · subst e; rw [HX.out.2.2.2.2] at hi; cases hi; exact Hc.out
            · exact HX.out.2.1 j i (by omega) hi⟩
          case measure => have := HX.out.2.2; omega
        · have d2 : decide (13 ≤ op) = true := decide_eq_true (by omega)
          have d3 : decide (op ≤ 16) = false := decide_eq_false (by omega)
          have hnf : ¬ farB c.length ⟨op, xa, xb, xc, im⟩ := fun hf => by
            obtain ⟨f1, f2, f3, f4, f5⟩ := hf
            simp only at f2 f3 f4 f5
            first | omega | (rw [Hlp.out] at f1; cases f1)
          have Hc := Lib.hid hnf; clear hc hnf
          go_wp2_with fail
          go_roundg (c.length - k)
          case rel => exact ⟨k + 1, by have := HX.out.2.2.1; omega, by have := HX.out.2.2.1; omega, by simp, HB2.out, fun j i hj hi => by
            by_cases e : j = k
            · subst e; rw [HX.out.2.2.2.2] at hi; cases hi; exact Hc.out
            · exact HX.out.2.1 j i (by omega) hi⟩
          case measure => have := HX.out.2.2; omega
        · have d2 : decide (13 ≤ op) = true := decide_eq_true (by omega)
          have d3 : decide (op ≤ 16) = true := decide_eq_true (by omega)
          have d4 : decide ((c.length : Int) ≤ im) = false := decide_eq_false (by omega)
          have hnf : ¬ farB c.length ⟨op, xa, xb, xc, im⟩ := fun hf => by
            obtain ⟨f1, f2, f3, f4, f5⟩ := hf
            simp only at f2 f3 f4 f5
            first | omega | (rw [Hlp.out] at f1; cases f1)
          have Hc := Lib.hid hnf; clear hc hnf
          go_wp2_with fail
          go_roundg (c.length - k)
          case rel => exact ⟨k + 1, by have := HX.out.2.2.1; omega, by have := HX.out.2.2.1; omega, by simp, HB2.out, fun j i hj hi => by
            by_cases e : j = k
            · subst e; rw [HX.out.2.2.2.2] at hi; cases hi; exact Hc.out
            · exact HX.out.2.1 j i (by omega) hi⟩
          case measure => have := HX.out.2.2; omega
        · have d2 : decide (13 ≤ op) = true := decide_eq_true (by omega)
          have d3 : decide (op ≤ 16) = true := decide_eq_true (by omega)
          have d4 : decide ((c.length : Int) ≤ im) = true := decide_eq_true (by omega)
          have d5 : decide (im ≤ 1024) = false := decide_eq_false (by omega)
          have hnf : ¬ farB c.length ⟨op, xa, xb, xc, im⟩ := fun hf => by
            obtain ⟨f1, f2, f3, f4, f5⟩ := hf
            simp only at f2 f3 f4 f5
            first | omega | (rw [Hlp.out] at f1; cases f1)
          have Hc := Lib.hid hnf; clear hc hnf
          go_wp2_with fail
          go_roundg (c.length - k)
          case rel => exact ⟨k + 1, by have := HX.out.2.2.1; omega, by have := HX.out.2.2.1; omega, by simp, HB2.out, fun j i hj hi => by
            by_cases e : j = k
            · subst e; rw [HX.out.2.2.2.2] at hi; cases hi; exact Hc.out
            · exact HX.out.2.1 j i (by omega) hi⟩
          case measure => have := HX.out.2.2; omega
        · have d2 : decide (13 ≤ op) = true := decide_eq_true (by omega)
          have d3 : decide (op ≤ 16) = true := decide_eq_true (by omega)
          have d4 : decide ((c.length : Int) ≤ im) = true := decide_eq_true (by omega)
          have d5 : decide (im ≤ 1024) = true := decide_eq_true (by omega)
          have hnf : ¬ farB c.length ⟨op, xa, xb, xc, im⟩ := fun hf => by
            obtain ⟨f1, f2, f3, f4, f5⟩ := hf
            simp only at f2 f3 f4 f5
            first | omega | (rw [Hlp.out] at f1; cases f1)
          have Hc := Lib.hid hnf; clear hc hnf
          go_wp2_with fail
          go_roundg (c.length - k)
          case rel => exact ⟨k + 1, by have := HX.out.2.2.1; omega, by have := HX.out.2.2.1; omega, by simp, HB2.out, fun j i hj hi => by
            by_cases e : j = k
            · subst e; rw [HX.out.2.2.2.2] at hi; cases hi; exact Hc.out
            · exact HX.out.2.1 j i (by omega) hi⟩
          case measure => have := HX.out.2.2; omega
    · obtain rfl : k = c.length := by omega
      have HX := Lib.hid (And.intro hb hall); clear hb hall hkn hk hgg
      by_cases h0 : c.length = 0
      · have d6 : decide (0 < (c.length : Int)) = false := decide_eq_false (by omega)
        have d7 : ((c.length : Int) == 0) = true := by rw [h0]; rfl
        obtain rfl : c = [] := List.eq_nil_of_length_eq_zero h0
        clear h0 d6 d7 d1
        go_wp2_with fail
        go_ret
        exact ⟨rfl, HX.out.1⟩
      have d6 : decide (0 < (c.length : Int)) = true := decide_eq_true (by omega)
      have d7 : ((c.length : Int) == 0) = false := by rw [beq_eq_false_iff_ne]; omega
      obtain ⟨m, hm⟩ : ∃ m, c.length = m + 1 := ⟨c.length - 1, by omega⟩
      obtain ⟨x, hx⟩ : ∃ x, c[m]? = some x := ⟨_, List.getElem?_eq_getElem (by omega)⟩
      obtain ⟨q, o, rfl, -, hrow⟩ := (H.out.2.1.below HX.out.1).row hx
      have hsub : IntKind.i64.wrap ((c.length : Int) - 1) = (m : Nat) := by have := Hn.out.1; rw [IntKind.wrap_i64]; omega
      have hki : (0 : Int) ≤ (m : Nat) ∧ ((m : Nat) : Int) < c.length := by omega
      have r0 : wr.cell? ⟨q, o + m * 5, none⟩ = some (.int .i64 x.op) := hrow 0 _ rfl
      have HM := Lib.hid (And.intro hm (And.intro hx h0)); clear hm hx h0 hrow
      by_cases hop : x.op = 1 ∨ x.op = 13
      · have Hop := Lib.hid hop
        go_upto_region 12 with fail
        go_cut [100] from 78 to 101 (fun s100 wx => s100 = .bool false ∧ wx = wr)
        case first =>
          rcases hop with e | e
          · have e1 : (x.op != 1) = false := by rw [e]; rfl
            clear e
            go_wp2_with fail
            go_meet
            case rel => exact ⟨rfl, rfl⟩
          · have e1 : (x.op != 1) = true := by rw [e]; rfl
            have e2 : (x.op != 13) = false := by rw [e]; rfl
            clear e
            go_wp2_with fail
            go_meet
            case rel => exact ⟨rfl, rfl⟩
        case rest =>
          obtain ⟨rfl, rfl⟩ := hcut
          have hwb := HX.out.1
          have HLa := Lib.hid (look_any (some ⟨q, o, none⟩) cap c wc (by have := Hn.out.1; omega) (H.out.1.std.forms.below HX.out.1) (H.out.2.1.below HX.out.1))
          have HW := Lib.hid hwb; clear hwb r0
          go_wp2_with fail
          refine HLa.out.mono ?_
          rintro e w2 ⟨v, f, rfl, hmet, hown, hb2⟩
          obtain ⟨va, vc, rfl, hva⟩ := owns_slice hown
          have H2 := Lib.hid (And.intro hmet (And.intro (HW.out.trans (hb2.mono HW.out.size)) (And.intro (found_rows hown) hva))); clear hmet hown hb2 hva HLa
          obtain ⟨i0, hi0, hz0, hz1, hz2⟩ := info_parts Tryz.infoInstrG
          have HI := Lib.hid (And.intro hi0 (And.intro hz0 (And.intro hz1 hz2))); clear hi0 hz0 hz1 hz2
          go_upto_region 17 with fail
          go_cut [11] from 111 to 116 (fun s11 wx => ∃ a3 cap3, s11 = .slice a3 (c.length + d.length) cap3 ∧ RowsIn wx a3 5 In.cells (c ++ d) ∧ Below w2.heap.size w2 wx)
          case first =>
            have Hr0 : Hid (RowsIn (w2.alloc (.cells #[] 43)) (some ⟨q, o, none⟩) 5 In.cells c) := Lib.hid ((H.out.2.1.below H2.out.2.1).below ((Below.refl _ w2).alloc (Nat.le_refl _) _))
            have HR1 : Hid (∀ V, Below w2.heap.size w2 V → RowsIn V a1 5 In.cells d) := Lib.hid fun V hV => (H.out.2.2.below H2.out.2.1).below hV
            cases a1 with
            | none =>
              obtain ⟨e1, e2⟩ := Ha.out.2 rfl
              obtain rfl : d = [] := List.eq_nil_of_length_eq_zero e1
              subst e2
              clear e1
              go_wp2_with (first | (at_builtin; refine wpList_append_own_at _ rfl (.tmp 111) (.tmp 112) 31 rfl w2.heap.size 43 i0 _ 5 40 Tryz.underlying31 HI.out.1 HI.out.2.1 HI.out.2.2.1 HI.out.2.2.2 rfl (by decide) (.slice (some ⟨w2.heap.size, 0, none⟩) 0 0) 0 [] rfl (owns_zeroI w2 _) ⟨q, o, none⟩ c.length cap (flatI c) rfl (flatI_len c) (flatI_news Hr0.out _ rfl) (flatI_one c) (by unfold maxLen; have := Hn.out; omega) (by have := Hn.out; omega) (by simp) ?_; intro v3 w3 hown3 hgrow3 _ _; rw [List.nil_append, Nat.zero_add] at hown3; obtain ⟨a3, cap3, rfl, -⟩ := owns_slice hown3; have hb3 : Below w2.heap.size w2 w3 := ((Below.refl _ w2).alloc (Nat.le_refl _) _).grown hgrow3 (by simp) (fun g hg => by cases hg; exact Nat.le_refl _); have hr1 := HR1.out _ hb3; have HB := Lib.hid (And.intro hb3 (And.intro hr1 (And.intro hown3 (flatI_rows hown3)))); clear hb3 hr1 hown3 hgrow3) | (at_builtin; refine wpList_append_own_none rfl (.tmp 113) (.tmp 114) 31 rfl w2.heap.size 43 i0 5 Tryz.underlying31 HI.out.1 (.slice a3 c.length cap3) c.length (flatI c) rfl HB.out.2.2.1 rfl ?_))
              go_meet
              case rel => exact ⟨a3, cap3, by simp, by rw [List.append_nil]; exact HB.out.2.2.2, HB.out.1⟩
            | some ad =>
              go_wp2_with (first | (at_builtin; refine wpList_append_own_at _ rfl (.tmp 111) (.tmp 112) 31 rfl w2.heap.size 43 i0 _ 5 40 Tryz.underlying31 HI.out.1 HI.out.2.1 HI.out.2.2.1 HI.out.2.2.2 rfl (by decide) (.slice (some ⟨w2.heap.size, 0, none⟩) 0 0) 0 [] rfl (owns_zeroI w2 _) ⟨q, o, none⟩ c.length cap (flatI c) rfl (flatI_len c) (flatI_news Hr0.out _ rfl) (flatI_one c) (by unfold maxLen; have := Hn.out; omega) (by have := Hn.out; omega) (by simp) ?_; intro v3 w3 hown3 hgrow3 _ _; rw [List.nil_append, Nat.zero_add] at hown3; obtain ⟨a3, cap3, rfl, -⟩ := owns_slice hown3; have hb3 : Below w2.heap.size w2 w3 := ((Below.refl _ w2).alloc (Nat.le_refl _) _).grown hgrow3 (by simp) (fun g hg => by cases hg; exact Nat.le_refl _); have hr1 := HR1.out _ hb3; have HB := Lib.hid (And.intro hb3 (And.intro hr1 (And.intro hown3 (flatI_rows hown3)))); clear hb3 hr1 hown3 hgrow3) | (at_builtin; refine wpList_append_own_at _ rfl (.tmp 113) (.tmp 114) 31 rfl w2.heap.size 43 i0 _ 5 40 Tryz.underlying31 HI.out.1 HI.out.2.1 HI.out.2.2.1 HI.out.2.2.2 rfl (by decide) (.slice a3 c.length cap3) c.length (flatI c) rfl HB.out.2.2.1 ad d.length cap1 (flatI d) rfl (flatI_len d) (flatI_news HB.out.2.1 _ rfl) (flatI_one d) (by unfold maxLen; have := Hn.out; omega) (by have := Hn.out; omega) HB.out.1.size ?_; intro v4 w4 hown4 hgrow4 _ _; obtain ⟨a4, cap4, rfl, -⟩ := owns_slice hown4; rw [show flatI c ++ flatI d = flatI (c ++ d) by simp [flatI], show c.length + d.length = (c ++ d).length by simp] at hown4; have hb4 : Below w2.heap.size w2 w4 := HB.out.1.grown hgrow4 HB.out.1.size (fun g hg => (owns_lt HB.out.2.2.1 hg).1); have HB4 := Lib.hid (And.intro hb4 (flatI_rows hown4)); clear hb4 hown4 hgrow4))
              go_meet
              case rel => exact ⟨_, _, rfl, HB4.out.2, HB4.out.1⟩
          case rest =>
            obtain ⟨a3, cap3, rfl, hr3, hb3⟩ := hcut
            have hb3' := H2.out.2.1.trans (hb3.mono H2.out.2.1.size)
            have hlen : (c ++ d).length = c.length + d.length := List.length_append
            have hlk := look_any a3 cap3 (c ++ d) wc (by rw [hlen]; have := Hn.out; omega) (H.out.1.std.forms.below hb3') hr3
            rw [hlen] at hlk
            have HLb := Lib.hid hlk; clear hlk
            have H3 := Lib.hid (And.intro hb3' hb3); clear hb3' hb3 hr3 hlen HI
            go_wp2_with fail
            refine HLb.out.mono ?_
            rintro e w4 ⟨v4, g, rfl, hmet4, hown4, hb4⟩
            have hin : Inside c := inside_of (fun i hi => by
              obtain ⟨j, hj, e⟩ := List.getElem_of_mem hi
              exact HX.out.2 j i hj (by rw [List.getElem?_eq_getElem hj, e])) (fun i hi => by
              rw [show c.length - 1 = m by have := HM.out.1; omega, HM.out.2.1] at hi
              cases hi; exact Hop.out)
            have hc0 : 0 < c.length := by have := HM.out.1; omega
            obtain rfl : f = g := met_part hin hc0 H2.out.1 hmet4
            rw [lookB_part hin hc0 H2.out.1] at hown4
            have hmem : ∀ x ∈ lookB c f, x.2 < c.length := fun x hx => (mem_lookB.1 hx).2.1
            have hll := lookB_len c f
            have hr1 := H2.out.2.2.1
            have hbb := H3.out.2.trans (hb4.mono H3.out.2.size)
            have hv1 := H2.out.2.2.2
            clear H2 hmet4 HLb
            generalize lookB c f = L1 at *
            have hext : ((List.range d.length).map fun j => ((8 : Nat), c.length + j)).length = d.length := by simp
            have hexm : ∀ x ∈ ((List.range d.length).map fun j => ((8 : Nat), c.length + j)), x.1 = 8 ∧ c.length ≤ x.2 ∧ x.2 < c.length + d.length := fun x hx => by
              obtain ⟨j, hj, rfl⟩ := List.mem_map.1 hx
              have := List.mem_range.1 hj
              exact ⟨rfl, by simp, by simp; omega⟩
            generalize ((List.range d.length).map fun j => ((8 : Nat), c.length + j)) = ext at *
            have hl2 : (L1 ++ ext).length = L1.length + d.length := by rw [List.length_append, hext]
            obtain ⟨vb, vbc, rfl, hvb⟩ := owns_slice hown4
            have hr2 := found_rows hown4
            have hat1 : ∀ k, k < L1.length → (L1 ++ ext)[k]? = L1[k]? := fun k hk => List.getElem?_append_left hk
            have hat2 : ∀ k x, L1.length ≤ k → (L1 ++ ext)[k]? = some x → x ∈ ext := fun k x hk hx => by
              rw [List.getElem?_append_right hk] at hx; exact List.mem_of_getElem? hx
            generalize L1 ++ ext = L2 at *
            have hr1' := hr1.below hbb
            have hlast : Below w.heap.size w w4 := H3.out.1.trans (hb4.mono H3.out.1.size)
            have HY := Lib.hid (And.intro hr1' (And.intro hr2 (And.intro hlast (And.intro hmem (And.intro hexm (And.intro hat1 (And.intro hat2 (And.intro hl2 hll))))))))
            clear hr1' hr2 hlast hmem hexm hat1 hat2 hl2 hll hr1 hbb hv1 hext hown4 hin hc0 hb4 hvb H3
            go_wp2_with fail
            go_loopg [14, 129] (L2.length + 1) (fun gg s14 s129 wr => ∃ k : Nat, k ≤ L2.length ∧ L2.length + 1 - k ≤ gg ∧ s129 = .int .i64 k ∧ s14 = .int .i64 (min k L1.length : Nat) ∧ Below w4.heap.size w4 wr)
            case atStart => exact ⟨0, by omega, by omega, rfl, by simp, Below.refl _ _⟩
            case round =>
              obtain ⟨k, hk, hgg, rfl, rfl, hb⟩ := hrel
              by_cases hkn : k < L2.length
              · obtain ⟨x, hx⟩ : ∃ x, L2[k]? = some x := ⟨_, List.getElem?_eq_getElem hkn⟩
                obtain ⟨q2, o2, rfl, -, hrow⟩ := (HY.out.2.1.below hb).row (k := k) (x := fdN x) (by rw [List.getElem?_map, hx]; rfl)
                have hki : (0 : Int) ≤ k ∧ (k : Int) < L2.length := by omega
                have hkk : IntKind.i64.wrap ((k : Int) + 1) = (k : Int) + 1 := by have := HY.out.2.2.2.2.2.2.2; have := Hn.out; rw [IntKind.wrap_i64]; omega
                have r0 : wr.cell? ⟨q2, o2 + k * 2, none⟩ = some (.int .i64 (x.1 : Nat)) := hrow 0 _ rfl
                have r1 : wr.cell? ⟨q2, o2 + k * 2 + 1, none⟩ = some (.int .i64 (x.2 : Nat)) := hrow 1 _ rfl
                by_cases hk1 : k < L1.length
                · have hx1 : L1[k]? = some x := by rw [← HY.out.2.2.2.2.2.1 k hk1]; exact hx
                  have hx2 := HY.out.2.2.2.1 x (List.mem_of_getElem? hx1)
                  obtain ⟨q1, o1, rfl, -, hrow1⟩ := (HY.out.1.below hb).row (k := k) (x := fdN x) (by rw [List.getElem?_map, hx1]; rfl)
                  have s0 : wr.cell? ⟨q1, o1 + k * 2, none⟩ = some (.int .i64 (x.1 : Nat)) := hrow1 0 _ rfl
                  have s1 : wr.cell? ⟨q1, o1 + k * 2 + 1, none⟩ = some (.int .i64 (x.2 : Nat)) := hrow1 1 _ rfl
                  have hki1 : (0 : Int) ≤ k ∧ (k : Int) < L1.length := by omega
                  have d8 : decide (c.length ≤ x.2) = false := decide_eq_false (by omega)
                  have d8' : decide ((c.length : Int) ≤ (x.2 : Nat)) = false := decide_eq_false (by omega)
                  have d9 : decide (L1.length ≤ k) = false := decide_eq_false (by omega)
                  have d9' : decide ((L1.length : Int) ≤ (k : Nat)) = false := decide_eq_false (by omega)
                  rw [Nat.min_eq_left (by omega : k ≤ L1.length)]
                  obtain ⟨x1, x2⟩ := x
                  have HZ := Lib.hid (And.intro hb (And.intro hkn (And.intro hgg hk1))); clear hb hkn hgg hk1 hx hx1 hx2 hrow hrow1 hk
                  go_wp2_with fail
                  go_region
                  go_wp2_with fail
                  go_roundg (L2.length - k)
                  case rel => exact ⟨k + 1, by have := HZ.out.2; omega, by have := HZ.out.2; omega, by simp, by rw [Nat.min_eq_left (by have := HZ.out.2; omega)]; simp, below_drewN HZ.out.1 1⟩
                  case measure => have := HZ.out.2; omega
                · have hx2 := HY.out.2.2.2.2.1 x (HY.out.2.2.2.2.2.2.1 k x (by omega) hx)
                  obtain ⟨x1, x2⟩ := x
                  obtain ⟨rfl, hx2, hx3⟩ := hx2
                  simp only at hx2 hx3
                  have d8 : decide (c.length ≤ x2) = true := decide_eq_true hx2
                  have d8' : decide ((c.length : Int) ≤ (x2 : Nat)) = true := decide_eq_true (by omega)
                  rw [Nat.min_eq_right (by omega : L1.length ≤ k)]
                  have HZ := Lib.hid (And.intro hb (And.intro hkn (And.intro hgg hk1))); clear hb hkn hgg hk1 hx hx2 hx3 hrow hk
                  go_wp2_with fail
                  go_roundg (L2.length - k)
                  case rel => exact ⟨k + 1, by have := HZ.out.2; omega, by have := HZ.out.2; omega, by simp, by rw [Nat.min_eq_right (by have := HZ.out.2; omega)], HZ.out.1⟩
                  case measure => have := HZ.out.2; omega
              · obtain rfl : k = L2.length := by omega
                rw [Nat.min_eq_right (by have := HY.out.2.2.2.2.2.2.2.1; omega : L1.length ≤ L2.length)]
                have hfin : IntKind.i64.wrap ((L1.length : Int) + d.length) = (L2.length : Int) := by have := HY.out.2.2.2.2.2.2.2; have := Hn.out; rw [IntKind.wrap_i64]; omega
                have hlast := HY.out.2.2.1.trans (hb.mono HY.out.2.2.1.size)
                have HZ := Lib.hid hlast; clear hlast hb hkn hk hgg
                go_wp2_with fail
                go_ret
                exact ⟨rfl, HZ.out⟩
      · have e1 : (x.op != 1) = true := by simp; omega
        have e2 : (x.op != 13) = true := by simp; omega
        clear hop
        go_wp2_with fail
        go_ret
        exact ⟨rfl, HX.out.1⟩
end Go.Proofs.YteijhcibdglkeaaGreatDoor
