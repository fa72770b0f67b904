/- LintPlaces: the walk. Conditions: those stated in each theorem. -/
import Derived.Test.YteijhcibdglkeaaGreatDoorLntL
import Derived.Test.YteijhcibdglkeaaGreatDoorLntT
import Derived.Test.YteijhcibdglkeaaGreatDoorCame
import Derived.Test.YteijhcibdglkeaaGreatDoorDat
import Derived.Deep.CutRange
namespace Go.Proofs.YteijhcibdglkeaaGreatDoor
open Go.RowKit Go.BigFrame Go.Shelf

def instrKinds5 : List CK := [⟨0, .i64⟩, ⟨0, .i64⟩, ⟨0, .i64⟩, ⟨0, .i64⟩, ⟨0, .i64⟩]
theorem instr_mk5 (vs : List Value) (h : Fit instrKinds5 vs) : ∃ x : In, x.cells = vs ∧ x.Ok := by
  have h1 := h.1
  have h2 := h.2
  match vs, h1 with
  | [c0, c1, c2, c3, c4], _ =>
    obtain ⟨x0, rfl, w0⟩ := h2 0 _ _ rfl rfl
    obtain ⟨x1, rfl, w1⟩ := h2 1 _ _ rfl rfl
    obtain ⟨x2, rfl, w2⟩ := h2 2 _ _ rfl rfl
    obtain ⟨x3, rfl, w3⟩ := h2 3 _ _ rfl rfl
    obtain ⟨x4, rfl, w4⟩ := h2 4 _ _ rfl rfl
    have g : ∀ z, (Lit.int .i64 z).wf = true → I64 z := fun z h => by simp [Lit.wf, IntKind.min, IntKind.max, IntKind.signed, IntKind.bits] at h; unfold I64; omega
    exact ⟨⟨x0, x1, x2, x3, x4⟩, rfl, g _ w0, g _ w1, g _ w2, g _ w3, g _ w4⟩
def nvP (L : List (Nat × Nat)) (k : Nat) (p : Nat) : Bool := (L.take k).contains (8, p)
theorem nvP_zero (L : List (Nat × Nat)) (p : Nat) : nvP L 0 p = false := by simp [nvP]
theorem nvP_succ {L : List (Nat × Nat)} {k : Nat} {x : Nat × Nat} (h : L[k]? = some x) (p : Nat) : nvP L (k + 1) p = (nvP L k p || (x == (8, p))) := by
  unfold nvP
  rw [List.take_add_one, h]
  simp only [Option.toList_some, List.contains_append, List.contains_cons, List.contains_nil, Bool.or_false]
  congr 1
  rw [Bool.eq_iff_iff, beq_iff_eq, beq_iff_eq]; exact eq_comm
theorem nvP_put {L : List (Nat × Nat)} {k p2 : Nat} (h : L[k]? = some (8, p2)) (p : Nat) : (if p = p2 then true else nvP L k p) = nvP L (k + 1) p := by
  rw [nvP_succ h]
  by_cases e : p = p2
  · subst e; simp
  · rw [if_neg e]
    have : ((8, p2) == (8, p)) = false := by simp; exact fun x => e x.symm
    rw [this, Bool.or_false]
theorem nvP_skip {L : List (Nat × Nat)} {k : Nat} {x : Nat × Nat} (h : L[k]? = some x) (h8 : x.1 ≠ 8) (p : Nat) : nvP L k p = nvP L (k + 1) p := by
  rw [nvP_succ h]
  have : (x == (8, p)) = false := by
    rw [beq_eq_false_iff_ne]; intro e; exact h8 (by rw [e])
  rw [this, Bool.or_false]
theorem nvP_all (L : List (Nat × Nat)) (p : Nat) : nvP L L.length p = L.contains (8, p) := by unfold nvP; rw [List.take_length]
theorem sorted_at {L : List (Nat × Nat)} (h : L.Pairwise LexLt) {k : Nat} {x y : Nat × Nat} (hx : L[k]? = some x) (hy : L[k + 1]? = some y) : LexLt x y := by
  have h1 := (List.getElem?_eq_some_iff.1 hx)
  have h2 := (List.getElem?_eq_some_iff.1 hy)
  have := List.pairwise_iff_getElem.1 h k (k + 1) h1.1 h2.1 (by omega)
  rw [h1.2, h2.2] at this; exact this

set_option maxRecDepth 100000 in
set_option maxHeartbeats 8000000 in
theorem lplaces_any (a : Option Addr) (cap : Nat) (c : List In) (hok : ∀ i ∈ c, i.Ok) (w : World) (h : StdN w) (hr : RowsIn w a 5 In.cells c) : Calls Tryz.prog 7 #[.slice a c.length cap] w fun e w' => e = .returned (.bool true) ∧ Below w.heap.size w w' := by
  have HA := Lib.hid (alive_lint h)
  have H := Lib.hid (And.intro h hr); clear h hr hok
  have hmm := @run_makeMap Tryz.prog
  go_enter Tryz.func7, Tryz.ntmps7
  go_wp2_with fail
  refine HA.out.mono ?_
  rintro e w1 ⟨rfl, hb1⟩
  have H1 := Lib.hid hb1; clear hb1 HA
  by_cases hbig : 300 < c.length
  · have d1 : decide (300 < (c.length : Int)) = true := decide_eq_true (by omega)
    clear hbig
    go_wp2_with fail
    go_ret
    exact ⟨rfl, H1.out⟩
  have d1 : decide (300 < (c.length : Int)) = false := decide_eq_false (by omega)
  have HLa := Lib.hid (look_any a cap c w1 (by omega) (H.out.1.std.forms.below H1.out) (H.out.2.below H1.out))
  have Hn := Lib.hid (Nat.le_of_not_lt hbig); clear hbig
  go_wp2_with fail
  refine HLa.out.mono ?_
  rintro e w2 ⟨v, f, rfl, hmet, hown, hb2⟩
  obtain ⟨va, vc, rfl, hva⟩ := owns_slice hown
  have hfit : ∀ x ∈ lookB c f, ∃ i, c[x.2]? = some i ∧ x.2 < c.length ∧ (x.1 = 1 ∧ legalP i = false ∨ x.1 = 2 ∧ i.op = 18 ∨ x.1 = 3 ∧ i.op = 17 ∨ x.1 = 4 ∧ i.op = 1 ∨ x.1 = 5 ∧ legalP i = true ∧ i.op ≠ 1 ∨
    x.1 = 6 ∧ legalP i = true ∧ 13 ≤ i.op ∧ i.op ≤ 16 ∧ (i.imm < 0 ∨ 1024 < i.imm) ∨ x.1 = 7 ∧ legalP i = true ∨ x.1 = 8 ∧ 0 < x.2) := fun x hx => by
    obtain ⟨i, h1, h2⟩ := fits hmet (k := x.1) (p := x.2) hx
    exact ⟨i, h1, (List.getElem?_eq_some_iff.1 h1).1, h2⟩
  have halone : ∀ x ∈ lookB c f, x.1 ≠ 8 → (lookB c f).contains (8, x.2) = false := fun x hx h8 => by
    cases e : (lookB c f).contains (8, x.2) with
    | false => rfl
    | true => exact absurd (never_alone hmet (by simpa using e) (k := x.1) hx) h8
  have hsort := lookB_sorted c f
  have hlen := lookB_len c f
  have hrw := found_rows hown
  have hb2' := H1.out.trans (hb2.mono H1.out.size)
  clear hown hmet HLa
  generalize lookB c f = L at *
  have HW := Lib.hid (And.intro hb2' (And.intro hrw (And.intro hfit (And.intro halone (And.intro hsort hlen))))); clear hb2 hb2' hrw hfit halone hsort hlen hva
  go_wp2_with fail
  obtain ⟨gm, hgm⟩ : ∃ gm, w2.heap.size = gm := ⟨_, rfl⟩
  have hnew : NvAt (w2.alloc (.map #[] 0)) gm 0 (nvP L 0) := by rw [← hgm]; exact (NvAt.made w2).congr (fun p => (nvP_zero L p).symm)
  have hbn : Below gm w2 (w2.alloc (.map #[] 0)) := (Below.refl _ w2).alloc (by omega) _
  have HN := Lib.hid (And.intro hnew hbn); clear hnew hbn hmm
  simp only [hgm]
  have Hgm := Lib.hid hgm; clear hgm
  go_loopg [33] (L.length + 1) (fun gg s33 wr => ∃ k : Nat, k ≤ L.length ∧ L.length + 1 - k ≤ gg ∧ s33 = .int .i64 k ∧ NvAt wr gm k (nvP L k) ∧ Below gm w2 wr)
  case atStart => exact ⟨0, by omega, by omega, rfl, HN.out.1, HN.out.2⟩
  case round =>
    obtain ⟨k, hk, hgg, rfl, hnv, hb⟩ := hrel
    have hbx : Below w2.heap.size w2 wr := by rw [Hgm.out]; exact hb
    by_cases hkn : k < L.length
    · obtain ⟨x, hx⟩ : ∃ x, L[k]? = some x := ⟨_, List.getElem?_eq_getElem hkn⟩
      obtain ⟨q, o, rfl, -, hrow⟩ := (HW.out.2.1.below hbx).row (k := k) (x := fdN x) (by rw [List.getElem?_map, hx]; rfl)
      have hki : (0 : Int) ≤ k ∧ (k : Int) < L.length := by omega
      have hkk : IntKind.i64.wrap ((k : Int) + 1) = (k : Int) + 1 := by have := HW.out.2.2.2.2.2; have := Hn.out; rw [IntKind.wrap_i64]; omega
      have r0 : wr.cell? ⟨q, o + k * 2, none⟩ = some (.int .i64 (x.1 : Nat)) := hrow 0 _ rfl
      have r1 : wr.cell? ⟨q, o + k * 2 + 1, none⟩ = some (.int .i64 (x.2 : Nat)) := hrow 1 _ rfl
      obtain ⟨i, -, hx2, -⟩ := HW.out.2.2.1 x (List.mem_of_getElem? hx)
      obtain ⟨x1, x2⟩ := x
      simp only at hx2
      by_cases h8 : x1 = 8
      · subst h8
        obtain ⟨w3, hrun, h3, hg3, hs3⟩ := nv_store hnv (p := x2) (by have := Hn.out; omega) (by have := HW.out.2.2.2.2.2; have := Hn.out; unfold maxLen; omega)
        have hb3 : Below gm w2 w3 := hb.grown hg3 (by rw [← Hgm.out]; exact hb.size) (fun r e => by cases e; exact Nat.le_refl _)
        have HZ := Lib.hid (And.intro (h3.congr (nvP_put hx)) (And.intro hb3 (And.intro hkn hgg))); clear hnv hb hbx hkn hgg hk hx hrow hx2 h3 hg3 hs3 hb3
        go_wp2_with fail
        go_roundg (L.length - k)
        case rel => exact ⟨k + 1, by have := HZ.out.2.2; omega, by have := HZ.out.2.2; omega, by simp, HZ.out.1, HZ.out.2.1⟩
        case measure => have := HZ.out.2.2; omega
      · have e8 : ((x1 : Int) == 8) = false := by rw [beq_eq_false_iff_ne]; omega
        have e8' : (x1 == 8) = false := by rw [beq_eq_false_iff_ne]; omega
        have HZ := Lib.hid (And.intro ((hnv.congr (nvP_skip hx h8)).more (Nat.le_succ k)) (And.intro hb (And.intro hkn hgg))); clear hnv hb hbx hkn hgg hk hx hrow hx2
        have H8 := Lib.hid h8; clear h8
        go_wp2_with fail
        go_roundg (L.length - k)
        case rel => exact ⟨k + 1, by have := HZ.out.2.2; omega, by have := HZ.out.2.2; omega, by simp, HZ.out.1, HZ.out.2.1⟩
        case measure => have := HZ.out.2.2; omega
    · obtain rfl : k = L.length := by omega
      obtain ⟨wk, hwk⟩ : ∃ x, x = wr := ⟨_, rfl⟩
      subst hwk
      have HV := Lib.hid (And.intro (hnv.congr (nvP_all L)) hb); clear hnv hb hbx hkn hk hgg HN
      go_wp2_with fail
      go_loopg [51] (L.length + 1) (fun gg s51 wz => ∃ k : Nat, k ≤ L.length ∧ L.length + 1 - k ≤ gg ∧ s51 = .int .i64 k ∧ Below wk.heap.size wk wz)
      case atStart => exact ⟨0, by omega, by omega, rfl, Below.refl _ _⟩
      case round =>
        obtain ⟨k, hk, hgg, rfl, hb⟩ := hrel
        by_cases hkn : k < L.length
        · obtain ⟨x, hx⟩ : ∃ x, L[k]? = some x := ⟨_, List.getElem?_eq_getElem hkn⟩
          have hbx := hb
          obtain ⟨q, o, rfl, -, hrow⟩ := HW.out.2.1.row (k := k) (x := fdN x) (by rw [List.getElem?_map, hx]; rfl)
          have hki : (0 : Int) ≤ k ∧ (k : Int) < L.length := by omega
          obtain ⟨x1, x2⟩ := x
          obtain ⟨i, hci, hx2, hf⟩ := HW.out.2.2.1 (x1, x2) (List.mem_of_getElem? hx)
          have hal := HW.out.2.2.2.1 (x1, x2) (List.mem_of_getElem? hx)
          simp only at hci hx2 hf hal
          have hwz : Below w2.heap.size w2 wr := by
            have h1 : Below w2.heap.size w2 wk := by rw [Hgm.out]; exact HV.out.2
            exact h1.trans (hb.mono h1.size)
          have hrows := HW.out.2.1.below hwz
          obtain ⟨q', o', e', -, hrow⟩ := hrows.row (k := k) (x := fdN (x1, x2)) (by rw [List.getElem?_map, hx]; rfl)
          cases e'
          have r0 : wr.cell? ⟨q, o + k * 2, none⟩ = some (.int .i64 (x1 : Nat)) := hrow 0 _ rfl
          have r1 : wr.cell? ⟨q, o + k * 2 + 1, none⟩ = some (.int .i64 (x2 : Nat)) := hrow 1 _ rfl
          have hkk : IntKind.i64.wrap ((k : Int) + 1) = (k : Int) + 1 := by have := HW.out.2.2.2.2.2; have := Hn.out; rw [IntKind.wrap_i64]; omega
          go_upto_region 18 with fail
          have hA : Below wr.heap.size wr (wr.alloc (.cells #[.int .i64 (x1 : Nat), .int .i64 (x2 : Nat)] 25)) := (Below.refl _ wr).alloc (Nat.le_refl _) _
          have hqA : Holds (wr.alloc (.cells #[.int .i64 (x1 : Nat), .int .i64 (x2 : Nat)] 25)) wr.heap.size 25 [.int .i64 (x1 : Nat), .int .i64 (x2 : Nat)] := Holds.new wr 25 [.int .i64 (x1 : Nat), .int .i64 (x2 : Nat)]
          generalize wr.alloc (.cells #[.int .i64 (x1 : Nat), .int .i64 (x2 : Nat)] 25) = wA at *
          have hrA := hrows.below hA
          have hsame : ∀ y, L[k - 1]? = some y → 0 < k → LexLt y (x1, x2) := fun y hy h0 => sorted_at HW.out.2.2.2.2.1 hy (by rw [Nat.sub_add_cancel h0]; exact hx)
          have HA := Lib.hid (And.intro hA (And.intro hqA (And.intro hrA (And.intro hsame (And.intro hx2 (And.intro hf hal)))))); clear hA hqA hrA hsame hf hal hrows hrow r0 r1 hwz
          have HK := Lib.hid (And.intro hb (And.intro hkn (And.intro hgg (And.intro hx hci)))); clear hb hbx hkn hgg hx hk hci hx2
          have c0 := HA.out.2.1.cell (i := 0) rfl
          have c1 := HA.out.2.1.cell (i := 1) rfl
          have e1 : decide ((x2 : Int) < 0) = false := decide_eq_false (by omega)
          have e2 : decide (c.length ≤ x2) = false := decide_eq_false (by have := HA.out.2.2.2.2.1; omega)
          have e2' : decide ((c.length : Int) ≤ (x2 : Nat)) = false := decide_eq_false (by have := HA.out.2.2.2.2.1; omega)
          go_cut [104] from 58 to 105 (fun s104 wx => s104 = .bool false ∧ Below wA.heap.size wA wx)
          case first =>
            by_cases h0 : k = 0
            · have g0 : decide (0 < k) = false := decide_eq_false (by omega)
              have g0' : decide (0 < (k : Int)) = false := decide_eq_false (by omega)
              have H0 := Lib.hid h0; clear h0
              go_region
              go_wp2_with fail
              go_meet
              case rel => exact ⟨rfl, below_drewN (Below.refl _ wA) 1⟩
            · have g0 : decide (0 < k) = true := decide_eq_true (by omega)
              have g0' : decide (0 < (k : Int)) = true := decide_eq_true (by omega)
              obtain ⟨k1, hk1⟩ : ∃ k1, k = k1 + 1 := ⟨k - 1, by omega⟩
              obtain ⟨y, hy⟩ : ∃ y, L[k1]? = some y := ⟨_, List.getElem?_eq_getElem (by have := HK.out.2.1; omega)⟩
              have hlx := HA.out.2.2.2.1 y (by rw [show k - 1 = k1 by omega]; exact hy) (by omega)
              obtain ⟨q', o', e', -, hrow⟩ := HA.out.2.2.1.row (k := k1) (x := fdN y) (by rw [List.getElem?_map, hy]; rfl)
              cases e'
              obtain ⟨y1, y2⟩ := y
              have y0 : wA.cell? ⟨q, o + k1 * 2, none⟩ = some (.int .i64 (y1 : Nat)) := hrow 0 _ rfl
              have y0' : wA.cell? ⟨q, o + k1 * 2 + 1, none⟩ = some (.int .i64 (y2 : Nat)) := hrow 1 _ rfl
              have hsub : IntKind.i64.wrap ((k : Int) - 1) = (k1 : Nat) := by have := HK.out.2.1; have := HW.out.2.2.2.2.2; have := Hn.out; rw [IntKind.wrap_i64]; omega
              have hki1 : (0 : Int) ≤ (k1 : Nat) ∧ ((k1 : Nat) : Int) < L.length := by have := HK.out.2.1; omega
              have H0 := Lib.hid (And.intro h0 (And.intro hk1 hy)); clear h0 hk1 hy hrow
              rcases hlx with hlx | ⟨rfl, hlx⟩
              · simp only at hlx
                have f1 : decide (x1 < y1) = false := decide_eq_false (by omega)
                have f1' : decide ((x1 : Int) < (y1 : Nat)) = false := decide_eq_false (by omega)
                have f2 : (x1 == y1) = false := by rw [beq_eq_false_iff_ne]; omega
                have f2' : ((x1 : Int) == (y1 : Nat)) = false := by rw [beq_eq_false_iff_ne]; omega
                clear hlx
                go_region
                go_wp2_with fail
                go_meet
                case rel => exact ⟨rfl, below_drewN (Below.refl _ wA) 1⟩
              · simp only at hlx
                have f1 : decide (x2 ≤ y2) = false := decide_eq_false (by omega)
                have f1' : decide ((x2 : Int) ≤ (y2 : Nat)) = false := decide_eq_false (by omega)
                clear hlx
                go_region
                go_wp2_with fail
                go_meet
                case rel => exact ⟨rfl, below_drewN (Below.refl _ wA) 1⟩
          case rest =>
            obtain ⟨rfl, hbA⟩ := hcut
            have hbW : Below wk.heap.size wk wc := (HK.out.1.trans (HA.out.1.mono HK.out.1.size)).trans (hbA.mono (Nat.le_trans HK.out.1.size HA.out.1.size))
            have hwk2 : Below w2.heap.size w2 wk := by rw [Hgm.out]; exact HV.out.2
            have hbV : Below w.heap.size w wc := (HW.out.1.trans (hwk2.mono HW.out.1.size)).trans (hbW.mono (Nat.le_trans HW.out.1.size hwk2.size))
            have hf := HA.out.2.2.2.2.2.1
            have hxn := HA.out.2.2.2.2.1
            obtain ⟨op, xa, xb, xc, im⟩ := i
            obtain ⟨qc, oc, rfl, -, hrow⟩ := (H.out.2.below hbV).row HK.out.2.2.2.2
            have t0 : wc.cell? ⟨qc, oc + x2 * 5, none⟩ = some (.int .i64 op) := hrow 0 _ rfl
            have t1 : wc.cell? ⟨qc, oc + x2 * 5 + 1, none⟩ = some (.int .i64 xa) := hrow 1 _ rfl
            have t2 : wc.cell? ⟨qc, oc + x2 * 5 + 2, none⟩ = some (.int .i64 xb) := hrow 2 _ rfl
            have t3 : wc.cell? ⟨qc, oc + x2 * 5 + 3, none⟩ = some (.int .i64 xc) := hrow 3 _ rfl
            have t4 : wc.cell? ⟨qc, oc + x2 * 5 + 4, none⟩ = some (.int .i64 im) := hrow 4 _ rfl
            have hki2 : (0 : Int) ≤ (x2 : Nat) ∧ ((x2 : Nat) : Int) < c.length := by omega
            have hqf := HA.out.2.1.below hbA
            have u1 := hqf.cell (i := 1) rfl
            have HQ := Lib.hid (And.intro hqf (And.intro hbW (And.intro hbV (And.intro hf hxn)))); clear hqf hbW hbV hwk2 hf hxn hrow hbA c0 c1 e1 e2 e2'
            go_upto_region 21 with fail
            have hB : Below wc.heap.size wc (wc.alloc (.cells #[.int .i64 op, .int .i64 xa, .int .i64 xb, .int .i64 xc, .int .i64 im] 43)) := (Below.refl _ wc).alloc (Nat.le_refl _) _
            have hqB : Holds (wc.alloc (.cells #[.int .i64 op, .int .i64 xa, .int .i64 xb, .int .i64 xc, .int .i64 im] 43)) wc.heap.size 43 [.int .i64 op, .int .i64 xa, .int .i64 xb, .int .i64 xc, .int .i64 im] := Holds.new wc 43 [.int .i64 op, .int .i64 xa, .int .i64 xb, .int .i64 xc, .int .i64 im]
            generalize wc.alloc (.cells #[.int .i64 op, .int .i64 xa, .int .i64 xb, .int .i64 xc, .int .i64 im] 43) = wB at *
            have hlg : Calls Tryz.prog 14 #[.agg #[.int .i64 op, .int .i64 xa, .int .i64 xb, .int .i64 xc, .int .i64 im]] wB fun e w' => e = .returned (.bool (legalP ⟨op, xa, xb, xc, im⟩)) ∧ Below wB.heap.size wB w' := legal_any ⟨op, xa, xb, xc, im⟩ wB (H.out.1.std.forms.below (HQ.out.2.2.1.trans (hB.mono HQ.out.2.2.1.size)))
            have HLg := Lib.hid hlg; clear hlg t0 t1 t2 t3 t4 u1
            have b0 := hqB.cell (i := 0) rfl
            have b1 := hqB.cell (i := 1) rfl
            have b2 := hqB.cell (i := 2) rfl
            have b3 := hqB.cell (i := 3) rfl
            have b4 := hqB.cell (i := 4) rfl
            have HBB := Lib.hid (And.intro hB hqB); clear hB hqB
            go_wp2_with fail
            refine HLg.out.mono ?_
            rintro e w5 ⟨rfl, hb5⟩
            have hq5 := HBB.out.2.below hb5
            have hf5 := (HQ.out.1.below HBB.out.1).below hb5
            have hb5' := HQ.out.2.1.trans ((HBB.out.1.trans (hb5.mono HBB.out.1.size)).mono HQ.out.2.1.size)
            have hnv5 := HV.out.1.below hb5'
            have hlk := hnv5.run (p := x2) (by have := Hn.out; have := HQ.out.2.2.2.2; omega)
            have HL5 := Lib.hid (And.intro hb5' hlk); clear hb5 hb5' hnv5 hlk b1 b2 b3 HLg
            have b0 := hq5.cell (i := 0) rfl
            have b4 := hq5.cell (i := 4) rfl
            have f0 := hf5.cell (i := 0) rfl
            have f1 := hf5.cell (i := 1) rfl
            clear hq5 hf5
            have hff := HQ.out.2.2.2.1
            generalize hlp : legalP ⟨op, xa, xb, xc, im⟩ = lg at *
            have Hlp := Lib.hid hlp; clear hlp
            have Hff := Lib.hid hff; clear hff
            go_upto_region 22 with fail
            go_cut [12] from 112 to 123 (fun s12 wx => s12 = .bool (lg && (decide (13 ≤ op) && decide (op ≤ 16))) ∧ wx = w5)
            case first =>
              cases lg with
              | false =>
                go_wp2_with fail
                go_meet
                case rel => exact ⟨rfl, rfl⟩
              | true =>
                by_cases h13 : 13 ≤ op
                · have d13 : decide (13 ≤ op) = true := decide_eq_true h13
                  clear h13
                  by_cases h16 : op ≤ 16
                  · have d16 : decide (op ≤ 16) = true := decide_eq_true h16
                    clear h16
                    go_wp2_with fail
                    go_meet
                    case rel => exact ⟨by rw [d13, d16]; rfl, rfl⟩
                  · have d16 : decide (op ≤ 16) = false := decide_eq_false h16
                    clear h16
                    go_wp2_with fail
                    go_meet
                    case rel => exact ⟨by rw [d13, d16]; rfl, rfl⟩
                · have d13 : decide (13 ≤ op) = false := decide_eq_false h13
                  clear h13
                  go_wp2_with fail
                  go_meet
                  case rel => exact ⟨by rw [d13]; rfl, rfl⟩
            case rest =>
              obtain ⟨rfl, rfl⟩ := hcut
              have hal5 := HA.out.2.2.2.2.2.2
              have hlk5 := HL5.out.2
              have hff := Hff.out
              generalize hgs : (lg && (decide (13 ≤ op) && decide (op ≤ 16))) = gs at *
              have Hgs := Lib.hid hgs; clear hgs
              rcases hff with ⟨rfl, rfl⟩ | ⟨rfl, rfl⟩ | ⟨rfl, rfl⟩ | ⟨rfl, rfl⟩ | ⟨rfl, rfl, h5⟩ | ⟨rfl, rfl, h6, h7, h8⟩ | ⟨rfl, rfl⟩ | ⟨rfl, h8⟩
              · rw [hal5 (by decide), if_neg (by decide)] at hlk5
                clear hal5
                go_wp2_with fail
                go_roundg (L.length - k)
                case rel => exact ⟨k + 1, by have := HK.out.2.1; omega, by have := HK.out.2.1; omega, by simp, HL5.out.1⟩
                case measure => have := HK.out.2; omega
              · rw [hal5 (by decide), if_neg (by decide)] at hlk5
                clear hal5
                go_wp2_with fail
                go_roundg (L.length - k)
                case rel => exact ⟨k + 1, by have := HK.out.2.1; omega, by have := HK.out.2.1; omega, by simp, HL5.out.1⟩
                case measure => have := HK.out.2; omega
              · rw [hal5 (by decide), if_neg (by decide)] at hlk5
                clear hal5
                go_wp2_with fail
                go_roundg (L.length - k)
                case rel => exact ⟨k + 1, by have := HK.out.2.1; omega, by have := HK.out.2.1; omega, by simp, HL5.out.1⟩
                case measure => have := HK.out.2; omega
              · rw [hal5 (by decide), if_neg (by decide)] at hlk5
                clear hal5
                go_wp2_with fail
                go_roundg (L.length - k)
                case rel => exact ⟨k + 1, by have := HK.out.2.1; omega, by have := HK.out.2.1; omega, by simp, HL5.out.1⟩
                case measure => have := HK.out.2; omega
              · have e5 : (op != 1) = true := by simp; omega
                clear h5
                rw [hal5 (by decide), if_neg (by decide)] at hlk5
                clear hal5
                go_wp2_with fail
                go_roundg (L.length - k)
                case rel => exact ⟨k + 1, by have := HK.out.2.1; omega, by have := HK.out.2.1; omega, by simp, HL5.out.1⟩
                case measure => have := HK.out.2; omega
              · obtain rfl : gs = true := by rw [← Hgs.out]; simp; omega
                rcases h8 with h8 | h8
                · have e6 : decide (im < 0) = true := decide_eq_true h8
                  clear h6 h7 h8
                  rw [hal5 (by decide), if_neg (by decide)] at hlk5
                  clear hal5
                  go_wp2_with fail
                  go_roundg (L.length - k)
                  case rel => exact ⟨k + 1, by have := HK.out.2.1; omega, by have := HK.out.2.1; omega, by simp, HL5.out.1⟩
                  case measure => have := HK.out.2; omega
                · have e6 : decide (1024 < im) = true := decide_eq_true h8
                  have e7 : decide (im < 0) = false := decide_eq_false (by omega)
                  clear h6 h7 h8
                  rw [hal5 (by decide), if_neg (by decide)] at hlk5
                  clear hal5
                  go_wp2_with fail
                  go_roundg (L.length - k)
                  case rel => exact ⟨k + 1, by have := HK.out.2.1; omega, by have := HK.out.2.1; omega, by simp, HL5.out.1⟩
                  case measure => have := HK.out.2; omega
              · rw [hal5 (by decide), if_neg (by decide)] at hlk5
                clear hal5
                go_wp2_with fail
                go_roundg (L.length - k)
                case rel => exact ⟨k + 1, by have := HK.out.2.1; omega, by have := HK.out.2.1; omega, by simp, HL5.out.1⟩
                case measure => have := HK.out.2; omega
              · have e8 : decide (0 < x2) = true := decide_eq_true h8
                have e8' : decide (0 < (x2 : Int)) = true := decide_eq_true (by omega)
                clear h8
                clear hlk5
                clear hal5
                go_wp2_with fail
                go_roundg (L.length - k)
                case rel => exact ⟨k + 1, by have := HK.out.2.1; omega, by have := HK.out.2.1; omega, by simp, HL5.out.1⟩
                case measure => have := HK.out.2; omega
        · obtain rfl : k = L.length := by omega
          have hwk : Below w2.heap.size w2 wk := by rw [Hgm.out]; exact HV.out.2
          have hz := hwk.trans (hb.mono hwk.size)
          have hfin : Below w.heap.size w wr := HW.out.1.trans (hz.mono HW.out.1.size)
          have HF := Lib.hid hfin; clear hfin hz hb hkn hk hgg
          go_wp2_with fail
          go_ret
          exact ⟨rfl, HF.out⟩
end Go.Proofs.YteijhcibdglkeaaGreatDoor
