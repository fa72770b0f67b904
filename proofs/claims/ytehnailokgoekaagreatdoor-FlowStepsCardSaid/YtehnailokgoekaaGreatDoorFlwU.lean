/- FlowSteps: the walk. Conditions: those stated in each theorem. -/
import Derived.Test.YtehnailokgoekaaGreatDoorFlwT
import Derived.Deep.QuietTactic
namespace Go.Proofs.YtehnailokgoekaaGreatDoor
open Go.RowKit Go.BigFrame Go.Shelf

/-- Is one of the first k numbers that of a part that begins at t? -/
def fndP (ps : List Pt) (nx : List Nat) (t : Int) (k : Nat) : Bool := (nx.take k).any fun m => match ps[m]? with | none => false | some y => decide ((y.lo : Int) = t)
theorem fndP_next {ps : List Pt} {nx : List Nat} {t : Int} {k m : Nat} {y : Pt} (h : nx[k]? = some m) (hy : ps[m]? = some y) : fndP ps nx t (k + 1) = (fndP ps nx t k || decide ((y.lo : Int) = t)) := by
  unfold fndP
  rw [List.take_add_one, h, List.any_append]
  simp [hy]
theorem fndP_all {ps : List Pt} {nx : List Nat} {t m : Nat} {y : Pt} (h : m ∈ nx) (hy : ps[m]? = some y) (ht : y.lo = t) : fndP ps nx t nx.length = true := by
  unfold fndP
  rw [List.take_of_length_le (Nat.le_refl _), List.any_eq_true]
  exact ⟨m, h, by simp [hy, ht]⟩

set_option maxRecDepth 100000 in
set_option maxHeartbeats 2000000 in
theorem flowsteps_any (a : Option Addr) (cap : Nat) (c : List In) (hi : ∀ i ∈ c, I64 i.imm) (x : L8) (hx : x.Ok) (pl : Int) (w : World) (h : Std w) (hr : RowsIn w a 5 In.cells c) :
    Calls Tryz.prog 4 #[.slice a c.length cap, x.val, .int .i64 pl] w fun e w' => e = .returned (.bool true) ∧ Below w.heap.size w w' := by
  have hb0 : Below w.heap.size w (w.alloc (.cells x.cells.toArray 43)) := (Below.refl _ w).alloc (Nat.le_refl _) _
  have hq0 : Holds (w.alloc (.cells x.cells.toArray 43)) w.heap.size 43 x.cells := Holds.new w _ _
  have HA := Lib.hid (alive_flow (h.below hb0))
  have HB := Lib.hid (And.intro hb0 hq0); clear hb0 hq0
  have H := Lib.hid (And.intro h hr); clear h hr
  have Hi := Lib.hid hi; clear hi
  have Hx := Lib.hid hx; clear hx
  obtain ⟨x0, x1, x2, x3, x4, x5, x6, x7⟩ := x
  go_enter Tryz.func4, Tryz.ntmps4
  unfold L8.val
  simp only [L8.cells] at HA HB
  go_wp2_with fail
  refine HA.out.mono ?_
  rintro e w1 ⟨rfl, hb1⟩
  have hb1' := HB.out.1.trans (hb1.mono HB.out.1.size)
  have hq1 := HB.out.2.below hb1
  have H1 := Lib.hid (And.intro hb1' hq1); clear hb1 hb1' hq1 HA HB
  by_cases hbig : 200 < c.length
  · have d1 : decide (200 < (c.length : Int)) = true := decide_eq_true (by omega)
    go_wp2_with fail
    go_ret
    exact ⟨rfl, H1.out.1⟩
  have d1 : decide (200 < (c.length : Int)) = false := decide_eq_false (by omega)
  by_cases hneg : pl < 0
  · have d2 : decide (pl < 0) = true := decide_eq_true hneg
    clear hneg hbig
    go_wp2_with fail
    go_ret
    exact ⟨rfl, H1.out.1⟩
  have d2 : decide (pl < 0) = false := decide_eq_false hneg
  obtain ⟨p, rfl⟩ : ∃ p : Nat, pl = p := ⟨pl.toNat, by omega⟩
  by_cases hout : c.length ≤ p
  · have d3 : decide (c.length ≤ p) = true := decide_eq_true hout
    clear hneg hbig hout
    go_wp2_with fail
    go_ret
    exact ⟨rfl, H1.out.1⟩
  have d3 : decide (c.length ≤ p) = false := decide_eq_false hout
  have hpl : p < c.length := by omega
  have hn : c.length ≤ 1024 := by omega
  have hrow1 := H.out.2.below H1.out.1
  have hF1 := H.out.1.forms.below H1.out.1
  have HP := Lib.hid (parts_any a cap c hn Hi.out w1 hF1 hrow1)
  have Hp := Lib.hid (And.intro hpl hn); clear hneg hbig hout hpl hn hrow1 hF1
  go_wp2_with fail
  refine HP.out.mono ?_
  rintro e w2 ⟨v, rfl, hparts, hb2⟩
  have hb2' := H1.out.1.trans (hb2.mono H1.out.1.size)
  have HAt := Lib.hid (at_any a cap c Hp.out.2 Hi.out w2 (H.out.1.forms.below hb2') (H.out.2.below hb2') p Hp.out.1)
  have hq2 := H1.out.2.below hb2
  have H2 := Lib.hid (And.intro hb2' (And.intro hq2 hparts)); clear hb2 hb2' hq2 hparts HP
  go_wp2_with fail
  refine HAt.out.mono ?_
  rintro e w3 ⟨rfl, hb3⟩
  have hb3' := H2.out.1.trans (hb3.mono H2.out.1.size)
  have hq3 := H2.out.2.1.below hb3
  have hp3 := H2.out.2.2.below hb3
  obtain ⟨ad, vc, rfl, hs⟩ := hp3.form
  obtain ⟨xp, hxp, hlo, hhi⟩ := num_part Hp.out.1
  generalize numP c p = N at *
  have hkl := (List.getElem?_eq_some_iff.1 hxp).1
  obtain ⟨g, rfl⟩ := hs (by omega)
  obtain ⟨c0, c1, nb, nm, c2, hnx⟩ := hp3.part hxp
  have hhl := part_hi hxp
  obtain ⟨i, hci⟩ : ∃ i, c[p]? = some i := ⟨_, List.getElem?_eq_getElem Hp.out.1⟩
  obtain ⟨q, o, rfl, hq, hri⟩ := (H.out.2.below hb3').row hci
  have hdo := fun (V : World) (hV : Below w3.heap.size w3 V) => do_any i ⟨x0, x1, x2, x3, x4, x5, x6, x7⟩ p V (H.out.1.forms.below (hb3'.trans (hV.mono hb3'.size))) Hx.out
  have hdp := do_plain ⟨x0, x1, x2, x3, x4, x5, x6, x7⟩ (i := i) (p := p) (by have := Hp.out; omega)
  have hdg := do_goes ⟨x0, x1, x2, x3, x4, x5, x6, x7⟩ hci
  have hne := fun h2 => not_ends hxp hlo h2 hci hhl.2
  have hnb := fun (t : Nat) (h1 : p + 1 = xp.hi) (h2 : t ∈ gosP c p) => next_begin hxp h1 h2
  have g1 : decide (N < 0) = false := by simp
  have g2 : decide ((partsP c).length ≤ N) = false := decide_eq_false (by omega)
  have g3 : decide (p < xp.lo) = false := decide_eq_false (by omega)
  have g4 : decide (xp.hi ≤ p) = false := decide_eq_false (by omega)
  have gN : (0 : Int) ≤ (N : Int) ∧ (N : Int) < (partsP c).length := by omega
  have gp : (0 : Int) ≤ (p : Int) ∧ (p : Int) < c.length := by have := Hp.out.1; omega
  have r0 : w3.cell? ⟨q, o + p * 5, none⟩ = some (.int .i64 i.op) := hri 0 _ rfl
  have r1 : w3.cell? ⟨q, o + p * 5 + 1, none⟩ = some (.int .i64 i.a) := hri 1 _ rfl
  have r2 : w3.cell? ⟨q, o + p * 5 + 2, none⟩ = some (.int .i64 i.b) := hri 2 _ rfl
  have r3 : w3.cell? ⟨q, o + p * 5 + 3, none⟩ = some (.int .i64 i.c) := hri 3 _ rfl
  have r4 : w3.cell? ⟨q, o + p * 5 + 4, none⟩ = some (.int .i64 i.imm) := hri 4 _ rfl
  have hql : w.heap.size < w3.heap.size := hq3.lt
  have s0 := hq3.cell (i := 0) rfl
  have s1 := hq3.cell (i := 1) rfl
  have s2 := hq3.cell (i := 2) rfl
  have s3 := hq3.cell (i := 3) rfl
  have s4 := hq3.cell (i := 4) rfl
  have s5 := hq3.cell (i := 5) rfl
  have s6 := hq3.cell (i := 6) rfl
  have s7 := hq3.cell (i := 7) rfl
  have H3 := Lib.hid (And.intro hb3' (And.intro hq3 hp3)); clear hb3 hb3' hq3 hp3
  have Hpl := Lib.hid (And.intro hdp (And.intro hdg (And.intro hne (And.intro hnb (And.intro hhl (And.intro hhi (And.intro hxp hkl))))))); clear hdp hdg hne hnb hhl hhi hxp hkl hlo hs
  have Hnx := Lib.hid hnx; clear hnx
  generalize doP i ⟨x0, x1, x2, x3, x4, x5, x6, x7⟩ p = ef at *
  have Hdo := Lib.hid hdo; clear hdo
  obtain ⟨xo, xa, xb, xc, xi⟩ := i
  simp only [In.val, L8.val] at Hdo
  simp only at r0 r1 r2 r3 r4
  clear hci hri
  go_upto_region 8 with fail
  clear g1 g2 g3 g4 d1 d2 d3
  go_cut [12] from 168 (fun s wx => ∃ be, s = .pointer (some ⟨be, 0, none⟩) ∧ Holds wx be 48 ef.cells ∧ Below w3.heap.size w3 wx)
  case first =>
    have hD0 : Below w3.heap.size w3 w3.drew := below_drew1 (Below.refl _ w3)
    have hD1 : Below w3.heap.size w3 (w3.drew.alloc (.cells #[.int .i64 0, .int .i64 0, .int .i64 0, .int .u64 0, .int .u64 0] 48)) := hD0.alloc (Nat.le_refl _) _
    have hZ1 : Holds (w3.drew.alloc (.cells #[.int .i64 0, .int .i64 0, .int .i64 0, .int .u64 0, .int .u64 0] 48)) w3.heap.size 48 [.int .i64 0, .int .i64 0, .int .i64 0, .int .u64 0, .int .u64 0] := Holds.new w3.drew 48 [.int .i64 0, .int .i64 0, .int .i64 0, .int .u64 0, .int .u64 0]
    have HD := Lib.hid (And.intro hD0 (And.intro hD1 hZ1)); clear hD0 hD1 hZ1
    obtain ⟨e0, e1, e2, e3, e4⟩ := ef
    simp only [Ef.value] at Hdo
    go_region_with (go_at_call 15; first | (refine (Hdo.out _ HD.out.1).mono ?_; rintro e w5 ⟨rfl, hb5⟩; have hbx := HD.out.1.trans hb5; have Hb5 := Lib.hid hbx; clear hb5 hbx) | (refine (Hdo.out _ HD.out.2.1).mono ?_; rintro e w5 ⟨rfl, hb5⟩; have hz5 := HD.out.2.2.below hb5; have z0 := hz5.cell (i := 0) rfl; have z1 := hz5.cell (i := 1) rfl; have z2 := hz5.cell (i := 2) rfl; have z3 := hz5.cell (i := 3) rfl; have z4 := hz5.cell (i := 4) rfl; have y0 := hz5.free 0; have y1 := hz5.free 1; have y2 := hz5.free 2; have y3 := hz5.free 3; have y4 := hz5.free 4; have hbx := HD.out.2.1.trans (hb5.mono HD.out.2.1.size); have Hb5 := Lib.hid (And.intro hbx hz5); clear hb5 hz5 hbx))
    all_goals
      go_wp2_with fail
      go_meet
      case rel =>
        first
          | exact ⟨w3.heap.size, rfl, ((((Hb5.out.2.set 0 (.int .i64 e0)).set 1 (.int .i64 e1)).set 2 (.int .i64 e2)).set 3 (.int .u64 e3)).set 4 (.int .u64 e4), ((((Hb5.out.1.setCell (p := ⟨w3.heap.size, 0, none⟩) (Nat.le_refl _) _).setCell (p := ⟨w3.heap.size, 1, none⟩) (Nat.le_refl _) _).setCell (p := ⟨w3.heap.size, 2, none⟩) (Nat.le_refl _) _).setCell (p := ⟨w3.heap.size, 3, none⟩) (Nat.le_refl _) _).setCell (p := ⟨w3.heap.size, 4, none⟩) (Nat.le_refl _) _⟩
          | exact ⟨w5.heap.size, rfl, Holds.new w5 48 [.int .i64 e0, .int .i64 e1, .int .i64 e2, .int .u64 e3, .int .u64 e4], Hb5.out.alloc Hb5.out.size _⟩
  case rest =>
    obtain ⟨be, rfl, hE, hbw⟩ := hcut
    clear c0 c1 c2 r0 r1 r2 r3 r4 s0 s1 s2 s3 s4 s5 s6 s7 hq hql
    have hp4 := H3.out.2.2.below hbw
    obtain ⟨-, c1, nb2, nm2, c2, hnx2⟩ := hp4.part Hpl.out.2.2.2.2.2.2.1
    have hbel := H3.out.1.trans (hbw.mono H3.out.1.size)
    obtain ⟨e0, e1, e2, e3, e4⟩ := ef
    have E0 := hE.cell (i := 0) rfl
    have E1 := hE.cell (i := 1) rfl
    have HE := Lib.hid hE; clear hE
    have Hw := Lib.hid (And.intro hbw (And.intro hbel hp4)); clear hbw hbel hp4
    have hkk : IntKind.i64.wrap ((p : Int) + 1) = (p : Int) + 1 := by rw [IntKind.wrap_i64]; have := Hp.out; omega
    simp only at Hpl
    by_cases hA : p + 1 < xp.hi
    · have dA : decide ((p : Int) + 1 < xp.hi) = true := decide_eq_true (by omega)
      obtain ⟨k0, k7, k1⟩ := Hpl.out.1 (Hpl.out.2.2.1 hA)
      subst k1
      have b0 : (e0 != 0) = true := by simpa using k0
      have b7 : (e0 != 7) = true := by simpa using k7
      clear hA k0 k7
      go_wp2_with fail
      go_ret
      exact ⟨by simp, Hw.out.2.1⟩
    · have dA : decide ((p : Int) + 1 < xp.hi) = false := decide_eq_false (by omega)
      have hhi : p + 1 = xp.hi := by have := Hpl.out.2.2.2.2.2.1; omega
      have Hhi := Lib.hid hhi; clear hA hhi
      by_cases k0 : e0 = 0
      · subst k0
        go_wp2_with fail
        go_ret
        exact ⟨by simp, Hw.out.2.1⟩
      by_cases k7 : e0 = 7
      · subst k7
        go_wp2_with fail
        go_ret
        exact ⟨by simp, Hw.out.2.1⟩
      have b0 : (e0 == 0) = false := by simpa using k0
      have b7 : (e0 == 7) = false := by simpa using k7
      obtain ⟨t, ht, htg⟩ := (Hpl.out.2.1.resolve_left k0).resolve_left k7
      subst ht
      clear k0 k7
      by_cases hT : c.length ≤ t
      · have dT : decide (c.length ≤ t) = true := decide_eq_true hT
        clear hT
        go_wp2_with fail
        go_ret
        exact ⟨by simp, Hw.out.2.1⟩
      have dT : decide (c.length ≤ t) = false := decide_eq_false hT
      obtain ⟨m0, y0, hm0, hy0, hl0⟩ := Hpl.out.2.2.2.1 t Hhi.out (htg (by omega))
      have Hend := Lib.hid (fndP_all hm0 hy0 hl0); clear hm0 hy0 hl0 htg hT
      have hxl := Hw.out.2.2
      go_wp2_with fail
      go_loopw [13, 14] (fun s13 s14 V => ∃ k : Nat, s13 = .bool (fndP (partsP c) xp.nx t k) ∧ s14 = .int .i64 k ∧ k ≤ xp.nx.length ∧ Below wc.heap.size wc V) (fun _ s14 _ => xp.nx.length - (intOf s14).toNat)
      case atStart => exact ⟨0, rfl, rfl, Nat.zero_le _, Below.refl _ _⟩
      case round =>
        obtain ⟨k, rfl, rfl, hk, hbV⟩ := hrel
        clear c1 c2 E0 E1 hnx2 hxl
        have hpV := Hw.out.2.2.below hbV
        obtain ⟨-, -, nb2, nm2, c2, hnx2⟩ := hpV.part Hpl.out.2.2.2.2.2.2.1
        have E1 := (HE.out.below hbV).cell (i := 1) rfl
        by_cases hlt : k < xp.nx.length
        · obtain ⟨m, hm⟩ : ∃ m, xp.nx[k]? = some m := ⟨_, List.getElem?_eq_getElem hlt⟩
          obtain ⟨q2, rfl, -, hcs⟩ := hnx2 (by omega)
          have hcm := hcs k m hm
          have hml : m < (partsP c).length := parts_nxok c N m (by rw [nxOf_some Hpl.out.2.2.2.2.2.2.1]; exact List.mem_of_getElem? hm)
          obtain ⟨y, hy⟩ : ∃ y, (partsP c)[m]? = some y := ⟨_, List.getElem?_eq_getElem hml⟩
          have cy := (hpV.part hy).1
          have hfn := fndP_next (t := (t : Int)) hm hy
          have hki : (0 : Int) ≤ (k : Int) ∧ (k : Int) < xp.nx.length := by omega
          have hmi : (0 : Int) ≤ (m : Int) ∧ (m : Int) < (partsP c).length := by omega
          have hkk2 : IntKind.i64.wrap ((k : Int) + 1) = (k : Int) + 1 := by
            have := parts_nx2 c xp (List.mem_of_getElem? Hpl.out.2.2.2.2.2.2.1)
            rw [IntKind.wrap_i64]; omega
          have dm : decide (m < (partsP c).length) = true := decide_eq_true hml
          have HbV := Lib.hid hbV; clear hbV hpV hm hcs hnx2 hy hml
          have Hfn := Lib.hid hfn; clear hfn
          have Hk := Lib.hid hk; clear hk
          generalize fndP (partsP c) xp.nx t k = fd at *
          cases fd with
          | true =>
            clear cy E1
            go_wp2_with fail
            go_quiet (fail)
            go_wp2_with fail
            go_roundw
            case rel => exact ⟨k + 1, by rw [Hfn.out]; simp, rfl, by omega, below_drewN HbV.out _⟩
            case measure => simp [intOf]; omega
          | false =>
            go_wp2_with fail
            go_quiet (fail)
            go_wp2_with fail
            go_roundw
            case rel => exact ⟨k + 1, by rw [Hfn.out]; simp; rfl, rfl, by omega, below_drewN HbV.out _⟩
            case measure => simp [intOf]; omega
        · obtain rfl : k = xp.nx.length := by omega
          have HbV := Lib.hid hbV; clear hbV hk hpV hnx2 E1
          rw [Hend.out]
          go_wp2_with fail
          go_ret
          exact ⟨by simp, Hw.out.2.1.trans (HbV.out.mono Hw.out.2.1.size)⟩

end Go.Proofs.YtehnailokgoekaaGreatDoor
