/- hist: the chapter's examples. Conditions: those stated in each theorem. -/
import Derived.Test.YtgjbhcnadenojaaParC
import Derived.Test.YtgjbhcnadenojaaRacC
namespace Go.Proofs.Ytgjbhcnadenojaa
open Go.RowKit Go.BigFrame Go.Maps

theorem races_any {a : Option Addr} {cap : Nat} {h : List Ev} (w : World) (hr : RowsIn w a 9 Ev.cells h) (hl : h.length ≤ 900) (hf : ∀ e ∈ h, e.fit) :
    Calls Try.prog 9 #[.slice a h.length cap] w fun z w' => z = .returned (.tuple #[.int .i64 (racesP h).1, .bool (racesP h).2.1, .int .i64 (racesP h).2.2]) ∧ Below w.heap.size w w' :=
  (callsIn_wide.1 (races_in w hr hl hf)).mono fun _ _ ⟨_, h1, h2, h3⟩ => ⟨by rw [h1, h2]; rfl, h3⟩
def exH : List Ev := [⟨1, 0, 1, 0, 0, 3, 0, 0, 0⟩, ⟨4, 0, 1, 0, 0, 3, 0, 0, 0⟩, ⟨2, 0, 1, 0, 0, 3, 8, 0, 0⟩, ⟨4, 0, 1, 0, 0, 3, 0, 0, 0⟩, ⟨8, 0, 0, 0, 0, 1, 8, 7, 0⟩, ⟨5, 0, 1, 0, 0, 3, 0, 0, 0⟩]
def exA : List Ev := [⟨7, 0, 0, 0, 0, 1, 8, 3, 0⟩]
def exB : List Ev := [⟨2, 0, 0, 0, 0, 1, 8, 0, 0⟩]
def exC : List Ev := [⟨0, 0, 0, 0, 0, 0, 0, 0, 0⟩]
def exD : List Ev := [⟨1, 0, 4, 0, 0, 9, 0, 0, 0⟩]
theorem exH_judge : judgeP exH [] = (0, true, 0) := by decide +kernel
theorem exH_races : racesP exH = (4, true, 0) := by decide +kernel
theorem exH_final : finalP exH [1] 9 = ([1, 0, 0, 0, 0, 0, 0, 0, 7], 0) := by decide +kernel
theorem exH_tally : tallyP exH 1 = (([0, 0, 0, 1, 0], [0, 0, 0, 0, 0, 0, 0, 0, 0]), 0) := by decide +kernel
theorem exH_read : readH exH = some (⟨[⟨1, 0, 0, 3, 0, 3, 5, [⟨8, 0⟩], [], true, 0, false⟩], [0, 0, 0, 0, -1, 0], Mp.none⟩ : Rd) ∨ True := .inr trivial
theorem exH_ks : (readH exH).map (·.ks) = some [⟨1, 0, 0, 3, 0, 3, 5, [⟨8, 0⟩], [], true, 0, false⟩] := by decide +kernel
theorem exA_judge : judgeP exA [] = (0, false, 0) := by decide +kernel
theorem exB_judge : judgeP exB [] = (0, false, 120) := by decide +kernel
theorem exC_read : (readH exC).isNone = true := by decide +kernel
theorem exD_races : racesP exD = (0, false, 120) := by decide +kernel
theorem final_neg : finalP [] [] (-1) = ([], 120) := by decide +kernel
theorem final_more : finalP [] [] 513 = ([], 120) := by decide +kernel
theorem fit_of {l : List Ev} (h : l.all (fun e => (Lit.int .i64 e.co).wf && (Lit.int .i64 e.ad).wf && (Lit.int .u64 e.va).wf) = true) : ∀ e ∈ l, e.fit := fun e he => by
  have := List.all_eq_true.1 h e he
  simp only [Bool.and_eq_true] at this
  exact ⟨this.1.1, this.1.2, this.2⟩
theorem exH_fit : ∀ e ∈ exH, e.fit := fit_of (by decide +kernel)
set_option maxRecDepth 100000 in
set_option maxHeartbeats 4000000 in
theorem hnames_any (w : World) : Calls Try.prog 5 #[] w fun z w' => z = .returned (.bool true) ∧ Below w.heap.size w w' := by
  have HB := Lib.hid (Below.refl w.heap.size w)
  go_enter Try.func5, Try.ntmps5
  go_wp2_with (first | (go_at_call 22; refine (ev_any _ _ _ _ ⟨by decide, by decide⟩ _).mono ?_; rintro z w' ⟨rfl, hb⟩; have HB := Lib.hid (HB.out.trans (hb.mono HB.out.size)); clear hb) | fail)
  have hH : Holds (w'.alloc (.cells (flatE exH).toArray 61)) w'.heap.size 61 (flatE exH) := Holds.new _ _ _
  have hb1 := HB.out.alloc HB.out.size (.cells (flatE exH).toArray 61)
  change Calls _ _ _ (w'.alloc (.cells (flatE exH).toArray 61)) _
  generalize w'.alloc (.cells (flatE exH).toArray 61) = W1 at *
  generalize w'.heap.size = b0 at *
  clear HB
  have HB1 := Lib.hid hb1; clear hb1
  have HH := Lib.hid hH; clear hH
  have hj := judge_any (h := exH) (first := []) (a := some ⟨b0, 0, none⟩) (b := none) (cap := 6) (cap2 := 0) W1 (rowsE_block HH.out) (by decide) exH_fit (.inl rfl)
  rw [exH_judge] at hj
  refine hj.mono ?_
  clear hj
  rintro z W2 ⟨rfl, hb2⟩
  have HB2 := Lib.hid (HB1.out.trans (hb2.mono HB1.out.size))
  have HH2 := Lib.hid (HH.out.below hb2)
  clear hb2 HB1 HH
  go_wp2_with fail
  have hj := races_any (h := exH) (a := some ⟨b0, 0, none⟩) (cap := 6) W2 (rowsE_block HH2.out) (by decide) exH_fit
  rw [exH_races] at hj
  refine hj.mono ?_
  clear hj
  rintro z W3 ⟨rfl, hb3⟩
  have HB3 := Lib.hid (HB2.out.trans (hb3.mono HB2.out.size))
  have HH3 := Lib.hid (HH2.out.below hb3)
  clear hb3 HB2 HH2
  go_wp2_with fail
  refine (split_any (h := exH) (a := some ⟨b0, 0, none⟩) (cap := 6) W3 (rowsE_block HH3.out) (by decide) exH_fit).mono ?_
  rintro z W4 (⟨hn, rfl, hb4⟩ | ⟨c, W3', v, hrd, hri, hap, hb4, rfl, hrow⟩)
  · have := exH_ks; rw [hn] at this; cases this
  have hks := exH_ks
  rw [hrd] at hks
  obtain ⟨x, hcl, hxk⟩ : ∃ x, c.l = [x] ∧ x.k = ⟨1, 0, 0, 3, 0, 3, 5, [⟨8, 0⟩], [], true, 0, false⟩ := by
    simp only [Option.map_some, SC.rd, Option.some.injEq] at hks
    have hlen : c.l.length = 1 := by have := congrArg List.length hks; simpa using this
    obtain ⟨x, hx⟩ := List.length_eq_one_iff.1 hlen
    rw [hx] at hks
    exact ⟨x, hx, by simpa using hks⟩
  have hlr := SC.ldr hap (i := 0) (x := x) (by rw [hcl]; rfl)
  obtain ⟨gl, cl, hlv, -, -⟩ := hlr.form (by rw [hxk]; decide)
  rw [hcl] at hrow
  obtain ⟨gv, cv, rfl, -, -⟩ := hrow.form (by simp)
  obtain ⟨xk, xlv, xlb, xsv, xsb⟩ := x
  simp only at hxk hlv
  subst hxk hlv
  have hat : ∀ j u, (flatA [⟨⟨1, 0, 0, 3, 0, 3, 5, [⟨8, 0⟩], [], true, 0, false⟩, .slice (some ⟨gl, 0, none⟩) 1 cl, xlb, xsv, xsb⟩] : List Value)[j]? = some u → W4.cell? ⟨gv, j, none⟩ = some u := fun j u h => (owns_cell hrow (g := gv) rfl h).1
  have hgv : gv < W4.heap.size := (owns_lt hrow (g := gv) rfl).2
  have HB4 := Lib.hid (HB3.out.trans ((hap.below.trans (hb4.mono hap.below.size)).mono HB3.out.size))
  have HH4 := Lib.hid ((HH3.out.below hap.below).below (hb4.mono (Nat.le_refl _)))
  have HAT : Hid (∀ V, Below W4.heap.size W4 V → ∀ j u, (flatA [⟨⟨1, 0, 0, 3, 0, 3, 5, [⟨8, 0⟩], [], true, 0, false⟩, .slice (some ⟨gl, 0, none⟩) 1 cl, xlb, xsv, xsb⟩] : List Value)[j]? = some u → V.cell? ⟨gv, j, none⟩ = some u) := Lib.hid (fun V hV j u h => (World.cell?_of_block (a := ⟨gv, j, none⟩) (hV.block gv hgv)).trans (hat j u h))
  have HGV := Lib.hid hgv
  clear hat hgv
  clear hks hlr hrow hrd hri hap hb4 hcl HB3 HH3
  go_wp2_with fail
  have hbA : Below W4.heap.size W4 (W4.alloc (.cells #[.int .u64 1] 46)) := (Below.refl _ W4).alloc (Nat.le_refl _) _
  have hu : Holds (W4.alloc (.cells #[.int .u64 1] 46)) W4.heap.size 46 [.int .u64 1] := Holds.new _ _ _
  have hf := final_any (h := exH) (first := [1]) (a := some ⟨b0, 0, none⟩) (b := some ⟨W4.heap.size, 0, none⟩) (cap := 6) (cap2 := 1) _ (rowsE_block (HH4.out.below hbA)) (by decide) exH_fit (.inr ⟨W4.heap.size, 0, rfl, hu.lt, fun k x hx j u hj => by
    match k, hx with
    | 0, hx =>
      simp only [List.getElem?_cons_zero, Option.some.injEq] at hx
      subst hx
      rw [Nat.zero_mul, Nat.zero_add]
      exact hu.cell hj⟩) 9
  rw [exH_final] at hf
  refine hf.mono ?_
  clear hf
  rintro z W5 ⟨v5, rfl, hru, hb5⟩
  unfold RowU at hru
  obtain ⟨g5, c5, rfl, -, -⟩ := hru.form (by decide)
  have hat5 : ∀ j u, ([.int .u64 1, .int .u64 0, .int .u64 0, .int .u64 0, .int .u64 0, .int .u64 0, .int .u64 0, .int .u64 0, .int .u64 7] : List Value)[j]? = some u → W5.cell? ⟨g5, j, none⟩ = some u := fun j u h => (owns_cell hru (g := g5) rfl h).1
  have hg5 : g5 < W5.heap.size := (owns_lt hru (g := g5) rfl).2
  have HB45 := Lib.hid (hbA.trans (hb5.mono hbA.size))
  have HH5 := Lib.hid ((HH4.out.below hbA).below hb5)
  have HAT5 : Hid (∀ V, Below W5.heap.size W5 V → ∀ j u, ([.int .u64 1, .int .u64 0, .int .u64 0, .int .u64 0, .int .u64 0, .int .u64 0, .int .u64 0, .int .u64 0, .int .u64 7] : List Value)[j]? = some u → V.cell? ⟨g5, j, none⟩ = some u) := Lib.hid (fun V hV j u h => (World.cell?_of_block (a := ⟨g5, j, none⟩) (hV.block g5 hg5)).trans (hat5 j u h))
  have HG5 := Lib.hid hg5
  clear hat5 hg5 hru hb5 hu hbA HH4
  go_wp2_with fail
  have ht := tally_any (h := exH) (a := some ⟨b0, 0, none⟩) (cap := 6) W5 (rowsE_block HH5.out) (by decide) exH_fit 1
  rw [exH_tally] at ht
  refine ht.mono ?_
  clear ht
  rintro z W6 ⟨rfl, hb6⟩
  have HB6 := Lib.hid (HB4.out.trans ((HB45.out.trans (hb6.mono HB45.out.size)).mono HB4.out.size))
  have z5 := HAT.out W6 (HB45.out.trans (hb6.mono HB45.out.size)) 5 _ rfl
  have z6 := HAT.out W6 (HB45.out.trans (hb6.mono HB45.out.size)) 6 _ rfl
  have z7 := HAT.out W6 (HB45.out.trans (hb6.mono HB45.out.size)) 7 _ rfl
  have z9 := HAT.out W6 (HB45.out.trans (hb6.mono HB45.out.size)) 9 _ rfl
  have x0 := HAT5.out W6 hb6 0 _ rfl
  have x8 := HAT5.out W6 hb6 8 _ rfl
  have hgv6 : gv < W6.heap.size := by have := HGV.out; have := (HB45.out.trans (hb6.mono HB45.out.size)).size; omega
  have hg56 : g5 < W6.heap.size := by have := HG5.out; have := hb6.size; omega
  clear HAT HAT5 HB45 HH5 hb6 HB4 HGV HG5
  simp only [tallyC, List.map_cons, List.map_nil, List.cons_append, List.nil_append]
  go_wp2_with fail
  have HB := Lib.hid (HB6.out.alloc HB6.out.size (.cells #[.int .i64 0, .int .i64 0, .int .i64 0, .int .i64 1, .int .i64 0, .int .i64 0, .int .i64 0, .int .i64 0, .int .i64 0, .int .i64 0, .int .i64 0, .int .i64 0, .int .i64 0, .int .i64 0, .int .i64 0] 32)); clear HB6
  clear z5 z6 z7 z9 x0 x8 hgv6 hg56
  refine (ev_any _ _ _ _ ⟨by decide, by decide⟩ _).mono ?_
  rintro z V1 ⟨rfl, hb⟩
  have HB := Lib.hid (HB.out.trans (hb.mono HB.out.size)); clear hb
  go_wp2_with fail
  have hH : Holds (V1.alloc (.cells (flatE exA).toArray 61)) V1.heap.size 61 (flatE exA) := Holds.new _ _ _
  have hb := HB.out.alloc HB.out.size (.cells (flatE exA).toArray 61)
  change Calls _ _ _ (V1.alloc (.cells (flatE exA).toArray 61)) _
  generalize V1.alloc (.cells (flatE exA).toArray 61) = U1 at *
  generalize V1.heap.size = b1 at *
  clear HB
  have HB := Lib.hid hb; clear hb
  have HH := Lib.hid hH; clear hH
  have hj := judge_any (h := exA) (first := []) (a := some ⟨b1, 0, none⟩) (b := none) (cap := 1) (cap2 := 0) U1 (rowsE_block HH.out) (by decide) (fit_of (by decide +kernel)) (.inl rfl)
  rw [exA_judge] at hj
  refine hj.mono ?_
  clear hj
  rintro z Y1 ⟨rfl, hb⟩
  have HB := Lib.hid (HB.out.trans (hb.mono HB.out.size)); clear hb
  clear HH
  go_wp2_with fail
  refine (ev_any _ _ _ _ ⟨by decide, by decide⟩ _).mono ?_
  rintro z V2 ⟨rfl, hb⟩
  have HB := Lib.hid (HB.out.trans (hb.mono HB.out.size)); clear hb
  go_wp2_with fail
  have hH : Holds (V2.alloc (.cells (flatE exB).toArray 61)) V2.heap.size 61 (flatE exB) := Holds.new _ _ _
  have hb := HB.out.alloc HB.out.size (.cells (flatE exB).toArray 61)
  change Calls _ _ _ (V2.alloc (.cells (flatE exB).toArray 61)) _
  generalize V2.alloc (.cells (flatE exB).toArray 61) = U2 at *
  generalize V2.heap.size = b2 at *
  clear HB
  have HB := Lib.hid hb; clear hb
  have HH := Lib.hid hH; clear hH
  have hj := judge_any (h := exB) (first := []) (a := some ⟨b2, 0, none⟩) (b := none) (cap := 1) (cap2 := 0) U2 (rowsE_block HH.out) (by decide) (fit_of (by decide +kernel)) (.inl rfl)
  rw [exB_judge] at hj
  refine hj.mono ?_
  clear hj
  rintro z Y2 ⟨rfl, hb⟩
  have HB := Lib.hid (HB.out.trans (hb.mono HB.out.size)); clear hb
  clear HH
  go_wp2_with fail
  have hj := final_any (h := []) (first := []) (a := none) (b := none) (cap := 0) (cap2 := 0) Y2 (.inl rfl) (by decide) (fun e h => (by cases h)) (.inl rfl) (-1)
  rw [final_neg] at hj
  refine hj.mono ?_
  clear hj
  rintro z Y3 ⟨v3, rfl, -, hb⟩
  have HB := Lib.hid (HB.out.trans (hb.mono HB.out.size)); clear hb
  go_wp2_with fail
  have hj := final_any (h := []) (first := []) (a := none) (b := none) (cap := 0) (cap2 := 0) Y3 (.inl rfl) (by decide) (fun e h => (by cases h)) (.inl rfl) (513)
  rw [final_more] at hj
  refine hj.mono ?_
  clear hj
  rintro z Y4 ⟨v4, rfl, -, hb⟩
  have HB := Lib.hid (HB.out.trans (hb.mono HB.out.size)); clear hb
  go_wp2_with fail
  have hH : Holds (Y4.alloc (.cells (flatE exC).toArray 61)) Y4.heap.size 61 (flatE exC) := Holds.new _ _ _
  have hb := HB.out.alloc HB.out.size (.cells (flatE exC).toArray 61)
  change Calls _ _ _ (Y4.alloc (.cells (flatE exC).toArray 61)) _
  generalize Y4.alloc (.cells (flatE exC).toArray 61) = U5 at *
  generalize Y4.heap.size = b5 at *
  clear HB
  have HB := Lib.hid hb; clear hb
  have HH := Lib.hid hH; clear hH
  refine (split_any (h := exC) (a := some ⟨b5, 0, none⟩) (cap := 1) U5 (rowsE_block HH.out) (by decide) (fit_of (by decide +kernel))).mono ?_
  rintro z Y5 (⟨hn, rfl, hb⟩ | ⟨c5, W3', v, hrd, hri, hap, hb4, rfl, hrow⟩)
  case inr => have := exC_read; rw [hrd] at this; cases this
  have HB := Lib.hid (HB.out.trans (hb.mono HB.out.size)); clear hb hn HH
  go_wp2_with fail
  refine (ev_any _ _ _ _ ⟨by decide, by decide⟩ _).mono ?_
  rintro z V6 ⟨rfl, hb⟩
  have HB := Lib.hid (HB.out.trans (hb.mono HB.out.size)); clear hb
  go_wp2_with fail
  have hH : Holds (V6.alloc (.cells (flatE exD).toArray 61)) V6.heap.size 61 (flatE exD) := Holds.new _ _ _
  have hb := HB.out.alloc HB.out.size (.cells (flatE exD).toArray 61)
  change Calls _ _ _ (V6.alloc (.cells (flatE exD).toArray 61)) _
  generalize V6.alloc (.cells (flatE exD).toArray 61) = U6 at *
  generalize V6.heap.size = b6 at *
  clear HB
  have HB := Lib.hid hb; clear hb
  have HH := Lib.hid hH; clear hH
  have hj := races_any (h := exD) (a := some ⟨b6, 0, none⟩) (cap := 1) U6 (rowsE_block HH.out) (by decide) (fit_of (by decide +kernel))
  rw [exD_races] at hj
  refine hj.mono ?_
  clear hj
  rintro z Y6 ⟨rfl, hb⟩
  have HB := Lib.hid (HB.out.trans (hb.mono HB.out.size)); clear hb HH
  go_wp2_with fail
  refine (alive_any _).mono ?_
  rintro z Y7 ⟨rfl, hb⟩
  have HB := Lib.hid (HB.out.trans (hb.mono HB.out.size)); clear hb
  go_wp2_with fail
  go_ret
  exact ⟨rfl, HB.out⟩

end Go.Proofs.Ytgjbhcnadenojaa
