/- hist: an attempt's add. Conditions: those stated in each theorem. -/
import Derived.Test.YtgjbhcnadenojaaHisG
namespace Go.Proofs.Ytgjbhcnadenojaa
open Go.RowKit Go.BigFrame Go.Maps

section
variable {w0 w : World} {c : SC} {i g : Nat} {x : KC}
/-- What the last part of add leaves. -/
def Ev.val (e : Ev) : Value := .agg #[.int .i64 e.k, .int .i64 e.tm, .int .i64 e.co, .int .i64 e.bl, .int .i64 e.tr, .int .i64 e.la, .int .i64 e.ad, .int .u64 e.va, .int .i64 e.cd]
/-- A world in the midst of add. -/
structure KMid (w0 : World) (c : SC) (i g n : Nat) (k : Kn) (e : Ev) (W : World) : Prop where
  ap : ∃ y, y.k = k ∧ Ap w0 W { c with l := c.l.set i y, ex := updN c.ex 0 (some (cellsP n 61 e.cells)) }.pf
theorem KMid.box {k : Kn} {e : Ev} {n : Nat} {W : World} (h : KMid w0 c i g n k e W) : Holds W n 61 e.cells := by
  obtain ⟨y, rfl, hh⟩ := h
  exact SC.aux (n := 0) hh (by simp [updN])
theorem KMid.out {k : Kn} {e : Ev} {n : Nat} {W : World} (h : KMid w0 c i g n k e W) (hc : c.ex 0 = none) : KOut w0 c i k W := by
  obtain ⟨y, rfl, hh⟩ := h.ap
  exact ⟨y, rfl, SC.unbox (c := { c with l := c.l.set i y }) 0 hh hc⟩
theorem KMid.cells {k : Kn} {e : Ev} {n : Nat} {W : World} (h : KMid w0 c i g n k e W) (hx : c.l[i]? = some x) (hg : c.va.ownBlock = some g) : ∃ y : KC, y.k = k ∧ CellsAt W g (i * 14) y.cells := by
  obtain ⟨y, rfl, hh⟩ := h.ap
  exact ⟨y, rfl, SC.cells (x := y) hh (by simp [(List.getElem?_eq_some_iff.1 hx).1]) hg⟩
/-- A number of the attempt's is turned. -/
theorem KMid.set {k k' : Kn} {e : Ev} {n : Nat} {W : World} (h : KMid w0 c i g n k e W) (hx : c.l[i]? = some x) (hg : c.va.ownBlock = some g) {j : Nat} (hj : j < 14) (v : Value) (hv : ∀ y : KC, y.k = k → y.cells.set j v = ({ y with k := k' } : KC).cells) (hl : k'.ld = k.ld) (hs : k'.st = k.st) :
    KMid w0 c i g n k' e (W.setCell ⟨g, i * 14 + j, none⟩ v) := by
  obtain ⟨y, rfl, hh⟩ := h.ap
  have hil := (List.getElem?_eq_some_iff.1 hx).1
  have := SC.setK (i := i) (g := g) (x := y) (y := { y with k := k' }) hh (by simp [hil]) hg hj v (hv y rfl) (by simp [ldrP, hl]) (by simp [ldmP, hl]) (by simp [strP, hs]) (by simp [stmP, hs])
  exact ⟨⟨{ y with k := k' }, rfl, by simpa [List.set_set] using this⟩⟩
theorem KMid.idle {k : Kn} {e : Ev} {n : Nat} {W W' : World} (h : KMid w0 c i g n k e W) (hb : Below W.heap.size W W') : KMid w0 c i g n k e W' := by
  obtain ⟨y, rfl, hh⟩ := h.ap
  exact ⟨y, rfl, hh.idle hb⟩
theorem Kn.add0_hard (k : Kn) (i : Int) (e : Ev) : (k.add0 i e).la = k.la := by
  unfold Kn.add0 Kn.load Kn.store
  repeat' split
  all_goals rfl

set_option maxRecDepth 100000 in
set_option maxHeartbeats 2000000 in
theorem kadd_any (h : Ap w0 w c.pf) (hc : c.ex 0 = none) (hx : c.l[i]? = some x) (hg : c.va.ownBlock = some g) (iv : Int) (e : Ev) (he : e.fit) (hn : x.k.ld.length < 1000) (hn2 : x.k.st.length < 1000) :
    Calls Try.prog 51 #[.pointer (some ⟨g, i * 14, none⟩), .int .i64 iv, e.val] w fun z w' => z = .returned (.tuple #[]) ∧ KOut w0 c i (x.k.add iv e) w' := by
  have h0 : KMid w0 c i g w.heap.size x.k e (w.alloc (.cells e.cells.toArray 61)) := ⟨x, rfl, by
    have := SC.box h 0 61 e.cells
    rwa [show c.l.set i x = c.l from congrArg SC.l (SC.same (c := c) hx)]⟩
  have HM : Hid (∀ k V, KMid w0 c i g w.heap.size k e V → Calls Try.prog 54 #[.pointer (some ⟨g, i * 14, none⟩), .int .i64 e.k] V fun z w' => z = .returned (.bool (k.may e.k)) ∧ V = w') := Lib.hid (fun k V hV => by
    obtain ⟨y, rfl, hy⟩ := hV.cells hx hg
    exact kmay_any hy e.k)
  have HT : Hid (∀ k V, KMid w0 c i g w.heap.size k e V → (∃ n, V.cell? ⟨g, i * 14 + 5, none⟩ = some (.int .i64 n) ∧ V.frozen? ⟨g, i * 14 + 5, none⟩ = false) ∧ V.cell? ⟨w.heap.size, 0, none⟩ = some (.int .i64 e.k) ∧ KOut w0 c i { k with pt := iv } (V.setCell ⟨g, i * 14 + 5, none⟩ (.int .i64 iv)) ∧ KOut w0 c i k V) := Lib.hid (fun k V hV => by
    have hs := hV.set (k' := { k with pt := iv }) hx hg (j := 5) (by omega) (.int .i64 iv) (fun y e => by subst e; rfl) rfl rfl
    obtain ⟨y, rfl, hy⟩ := hV.cells hx hg
    exact ⟨⟨_, (hy 5 _ rfl).1, (hy 5 _ rfl).2⟩, hV.box.cell (i := 0) rfl, hs.out hc, hV.out hc⟩)
  have HL : Hid (∀ V, KMid w0 c i g w.heap.size x.k e V → Calls Try.prog 52 #[.pointer (some ⟨g, i * 14, none⟩), .agg #[.int .i64 e.ad, .int .u64 e.va]] V fun z w' => z = .returned (.tuple #[]) ∧ KMid w0 c i g w.heap.size (x.k.load ⟨e.ad, e.va⟩) e w') := Lib.hid (fun V hV => by
    obtain ⟨y, hyk, hh⟩ := hV.ap
    refine (kload_any (i := i) (x := y) hh (by simp [(List.getElem?_eq_some_iff.1 hx).1]) hg ⟨e.ad, e.va⟩ ⟨he.2.1, he.2.2⟩ (by rw [hyk]; exact hn)).mono ?_
    rintro z w' ⟨rfl, y2, hy2, h2⟩
    rw [hyk] at hy2
    exact ⟨rfl, ⟨y2, hy2, by simpa [List.set_set] using h2⟩⟩)
  have HS : Hid (∀ V, KMid w0 c i g w.heap.size x.k e V → Calls Try.prog 53 #[.pointer (some ⟨g, i * 14, none⟩), .agg #[.int .i64 e.ad, .int .u64 e.va]] V fun z w' => z = .returned (.tuple #[]) ∧ KMid w0 c i g w.heap.size (x.k.store ⟨e.ad, e.va⟩) e w') := Lib.hid (fun V hV => by
    obtain ⟨y, hyk, hh⟩ := hV.ap
    refine (kstore_any (i := i) (x := y) hh (by simp [(List.getElem?_eq_some_iff.1 hx).1]) hg ⟨e.ad, e.va⟩ ⟨he.2.1, he.2.2⟩ (by rw [hyk]; exact hn2)).mono ?_
    rintro z w' ⟨rfl, y2, hy2, h2⟩
    rw [hyk] at hy2
    exact ⟨rfl, ⟨y2, hy2, by simpa [List.set_set] using h2⟩⟩)
  have HC5 : Hid (∀ V, KMid w0 c i g w.heap.size x.k e V → KMid w0 c i g w.heap.size { x.k with com := true, to_ := iv } e ((V.setCell ⟨g, i * 14 + 9, none⟩ (.bool true)).setCell ⟨g, i * 14 + 6, none⟩ (.int .i64 iv))) := Lib.hid (fun V hV =>
    (hV.set (k' := { x.k with com := true }) hx hg (j := 9) (by omega) (.bool true) (fun y e => by rw [← e]; rfl) rfl rfl).set (k' := { x.k with com := true, to_ := iv }) hx hg (j := 6) (by omega) (.int .i64 iv) (fun y e => by simp only [KC.cells, e]; rfl) rfl rfl)
  have HC6 : Hid (∀ V, KMid w0 c i g w.heap.size x.k e V → KMid w0 c i g w.heap.size { x.k with cd := e.cd, to_ := iv } e ((V.setCell ⟨g, i * 14 + 10, none⟩ (.int .i64 e.cd)).setCell ⟨g, i * 14 + 6, none⟩ (.int .i64 iv))) := Lib.hid (fun V hV =>
    (hV.set (k' := { x.k with cd := e.cd }) hx hg (j := 10) (by omega) (.int .i64 e.cd) (fun y e => by rw [← e]; rfl) rfl rfl).set (k' := { x.k with cd := e.cd, to_ := iv }) hx hg (j := 6) (by omega) (.int .i64 iv) (fun y e => by simp only [KC.cells, e]; rfl) rfl rfl)
  obtain ⟨y0, hy0, hcs⟩ := h0.cells hx hg
  have c9 := (hcs 9 _ rfl).1
  have f9 := (hcs 9 _ rfl).2
  have c6 := (hcs 6 _ rfl).1
  have f6 := (hcs 6 _ rfl).2
  have c10 := (hcs 10 _ rfl).1
  have f10 := (hcs 10 _ rfl).2
  have b0 := h0.box.cell (i := 0) rfl
  have b6 := h0.box.cell (i := 6) rfl
  have b7 := h0.box.cell (i := 7) rfl
  have b8 := h0.box.cell (i := 8) rfl
  have hng : g ≠ w.heap.size := by
    obtain ⟨T, ⟨v1, _⟩, _⟩ := h.get (i := .att) rfl
    have := (owns_lt v1 hg).2
    omega
  obtain ⟨bb, hbb⟩ : ∃ bb, (x.k.add0 iv e).may e.k = bb := ⟨_, rfl⟩
  have hadd : x.k.add iv e = if bb then { x.k.add0 iv e with pt := iv } else x.k.add0 iv e := by unfold Kn.add; rw [hbb]
  rw [hadd]
  have HB := Lib.hid hbb; clear hbb hadd
  obtain ⟨ek, etm, eco, ebl, etr, ela, ead, eva, ecd⟩ := e
  clear he hx hg hc hcs hy0 h hn hn2
  unfold Ev.val
  go_enter Try.func51, Try.ntmps51
  unfold Ev.cells at h0 c9 f9 c6 f6 c10 f10 b0 b6 b7 b8
  simp only at c9 f9 c6 f6 c10 f10 b0 b6 b7 b8 HM HT HL HS HC5 HC6 HB
  have H0 := Lib.hid h0; clear h0
  by_cases e2 : ek = 2
  · subst e2
    have hk : x.k.add0 iv ⟨2, etm, eco, ebl, etr, ela, ead, eva, ecd⟩ = x.k.load ⟨ead, eva⟩ := rfl
    rw [hk] at HB
    rw [hk]
    clear hk
    cases bb
    all_goals
      go_wp2_with (first | (go_at_call 52; refine (HL.out _ H0.out).mono ?_; rintro z w' ⟨rfl, hV⟩; obtain ⟨⟨n5, c5, f5⟩, b0', hT1, hT2⟩ := HT.out _ _ hV; have HV := Lib.hid hV; have HT1 := Lib.hid hT1; have HT2 := Lib.hid hT2; clear hV hT1 hT2) | (go_at_call 54; refine (HM.out _ _ HV.out).mono ?_; rintro z w' ⟨rfl, rfl⟩; rw [HB.out]))
      go_end0
      first | exact ⟨rfl, HT2.out⟩ | exact ⟨rfl, HT1.out⟩
  by_cases e3 : ek = 3
  · clear e2
    subst e3
    have hk : x.k.add0 iv ⟨3, etm, eco, ebl, etr, ela, ead, eva, ecd⟩ = x.k.store ⟨ead, eva⟩ := rfl
    rw [hk] at HB
    rw [hk]
    clear hk
    cases bb
    all_goals
      go_wp2_with (first | (go_at_call 53; refine (HS.out _ H0.out).mono ?_; rintro z w' ⟨rfl, hV⟩; obtain ⟨⟨n5, c5, f5⟩, b0', hT1, hT2⟩ := HT.out _ _ hV; have HV := Lib.hid hV; have HT1 := Lib.hid hT1; have HT2 := Lib.hid hT2; clear hV hT1 hT2) | (go_at_call 54; refine (HM.out _ _ HV.out).mono ?_; rintro z w' ⟨rfl, rfl⟩; rw [HB.out]))
      go_end0
      first | exact ⟨rfl, HT2.out⟩ | exact ⟨rfl, HT1.out⟩
  by_cases e5 : ek = 5
  · clear e2 e3
    subst e5
    have hk : x.k.add0 iv ⟨5, etm, eco, ebl, etr, ela, ead, eva, ecd⟩ = { x.k with com := true, to_ := iv } := rfl
    rw [hk] at HB
    rw [hk]
    clear hk
    have HV := Lib.hid (HC5.out _ H0.out)
    cases bb
    all_goals
      go_wp2_with (go_at_call 54; refine (HM.out _ _ HV.out).mono ?_; rintro z w' ⟨rfl, rfl⟩; rw [HB.out]; obtain ⟨⟨n5, c5, f5⟩, b0', hT1, hT2⟩ := HT.out _ _ HV.out; have HT1 := Lib.hid hT1; have HT2 := Lib.hid hT2; clear hT1 hT2)
      go_end0
      first | exact ⟨rfl, HT2.out⟩ | exact ⟨rfl, HT1.out⟩
  by_cases e6 : ek = 6
  · clear e2 e3 e5
    subst e6
    have hk : x.k.add0 iv ⟨6, etm, eco, ebl, etr, ela, ead, eva, ecd⟩ = { x.k with cd := ecd, to_ := iv } := rfl
    rw [hk] at HB
    rw [hk]
    clear hk
    have HV := Lib.hid (HC6.out _ H0.out)
    cases bb
    all_goals
      go_wp2_with (go_at_call 54; refine (HM.out _ _ HV.out).mono ?_; rintro z w' ⟨rfl, rfl⟩; rw [HB.out]; obtain ⟨⟨n5, c5, f5⟩, b0', hT1, hT2⟩ := HT.out _ _ HV.out; have HT1 := Lib.hid hT1; have HT2 := Lib.hid hT2; clear hT1 hT2)
      go_end0
      first | exact ⟨rfl, HT2.out⟩ | exact ⟨rfl, HT1.out⟩
  · have hk : x.k.add0 iv ⟨ek, etm, eco, ebl, etr, ela, ead, eva, ecd⟩ = x.k := by simp only [Kn.add0, if_neg e2, if_neg e3, if_neg e5, if_neg e6]
    rw [hk] at HB
    rw [hk]
    have b2 : (ek == 2) = false := by simpa using e2
    have b3 : (ek == 3) = false := by simpa using e3
    have b5 : (ek == 5) = false := by simpa using e5
    have b6' : (ek == 6) = false := by simpa using e6
    clear hk e2 e3 e5 e6
    have HV := H0
    cases bb
    all_goals
      go_wp2_with (go_at_call 54; refine (HM.out _ _ HV.out).mono ?_; rintro z w' ⟨rfl, rfl⟩; rw [HB.out]; obtain ⟨⟨n5, c5, f5⟩, b0', hT1, hT2⟩ := HT.out _ _ HV.out; have HT1 := Lib.hid hT1; have HT2 := Lib.hid hT2; clear hT1 hT2)
      go_end0
      first | exact ⟨rfl, HT2.out⟩ | exact ⟨rfl, HT1.out⟩
end

end Go.Proofs.Ytgjbhcnadenojaa
