/- hist: meets. Conditions: those stated in each theorem. -/
import Derived.Test.YtgjbhcnadenojaaHisX
import Derived.Maps.RangeWalk
namespace Go.Proofs.Ytgjbhcnadenojaa
open Go.RowKit Go.BigFrame Go.Maps

/-- Does the attempt at a place name a word, in a lane without hardware? -/
def hitsP (ks : List Kn) (ad v : Int) : Bool := let x := ks.getD v.toNat Kn.zero; !x.hard && x.names ad
/-- The open attempts' places, and whose they are. -/
structure OpOk (o : Mp) (n : Nat) : Prop where
  co : ∀ a v, o a = some v → 0 ≤ a ∧ a < 4
  pl : ∀ a v, o a = some v → ∃ j : Nat, v = j ∧ j < n
theorem meets_true {ks : List Kn} {o : Mp} {ad a v : Int} {n : Nat} (h : OpOk o n) (ho : o a = some v) (hh : hitsP ks ad v = true) : meets ks o ad = true := by
  obtain ⟨h0, h1⟩ := h.co a v ho
  unfold meets
  rw [List.any_eq_true]
  refine ⟨a, ?_, ?_⟩
  · have : a = 0 ∨ a = 1 ∨ a = 2 ∨ a = 3 := by omega
    simpa using this
  · rw [ho]; exact hh
theorem meets_false {ks : List Kn} {o : Mp} {ad : Int} (hh : ∀ a v, o a = some v → hitsP ks ad v = false) : meets ks o ad = false := by
  unfold meets
  rw [List.any_eq_false]
  intro a _
  cases ho : o a with
  | none => simp
  | some v =>
    have := hh a v ho
    unfold hitsP at this
    simpa using this

theorem below_grown {w w' : World} (h : w.grownBy w' none) : Below w.heap.size w w' := ⟨h.os, h.tape, h.output, h.size, fun k hk => h.block k hk (by simp)⟩
theorem isMp_of {q : IntKind} {D : DataW Unit} {f : Mp} (h : IsMp q D f) {a c : Int} (hat : ∀ zd, D.atKey (.int .i64 a) zd = .lit (.int q c)) : f a = some c := by
  cases hf : f a with
  | some v =>
    have := (h.2 a).2 v hf (.map [])
    rw [hat] at this
    cases this; rfl
  | none =>
    have hh := (h.2 a).1
    rw [hf] at hh
    have := hat (.map [])
    rw [atKey_of_not_has hh] at this
    cases this
section
variable {lo mid B : Nat} {w : World} {c : SC} {h : List Ev} {b n : Nat} {o : Mp}
set_option maxRecDepth 100000 in
set_option maxHeartbeats 4000000 in
theorem meets_any (s : StoR lo mid B w c h) (hm : MpAt w 3 .i64 b n o) (ho : OpOk o c.l.length) (ad : Int) (hw : (Lit.int .i64 ad).wf = true) :
    Calls Try.prog 29 #[.pointer (some ⟨c.p, 0, none⟩), .map (some b), .int .i64 ad] w fun z w' => z = .returned (.bool (meets c.rd.ks o ad)) ∧ Below w.heap.size w w' := by
  obtain ⟨D, hown, hD⟩ := hm
  have HS := Lib.hid s; clear s
  have HO := Lib.hid ho; clear ho
  have HD := Lib.hid hD; clear hD
  have HW := Lib.hid hw; clear hw
  have Hown := Lib.hid hown; clear hown
  go_enter Try.func29, Try.ntmps29
  go_wp2_with (at_range; refine wpList_range_own _ rfl _ 79 rfl 3 3 Try.keyI Try.underlying79 _ b n D rfl Hown.out ?_; intro w0 hrg0 hg0 hs0)
  go_frame
  have Hg0 := Lib.hid hg0; clear hg0
  have Hrg0 := Lib.hid hrg0; clear hrg0
  go_loopw [8, 9, 12, 13] (fun _ _ _ _ wr => ∃ left cnt, wr.ranges Try.prog 3 (plainElem (H := Unit) Try.prog 3) b w.heap.size n D left cnt ∧ w.grownBy wr none ∧ ∀ a v, o a = some v → left (.int .i64 a) = false → hitsP c.rd.ks ad v = false) (fun _ _ _ _ wr => wr.rangeLeft b w.heap.size)
  case atStart =>
    refine ⟨_, _, Hrg0.out, Hg0.out, fun a v hv hl => ?_⟩
    rw [(HD.out.2 a).1, hv] at hl
    cases hl
  case round =>
    obtain ⟨left, cnt, hrg, hgw, hno⟩ := hrel
    have Hno := Lib.hid hno; clear hno
    have Hgw := Lib.hid hgw; clear hgw
    have Hrg := Lib.hid hrg; clear hrg Hrg0 Hg0
    go_wp2_with (at_next; refine wpList_next_ranges_ii _ rfl _ rfl 3 3 .i64 .i64 Try.keyI Try.underlying3 Try.underlying3 b w.heap.size n _ _ _ rfl Hrg.out ?_ ?_)
    · intro _ hl0
      have hm : meets c.rd.ks o ad = false := meets_false (fun a v hv => Hno.out a v hv (hl0 _))
      clear hl0
      go_wp2
      go_ret
      exact ⟨by rw [hm]; rfl, below_grown Hgw.out⟩
    · intro x v w1 cnt1 hwx hwc hlx hat hrg1 hlt hg1 hs1 hen
      have hox : o x = some v := isMp_of HD.out hat
      obtain ⟨j, rfl, hj⟩ := HO.out.pl x v hox
      obtain ⟨y, hy⟩ : ∃ y, c.l[j]? = some y := ⟨_, List.getElem?_eq_getElem hj⟩
      have hgw1 : w.grownBy w1 none := Hgw.out.andThen hg1 (fun j hj => by cases hj; exact .inl (Nat.le_refl _))
      have hst : StoR lo mid B w1 c h := HS.out.next (below_grown hgw1)
      obtain ⟨g, cap, hva, -⟩ := hst.att.1.form (by omega)
      have s1 := hst.sto.1.cell (i := 1) rfl
      rw [hva] at s1
      have hcs := hst.cells hy (by rw [hva]; rfl)
      have HHd := Lib.hid (hard_any hcs)
      have HNm := Lib.hid (names_any hcs (hst.ldm hy) (hst.stm hy) ad HW.out)
      have hks : c.rd.ks.getD j Kn.zero = y.k := c.rd_get hy
      have hhit : hitsP c.rd.ks ad (j : Int) = (!y.k.hard && y.k.names ad) := by unfold hitsP; rw [Int.toNat_natCast, hks]
      have hjl : (0 : Int) ≤ j ∧ (j : Int) < c.l.length := by omega
      have HOX := Lib.hid hox
      have HHit := Lib.hid hhit
      have Hrg1 := Lib.hid hrg1
      have Hgw1 := Lib.hid hgw1
      have Hlt := Lib.hid hlt
      clear hwx hwc hlx hat hrg1 hlt hg1 hs1 hox hy hj hgw1 hst hva hcs hks hhit
      obtain ⟨hd, hhd⟩ : ∃ hd, y.k.hard = hd := ⟨_, rfl⟩
      obtain ⟨nm, hnm⟩ : ∃ nm, y.k.names ad = nm := ⟨_, rfl⟩
      rw [hhd] at HHd
      rw [hnm] at HNm
      have Hhn := Lib.hid (show hitsP c.rd.ks ad (j : Int) = (!hd && nm) by rw [HHit.out, hhd, hnm])
      clear hhd hnm HHit
      cases hd
      · cases nm
        · go_wp2_with (first | (go_at_call 44; refine HHd.out.mono ?_; rintro z w' ⟨rfl, rfl⟩) | (go_at_call 45; refine HNm.out.mono ?_; rintro z w' ⟨rfl, rfl⟩))
          go_roundw
          case rel => exact ⟨_, cnt1, Hrg1.out, Hgw1.out, fun a v hv hl => by
            by_cases ha : a = x
            · subst ha; rw [HOX.out] at hv; cases hv; exact Hhn.out
            · refine Hno.out a v hv ?_
              have h2 : (Lit.int .i64 a).sameKey (Lit.int .i64 x) = false := by
                rw [Bool.eq_false_iff]
                intro h3
                have := WideAt.sameKey_eq h3
                cases this; exact ha rfl
              simpa [h2] using hl⟩
          case measure => rw [Hrg1.out.left_eq, Hrg.out.left_eq]; exact Hlt.out
        · have hm : meets c.rd.ks o ad = true := meets_true HO.out HOX.out Hhn.out
          go_wp2_with (first | (go_at_call 44; refine HHd.out.mono ?_; rintro z w' ⟨rfl, rfl⟩) | (go_at_call 45; refine HNm.out.mono ?_; rintro z w' ⟨rfl, rfl⟩))
          go_ret
          exact ⟨by rw [hm]; rfl, below_grown Hgw1.out⟩
      · go_wp2_with (first | (go_at_call 44; refine HHd.out.mono ?_; rintro z w' ⟨rfl, rfl⟩) | (go_at_call 45; refine HNm.out.mono ?_; rintro z w' ⟨rfl, rfl⟩))
        go_roundw
        case rel => exact ⟨_, cnt1, Hrg1.out, Hgw1.out, fun a v hv hl => by
          by_cases ha : a = x
          · subst ha; rw [HOX.out] at hv; cases hv; exact Hhn.out
          · refine Hno.out a v hv ?_
            have h2 : (Lit.int .i64 a).sameKey (Lit.int .i64 x) = false := by
              rw [Bool.eq_false_iff]
              intro h3
              have := WideAt.sameKey_eq h3
              cases this; exact ha rfl
            simpa [h2] using hl⟩
        case measure => rw [Hrg1.out.left_eq, Hrg.out.left_eq]; exact Hlt.out
end

end Go.Proofs.Ytgjbhcnadenojaa
