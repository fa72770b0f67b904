/- same; RegsPlays: the walk. Conditions: those stated in each theorem. -/
import Derived.Test.YtcammonbhehakaaRegM
namespace Go.Proofs.Ytcammonbhehakaa
open Go.RowKit Go.BigFrame

/-- Both files, and a box of eight words. -/
def PSt (w0 w : World) (a q : Nat) (f : Fl) (b5 : Nat) (e : L8) : Prop := FlAt w a f ∧ RfAt w q f ∧ Below w0.heap.size w0 w ∧ Holds w b5 27 e.cells
theorem PSt.idle {w0 w w' : World} {a q : Nat} {f : Fl} {b5 : Nat} {e : L8} (h : PSt w0 w a q f b5 e) (hb : Below w.heap.size w w') : PSt w0 w' a q f b5 e :=
  ⟨h.1.below hb, Holds.below h.2.1 hb, h.2.2.1.trans (hb.mono h.2.2.1.size), h.2.2.2.below hb⟩
theorem pall {w0 w : World} {a q : Nat} {f : Fl} {b5 : Nat} {e : L8} (h : PSt w0 w a q f b5 e) : Calls Try.prog 19 #[.pointer (some ⟨a, 0, none⟩)] w fun o w' => o = .returned (.agg #[.int .u64 f.m.r.x0, .int .u64 f.m.r.x1, .int .u64 f.m.r.x2, .int .u64 f.m.r.x3, .int .u64 f.m.r.x4, .int .u64 f.m.r.x5, .int .u64 f.m.r.x6, .int .u64 f.m.r.x7]) ∧ PSt w0 w' a q f b5 e :=
  (all_any h.1).mono fun _ _ ⟨h1, h2⟩ => ⟨h1, h.idle h2⟩
theorem ppc {w0 w : World} {a q : Nat} {f : Fl} {b5 : Nat} {e : L8} (h : PSt w0 w a q f b5 e) : Calls Try.prog 20 #[.pointer (some ⟨a, 0, none⟩)] w fun o w' => o = .returned (.int .i64 f.m.pc) ∧ w = w' := pc_any h.1

set_option maxRecDepth 100000 in
set_option maxHeartbeats 4000000 in
theorem same_ok {w : World} {a q : Nat} {f : Fl} (h : FlAt w a f) (k : RfAt w q f) :
    Calls Try.prog 11 #[.pointer (some ⟨a, 0, none⟩), .pointer (some ⟨q, 0, none⟩)] w fun e w' => e = .returned (.bool true) ∧ Below w.heap.size w w' := by
  have HA := Lib.hid h
  have HQ := Lib.hid k
  clear h k
  go_enter Try.func11, Try.ntmps11
  go_wp2_with fail
  refine (point_any HA.out).mono ?_
  rintro e V ⟨rfl, hb⟩
  obtain ⟨W, eW, hb2, hT, hr⟩ := lbox V f.point.r
  have HE := Lib.hid eW; clear eW
  have HT := Lib.hid hT; clear hT
  have hbb := hb.trans (hb2.mono hb.size)
  have HP : Hid (PSt w W.drew a q f V.heap.size f.point.r) := Lib.hid (PSt.idle ⟨HA.out.below hbb, Holds.below HQ.out hbb, hbb, by rw [HE.out]; exact (Holds.new V 27 L8.zero.cells).sets f.point.r.cells 0⟩ (below_drew1 (Below.refl _ W)))
  clear hb hb2 hr hbb HA HQ
  go_wp2_with (refine wpList_store_mid rfl 27 (.tmp 5) (.tmp 11) rfl V.heap.size 0 f.point.r.cells.toArray rfl rfl ?_ Try.sizeRegs (oneL8 _) ?_; exact HT.out; change wpList _ _ _ _ _ ((V.alloc (.cells L8.zero.cells.toArray 27)).setCells V.heap.size 0 f.point.r.cells); rw [← HE.out])
  generalize V.heap.size = b5 at *
  clear HE HT
  have HK : Hid (∀ V, PSt w V a q f b5 f.point.r → V.cell? ⟨b5, 0, none⟩ = some (.int .u64 f.point.r.x0) ∧ V.cell? ⟨b5, 1, none⟩ = some (.int .u64 f.point.r.x1) ∧ V.cell? ⟨b5, 2, none⟩ = some (.int .u64 f.point.r.x2) ∧ V.cell? ⟨b5, 3, none⟩ = some (.int .u64 f.point.r.x3) ∧ V.cell? ⟨b5, 4, none⟩ = some (.int .u64 f.point.r.x4) ∧ V.cell? ⟨b5, 5, none⟩ = some (.int .u64 f.point.r.x5) ∧ V.cell? ⟨b5, 6, none⟩ = some (.int .u64 f.point.r.x6) ∧ V.cell? ⟨b5, 7, none⟩ = some (.int .u64 f.point.r.x7) ∧ V.cell? ⟨q, 0, none⟩ = some (.int .u64 f.m.r.x0) ∧ V.cell? ⟨q, 1, none⟩ = some (.int .u64 f.m.r.x1) ∧ V.cell? ⟨q, 2, none⟩ = some (.int .u64 f.m.r.x2) ∧ V.cell? ⟨q, 3, none⟩ = some (.int .u64 f.m.r.x3) ∧ V.cell? ⟨q, 4, none⟩ = some (.int .u64 f.m.r.x4) ∧ V.cell? ⟨q, 5, none⟩ = some (.int .u64 f.m.r.x5) ∧ V.cell? ⟨q, 6, none⟩ = some (.int .u64 f.m.r.x6) ∧ V.cell? ⟨q, 7, none⟩ = some (.int .u64 f.m.r.x7) ∧ V.cell? ⟨q, 8, none⟩ = some (.int .i64 f.m.pc) ∧ V.cell? ⟨q, 10, none⟩ = some (.int .u64 f.point.r.x0) ∧ V.cell? ⟨q, 11, none⟩ = some (.int .u64 f.point.r.x1) ∧ V.cell? ⟨q, 12, none⟩ = some (.int .u64 f.point.r.x2) ∧ V.cell? ⟨q, 13, none⟩ = some (.int .u64 f.point.r.x3) ∧ V.cell? ⟨q, 14, none⟩ = some (.int .u64 f.point.r.x4) ∧ V.cell? ⟨q, 15, none⟩ = some (.int .u64 f.point.r.x5) ∧ V.cell? ⟨q, 16, none⟩ = some (.int .u64 f.point.r.x6) ∧ V.cell? ⟨q, 17, none⟩ = some (.int .u64 f.point.r.x7) ∧ V.cell? ⟨q, 18, none⟩ = some (.int .i64 f.point.pc) ∧ V.cell? ⟨q, 9, none⟩ = some (.bool f.pt.isSome)) := Lib.hid (fun V h => by
    have k := h.2.2.2
    exact ⟨k.cell (i := 0) rfl, k.cell (i := 1) rfl, k.cell (i := 2) rfl, k.cell (i := 3) rfl, k.cell (i := 4) rfl, k.cell (i := 5) rfl, k.cell (i := 6) rfl, k.cell (i := 7) rfl, RfAt.c h.2.1 0 rfl, RfAt.c h.2.1 1 rfl, RfAt.c h.2.1 2 rfl, RfAt.c h.2.1 3 rfl, RfAt.c h.2.1 4 rfl, RfAt.c h.2.1 5 rfl, RfAt.c h.2.1 6 rfl, RfAt.c h.2.1 7 rfl, RfAt.c h.2.1 8 rfl, RfAt.c h.2.1 10 rfl, RfAt.c h.2.1 11 rfl, RfAt.c h.2.1 12 rfl, RfAt.c h.2.1 13 rfl, RfAt.c h.2.1 14 rfl, RfAt.c h.2.1 15 rfl, RfAt.c h.2.1 16 rfl, RfAt.c h.2.1 17 rfl, RfAt.c h.2.1 18 rfl, RfAt.c h.2.1 9 rfl⟩)
  go_region_held3 (fun V => V.cell? ⟨b5, 0, none⟩ = some (.int .u64 f.point.r.x0) ∧ V.cell? ⟨b5, 1, none⟩ = some (.int .u64 f.point.r.x1) ∧ V.cell? ⟨b5, 2, none⟩ = some (.int .u64 f.point.r.x2) ∧ V.cell? ⟨b5, 3, none⟩ = some (.int .u64 f.point.r.x3) ∧ V.cell? ⟨b5, 4, none⟩ = some (.int .u64 f.point.r.x4) ∧ V.cell? ⟨b5, 5, none⟩ = some (.int .u64 f.point.r.x5) ∧ V.cell? ⟨b5, 6, none⟩ = some (.int .u64 f.point.r.x6) ∧ V.cell? ⟨b5, 7, none⟩ = some (.int .u64 f.point.r.x7) ∧ V.cell? ⟨q, 0, none⟩ = some (.int .u64 f.m.r.x0) ∧ V.cell? ⟨q, 1, none⟩ = some (.int .u64 f.m.r.x1) ∧ V.cell? ⟨q, 2, none⟩ = some (.int .u64 f.m.r.x2) ∧ V.cell? ⟨q, 3, none⟩ = some (.int .u64 f.m.r.x3) ∧ V.cell? ⟨q, 4, none⟩ = some (.int .u64 f.m.r.x4) ∧ V.cell? ⟨q, 5, none⟩ = some (.int .u64 f.m.r.x5) ∧ V.cell? ⟨q, 6, none⟩ = some (.int .u64 f.m.r.x6) ∧ V.cell? ⟨q, 7, none⟩ = some (.int .u64 f.m.r.x7) ∧ V.cell? ⟨q, 8, none⟩ = some (.int .i64 f.m.pc) ∧ V.cell? ⟨q, 10, none⟩ = some (.int .u64 f.point.r.x0) ∧ V.cell? ⟨q, 11, none⟩ = some (.int .u64 f.point.r.x1) ∧ V.cell? ⟨q, 12, none⟩ = some (.int .u64 f.point.r.x2) ∧ V.cell? ⟨q, 13, none⟩ = some (.int .u64 f.point.r.x3) ∧ V.cell? ⟨q, 14, none⟩ = some (.int .u64 f.point.r.x4) ∧ V.cell? ⟨q, 15, none⟩ = some (.int .u64 f.point.r.x5) ∧ V.cell? ⟨q, 16, none⟩ = some (.int .u64 f.point.r.x6) ∧ V.cell? ⟨q, 17, none⟩ = some (.int .u64 f.point.r.x7) ∧ V.cell? ⟨q, 18, none⟩ = some (.int .i64 f.point.pc) ∧ V.cell? ⟨q, 9, none⟩ = some (.bool f.pt.isSome)) (first | with_reducible exact HK.out _ HP.out | with_reducible exact HK.out _ hR) (first | (go_at_call 19; (with_reducible refine (pall HP.out).mono ?_); rintro e V ⟨rfl, hR⟩) | (go_at_call 20; (with_reducible refine (ppc hR).mono ?_); rintro e V ⟨rfl, rfl⟩))
  all_goals
    have HB := Lib.hid hR.2.2.1
    clear hR HP HK
    go_wp2
    go_ret
    exact ⟨by simp, HB.out⟩

theorem typed_ref {w : World} {q : Nat} {f : Fl} (h : RfAt w q f) : Holds w q 29 f.rcells := h
/-- What do leaves of what lies apart. -/
theorem apart_file {w w' : World} {a q c : Nat} {f g : Fl} (h : FlAt w a f) (k : RfAt w q f) (hc : FlAt w c g) (hca : c ≠ a) (ht : Tch (fun x => x = a ∨ x = q) w w') : FlAt w' c g := by
  obtain ⟨L, hL⟩ := h.typed
  obtain ⟨M, hM⟩ := hc.typed
  refine hc.frame ht (fun e => e.elim hca (fun e => (hM.ne (typed_ref k) (by decide)) e)) (fun x N hN e => e.elim (fun e => (hN.ne hL (by decide)) e) (fun e => (hN.ne (typed_ref k) (by decide)) e))
theorem apart_ref {w w' : World} {a q d : Nat} {f g : Fl} (h : FlAt w a f) (hd : RfAt w d g) (hdq : d ≠ q) (ht : Tch (fun x => x = a ∨ x = q) w w') : RfAt w' d g := by
  obtain ⟨L, hL⟩ := h.typed
  exact ht.holds (fun e => e.elim (fun e => (Holds.ne hd hL (by decide)) e) hdq) hd

/-- A pair of files behind what lay there at first. -/
structure Pair (w0 w : World) (a q : Nat) (f : Fl) : Prop where
  file : FlAt w a f
  ref : RfAt w q f
  la : w0.heap.size ≤ a
  lq : w0.heap.size ≤ q

set_option maxRecDepth 100000 in
set_option maxHeartbeats 1000000 in
theorem rplays_long (a0 : Option Addr) (l0 c0 : Nat) (w : World) (hl : 1000 < l0) :
    Calls Try.prog 3 #[.slice a0 l0 c0] w fun e w' => e = .returned (.bool true) ∧ Below w.heap.size w w' := by
  have d0 : decide ((1000 : Int) < (l0 : Int)) = true := by simp; omega
  go_enter Try.func3, Try.ntmps3
  go_wp2
  go_ret
  exact ⟨rfl, Below.refl _ _⟩

set_option maxRecDepth 100000 in
set_option maxHeartbeats 4000000 in
theorem rplays_ok (a0 : Option Addr) (xs : List OpV) (c0 : Nat) (w : World) (hx : RowsIn w a0 3 OpV.cells xs) (hl0 : xs.length ≤ 1000) :
    Calls Try.prog 3 #[.slice a0 xs.length c0] w fun e w' => e = .returned (.bool true) ∧ Below w.heap.size w w' := by
  have HX := Lib.hid hx; clear hx
  have d0 : decide ((1000 : Int) < (xs.length : Int)) = false := by simp; omega
  go_enter Try.func3, Try.ntmps3
  go_wp2_with fail
  refine (new_any w).mono ?_
  rintro e w1 ⟨a, rfl, ha, h, hb⟩
  have hb1 : Below w1.heap.size w1 (w1.alloc (.cells Fl.zero.rcells.toArray 29)) := (Below.refl _ w1).alloc (Nat.le_refl _) _
  have hP : Pair w (w1.alloc (.cells Fl.zero.rcells.toArray 29)) a w1.heap.size Fl.zero ∧ Below w.heap.size w (w1.alloc (.cells Fl.zero.rcells.toArray 29)) :=
    ⟨⟨h.below hb1, Holds.new w1 29 Fl.zero.rcells, ha, hb.size⟩, hb.trans (hb1.mono hb.size)⟩
  have HP := Lib.hid hP
  clear h hb ha hb1 hP d0
  go_wp2
  change Code.wp _ _ _ _ (w1.alloc (.cells Fl.zero.rcells.toArray 29))
  generalize w1.alloc (.cells Fl.zero.rcells.toArray 29) = w2 at *
  generalize w1.heap.size = q at *
  go_loopw [5] (fun i wr => ∃ (k : Nat) (f : Fl), k ≤ xs.length ∧ i = .int .i64 k ∧ Pair w wr a q f ∧ Below w.heap.size w wr) (fun i _ => xs.length - (intOf i).toNat)
  case atStart => exact ⟨0, Fl.zero, by omega, rfl, HP.out⟩
  case round =>
    clear HP
    obtain ⟨k, f, hk, rfl, hs⟩ := hrel
    have HS := Lib.hid hs; clear hs
    by_cases hlt : k < xs.length
    · obtain ⟨x, hxk⟩ : ∃ x, xs[k]? = some x := ⟨xs[k], List.getElem?_eq_getElem hlt⟩
      obtain ⟨q0, c, rfl, hq, hr⟩ := HX.out.row hxk
      have hr : wr.rangeAt q0 (c + k * 3) x.cells := fun i v hi => by
        rw [World.cell?_of_block (a := ⟨q0, c + k * 3 + i, none⟩) (HS.out.2.block q0 hq)]
        exact hr i v hi
      have Hr := Lib.hid hr; clear hr
      go_wp2_with (first | (refine wpList_load_mid rfl 32 (.tmp 22) rfl q0 (c + k * 3) rfl x.cells _ ?_ Try.underlying32 rfl Try.sizeOp ?_; exact Hr.out) | (go_at_call 10; refine (do_any HS.out.1.file HS.out.1.ref x).mono ?_; rintro e V ⟨rfl, h1, h2, h3⟩))
      have HV : Hid (Pair w V a q (stepF f x) ∧ Below w.heap.size w V) := Lib.hid ⟨⟨h1, h2, HS.out.1.la, HS.out.1.lq⟩, HS.out.2.trans (h3.below HS.out.2.size (fun c e => e.elim (fun e => e ▸ HS.out.1.la) (fun e => e ▸ HS.out.1.lq)))⟩
      clear h1 h2 h3 HS
      go_wp2
      go_roundw
      case rel => exact ⟨k + 1, _, by omega, by go_num, HV.out⟩
      case measure => simp [intOf]; omega
    · have : k = xs.length := by omega
      subst this
      go_wp2_with fail
      refine (same_ok HS.out.1.file HS.out.1.ref).mono ?_
      rintro e V ⟨rfl, h⟩
      have HB := Lib.hid (HS.out.2.trans (h.mono HS.out.2.size)); clear h
      go_wp2
      go_ret
      exact ⟨rfl, HB.out⟩

theorem rplays_any (a0 : Option Addr) (l0 c0 : Nat) (w : World) (hx : Came w a0 l0 opKinds) :
    Calls Try.prog 3 #[.slice a0 l0 c0] w fun e w' => e = .returned (.bool true) ∧ Below w.heap.size w w' := by
  by_cases hl : 1000 < l0
  · exact rplays_long a0 l0 c0 w hl
  · obtain ⟨xs, rfl, h1⟩ := ops_in hx
    exact rplays_ok a0 xs c0 w h1 (by omega)

end Go.Proofs.Ytcammonbhehakaa
