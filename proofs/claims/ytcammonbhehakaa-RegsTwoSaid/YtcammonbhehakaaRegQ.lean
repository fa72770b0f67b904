/- RegsTwo: the walk. It answers true, and turns nothing that was there. -/
import Derived.Test.YtcammonbhehakaaRegP
namespace Go.Proofs.Ytcammonbhehakaa
open Go.RowKit Go.BigFrame

def boolKinds : List CK := [⟨1, .i8⟩]
def bcells (b : Bool) : List Value := [.bool b]
theorem bool_mk (vs : List Value) (h : Fit boolKinds vs) : ∃ x : Bool, bcells x = vs ∧ True := by
  obtain ⟨h1, h2⟩ := h
  match vs, h1 with
  | [a], _ =>
    obtain ⟨b, rfl⟩ := h2 0 _ _ rfl rfl
    exact ⟨b, rfl, trivial⟩
theorem bools_in {w : World} {a : Option Addr} {len : Nat} (h : Came w a len boolKinds) : ∃ xs : List Bool, xs.length = len ∧ RowsIn w a 1 bcells xs := by
  obtain ⟨xs, h1, h2, _⟩ := rows_in h (by simp [boolKinds]) bool_mk
  exact ⟨xs, h1, h2⟩

/-- Two pairs of files. -/
structure Two (w0 w : World) (a q c d : Nat) (f g : Fl) : Prop where
  one : Pair w0 w a q f
  two : Pair w0 w c d g
  ac : a ≠ c
  qd : q ≠ d
  below : Below w0.heap.size w0 w
theorem pair_below {w0 w w' : World} {a q : Nat} {f g : Fl} (h : Pair w0 w a q f) (hb : Below w0.heap.size w0 w) (k : DPost w a q g (.returned (.bool true)) w') : Pair w0 w' a q g ∧ Below w0.heap.size w0 w' :=
  ⟨⟨k.2.1, k.2.2.1, h.la, h.lq⟩, hb.trans (k.2.2.2.below hb.size (fun _ e => e.elim (fun e => e ▸ h.la) (fun e => e ▸ h.lq)))⟩
theorem two_one {w0 w w' : World} {a q c d : Nat} {f g f' : Fl} (h : Two w0 w a q c d f g) (k : DPost w a q f' (.returned (.bool true)) w') : Two w0 w' a q c d f' g :=
  ⟨(pair_below h.one h.below k).1, ⟨apart_file h.one.file h.one.ref h.two.file h.ac.symm k.2.2.2, apart_ref h.one.file h.two.ref h.qd.symm k.2.2.2, h.two.la, h.two.lq⟩, h.ac, h.qd, (pair_below h.one h.below k).2⟩
theorem two_two {w0 w w' : World} {a q c d : Nat} {f g g' : Fl} (h : Two w0 w a q c d f g) (k : DPost w c d g' (.returned (.bool true)) w') : Two w0 w' a q c d f g' :=
  ⟨⟨apart_file h.two.file h.two.ref h.one.file h.ac k.2.2.2, apart_ref h.two.file h.one.ref h.qd k.2.2.2, h.one.la, h.one.lq⟩, (pair_below h.two h.below k).1, h.ac, h.qd, (pair_below h.two h.below k).2⟩

set_option maxRecDepth 100000 in
set_option maxHeartbeats 1000000 in
theorem rtwo_long (a0 a1 : Option Addr) (l0 l1 c0 c1 : Nat) (w : World) (hl : 1000 < l0) :
    Calls Try.prog 4 #[.slice a0 l0 c0, .slice a1 l1 c1] w fun e w' => e = .returned (.bool true) ∧ Below w.heap.size w w' := by
  have d0 : decide ((1000 : Int) < (l0 : Int)) = true := by simp; omega
  go_enter Try.func4, Try.ntmps4
  go_wp2
  go_ret
  exact ⟨rfl, Below.refl _ _⟩

set_option maxRecDepth 100000 in
set_option maxHeartbeats 4000000 in
theorem rtwo_ok (a0 a1 : Option Addr) (xs : List OpV) (bs : List Bool) (c0 c1 : Nat) (w : World) (hx : RowsIn w a0 3 OpV.cells xs) (hy : RowsIn w a1 1 bcells bs) (hl0 : xs.length ≤ 1000) :
    Calls Try.prog 4 #[.slice a0 xs.length c0, .slice a1 bs.length c1] w fun e w' => e = .returned (.bool true) ∧ Below w.heap.size w w' := by
  have HX := Lib.hid hx; clear hx
  have HY := Lib.hid hy; clear hy
  have d0 : decide ((1000 : Int) < (xs.length : Int)) = false := by simp; omega
  go_enter Try.func4, Try.ntmps4
  go_wp2_with fail
  refine (new_any w).mono ?_
  rintro e w1 ⟨a, rfl, ha, h1, hb1⟩
  go_wp2_with fail
  refine (new_any w1).mono ?_
  rintro e w2 ⟨c, rfl, hc, h2, hb2⟩
  have hb3 : Below w2.heap.size w2 (w2.alloc (.cells Fl.zero.rcells.toArray 29)) := (Below.refl _ w2).alloc (Nat.le_refl _) _
  have hb4 : Below w2.heap.size w2 ((w2.alloc (.cells Fl.zero.rcells.toArray 29)).alloc (.cells Fl.zero.rcells.toArray 29)) := hb3.alloc (by simp) _
  have hP : Two w ((w2.alloc (.cells Fl.zero.rcells.toArray 29)).alloc (.cells Fl.zero.rcells.toArray 29)) a w2.heap.size c (w2.heap.size + 1) Fl.zero Fl.zero :=
    ⟨⟨(h1.below hb2).below hb4, (Holds.new w2 29 Fl.zero.rcells).alloc _, ha, Nat.le_trans hb1.size hb2.size⟩,
      ⟨h2.below hb4, by have := Holds.new (w2.alloc (.cells Fl.zero.rcells.toArray 29)) 29 Fl.zero.rcells; rw [World.size_alloc] at this; exact this, Nat.le_trans hb1.size hc, by have := hb1.size; have := hb2.size; omega⟩,
      Nat.ne_of_lt (Nat.lt_of_lt_of_le h1.lt hc), by omega, (hb1.trans (hb2.mono hb1.size)).trans (hb4.mono (Nat.le_trans hb1.size hb2.size))⟩
  have HP := Lib.hid hP
  clear h1 h2 hb1 hb2 hb3 hb4 ha hc hP d0
  go_wp2
  change Code.wp _ _ _ _ ((w2.alloc (.cells Fl.zero.rcells.toArray 29)).alloc (.cells Fl.zero.rcells.toArray 29))
  generalize (w2.alloc (.cells Fl.zero.rcells.toArray 29)).alloc (.cells Fl.zero.rcells.toArray 29) = w3 at *
  generalize hq1 : w2.heap.size + 1 = d at *
  generalize w2.heap.size = q at *
  clear hq1
  go_loopw [9] (fun i wr => ∃ (k : Nat) (f g : Fl), k ≤ xs.length ∧ i = .int .i64 k ∧ Two w wr a q c d f g) (fun i _ => xs.length - (intOf i).toNat)
  case atStart => exact ⟨0, Fl.zero, Fl.zero, by omega, rfl, HP.out⟩
  case round =>
    clear HP
    obtain ⟨k, f, g, hk, rfl, hs⟩ := hrel
    have HS := Lib.hid hs; clear hs
    by_cases hlt : k < xs.length
    · obtain ⟨x, hxk⟩ : ∃ x, xs[k]? = some x := ⟨xs[k], List.getElem?_eq_getElem hlt⟩
      obtain ⟨q0, c9, rfl, hq, hr⟩ := HX.out.row hxk
      have hr : wr.rangeAt q0 (c9 + k * 3) x.cells := fun i v hi => by
        rw [World.cell?_of_block (a := ⟨q0, c9 + k * 3 + i, none⟩) (HS.out.below.block q0 hq)]
        exact hr i v hi
      have Hr := Lib.hid hr; clear hr
      have one : ∀ (V : World) (_ : DPost wr a q (stepF f x) (.returned (.bool true)) V), Hid (Two w V a q c d (stepF f x) g) := fun _ h => Lib.hid (two_one HS.out h)
      have two : ∀ (V : World) (_ : DPost wr c d (stepF g x) (.returned (.bool true)) V), Hid (Two w V a q c d f (stepF g x)) := fun _ h => Lib.hid (two_two HS.out h)
      have One := Lib.hid one; clear one
      have Twoo := Lib.hid two; clear two
      by_cases hlb : k < bs.length
      · obtain ⟨b, hbk⟩ : ∃ b, bs[k]? = some b := ⟨bs[k], List.getElem?_eq_getElem hlb⟩
        obtain ⟨q1, c8, rfl, hq1, hr1⟩ := HY.out.row hbk
        have cb : wr.cell? ⟨q1, c8 + k, none⟩ = some (.bool b) := by
          rw [World.cell?_of_block (a := ⟨q1, c8 + k, none⟩) (HS.out.below.block q1 hq1)]
          have := hr1 0 _ rfl
          rw [Nat.mul_one] at this
          exact this
        have e1 : decide ((k : Int) < (bs.length : Int)) = true := by simp; omega
        cases b
        · go_wp2_with (first | (refine wpList_load_mid rfl 32 (.tmp 47) rfl q0 (c9 + k * 3) rfl x.cells _ ?_ Try.underlying32 rfl Try.sizeOp ?_; exact Hr.out) | (go_at_call 10; refine (do_any HS.out.one.file HS.out.one.ref x).mono ?_; rintro e V ⟨rfl, h1⟩; have HV := One.out _ ⟨rfl, h1⟩; clear h1))
          go_wp2
          go_roundw
          case rel => exact ⟨k + 1, _, _, by omega, by go_num, HV.out⟩
          case measure => simp [intOf]; omega
        · go_wp2_with (first | (refine wpList_load_mid rfl 32 (.tmp 39) rfl q0 (c9 + k * 3) rfl x.cells _ ?_ Try.underlying32 rfl Try.sizeOp ?_; exact Hr.out) | (go_at_call 10; refine (do_any HS.out.two.file HS.out.two.ref x).mono ?_; rintro e V ⟨rfl, h1⟩; have HV := Twoo.out _ ⟨rfl, h1⟩; clear h1))
          go_wp2
          go_roundw
          case rel => exact ⟨k + 1, _, _, by omega, by go_num, HV.out⟩
          case measure => simp [intOf]; omega
      · have e1 : decide ((k : Int) < (bs.length : Int)) = false := by simp; omega
        go_wp2_with (first | (refine wpList_load_mid rfl 32 (.tmp 47) rfl q0 (c9 + k * 3) rfl x.cells _ ?_ Try.underlying32 rfl Try.sizeOp ?_; exact Hr.out) | (go_at_call 10; refine (do_any HS.out.one.file HS.out.one.ref x).mono ?_; rintro e V ⟨rfl, h1⟩; have HV := One.out _ ⟨rfl, h1⟩; clear h1))
        go_wp2
        go_roundw
        case rel => exact ⟨k + 1, _, _, by omega, by go_num, HV.out⟩
        case measure => simp [intOf]; omega
    · have : k = xs.length := by omega
      subst this
      go_wp2_with fail
      refine (same_ok HS.out.one.file HS.out.one.ref).mono ?_
      rintro e V ⟨rfl, h⟩
      have HF := Lib.hid (And.intro (HS.out.two.file.below h) (Holds.below HS.out.two.ref h))
      have HB := Lib.hid (HS.out.below.trans (h.mono HS.out.below.size)); clear h
      go_wp2_with fail
      refine (same_ok HF.out.1 HF.out.2).mono ?_
      rintro e V2 ⟨rfl, h⟩
      have HC := Lib.hid (HB.out.trans (h.mono HB.out.size)); clear h
      go_wp2
      go_ret
      exact ⟨rfl, HC.out⟩

theorem rtwo_any (a0 a1 : Option Addr) (l0 l1 c0 c1 : Nat) (w : World) (hx : Came w a0 l0 opKinds) (hy : Came w a1 l1 boolKinds) :
    Calls Try.prog 4 #[.slice a0 l0 c0, .slice a1 l1 c1] w fun e w' => e = .returned (.bool true) ∧ Below w.heap.size w w' := by
  by_cases hl : 1000 < l0
  · exact rtwo_long a0 a1 l0 l1 c0 c1 w hl
  · obtain ⟨xs, rfl, h1⟩ := ops_in hx
    obtain ⟨bs, rfl, h2⟩ := bools_in hy
    exact rtwo_ok a0 a1 xs bs c0 c1 w h1 h2 (by omega)

end Go.Proofs.Ytcammonbhehakaa
