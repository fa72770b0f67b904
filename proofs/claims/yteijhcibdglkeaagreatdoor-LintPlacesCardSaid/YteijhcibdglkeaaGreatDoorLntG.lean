/- What is found at a place, by all ways that come there. Conditions: those stated in each theorem. -/
import Derived.Test.YteijhcibdglkeaaGreatDoorLntF
import Derived.Deep.CutRange
namespace Go.Proofs.YteijhcibdglkeaaGreatDoor
open Go.RowKit Go.BigFrame Go.Shelf

/-! ### Plain -/
def ninC (g : Nat → Bool) : List Value := [.bool (g 0), .bool (g 1), .bool (g 2), .bool (g 3), .bool (g 4), .bool (g 5), .bool (g 6), .bool (g 7), .bool (g 8)]
theorem fCells_nin (n : Nat) (i : In) (s : Spot) (m : Nat) : fCells n i s m = ninC (fun k => fAt n k i s m) := rfl
def g0 : Nat → Bool := fun k => k == 8
def clr (g : Nat → Bool) : Nat → Bool := fun k => if k = 8 then false else g k
def orG (g : Nat → Bool) (v : Nat → Bool) (j : Nat) : Nat → Bool := fun k => if k < j then g k || v k else g k
def stepG (n : Nat) (i : In) (f : MV) (p : Nat) (w : Bool) (g : Nat → Bool) : Nat → Bool := match f (p, w) with | none => g | some m => orG (clr g) (fun k => fAt n k i (p, w) m) 9
theorem stepG_all (n : Nat) (i : In) (f : MV) (p k : Nat) (hk : k < 9) : stepG n i f p true (stepG n i f p false g0) k = findP n k i f p := by
  have hv8 : ∀ (w : Bool) (m : Nat), fAt n 8 i (p, w) m = false := fun w m => rfl
  unfold stepG findP fWay
  by_cases h8 : k = 8
  · subst h8
    rw [if_pos rfl]
    cases e1 : f (p, false) with
    | none =>
      cases e2 : f (p, true) with
      | none => rfl
      | some m => simp only [orG, clr, hv8]; rfl
    | some m1 =>
      cases e2 : f (p, true) with
      | none => simp only [orG, clr, hv8]; rfl
      | some m => simp only [orG, clr, hv8]; rfl
  · rw [if_neg h8]
    have hg : g0 k = false := by simp [g0, h8]
    cases e1 : f (p, false) with
    | none =>
      cases e2 : f (p, true) with
      | none => simpa using hg
      | some m => simp [orG, clr, hk, h8, hg]
    | some m1 =>
      cases e2 : f (p, true) with
      | none => simp [orG, clr, hk, h8, hg]
      | some m => simp [orG, clr, hk, h8, hg]
theorem orG_zero (g v : Nat → Bool) : orG g v 0 = g := by funext k; simp [orG]
theorem ninC_congr {g h : Nat → Bool} (e : ∀ k, k < 9 → g k = h k) : ninC g = ninC h := by
  unfold ninC
  rw [e 0 (by omega), e 1 (by omega), e 2 (by omega), e 3 (by omega), e 4 (by omega), e 5 (by omega), e 6 (by omega), e 7 (by omega), e 8 (by omega)]
theorem ninC_clr (g : Nat → Bool) : (ninC g).set 8 (.bool false) = ninC (clr g) := rfl
theorem ninC_step (g v : Nat → Bool) {j : Nat} (hj : j < 9) : (ninC (orG g v j)).set j (.bool (g j || v j)) = ninC (orG g v (j + 1)) := by
  match j, hj with
  | 0, _ | 1, _ | 2, _ | 3, _ | 4, _ | 5, _ | 6, _ | 7, _ | 8, _ => rfl
theorem ninC_at (g v : Nat → Bool) {j : Nat} (hj : j < 9) : (ninC (orG g v j))[j]? = some (.bool (g j)) := by
  match j, hj with
  | 0, _ | 1, _ | 2, _ | 3, _ | 4, _ | 5, _ | 6, _ | 7, _ | 8, _ => rfl

def gsP (n : Nat) (i : In) (f : MV) (p : Nat) : Nat → Nat → Bool
  | 0 => g0
  | 1 => stepG n i f p false g0
  | _ => stepG n i f p true (stepG n i f p false g0)
/-- The walk's state: what it has gathered. -/
structure FoS (W : World) (N : Nat) (g : Nat → Bool) (V : World) : Prop where
  below : Below N W V
  res : Holds V N 86 (ninC fun _ => false)
  all : Holds V (N + 1) 86 (ninC g)
theorem FoS.next {W V V' : World} {N : Nat} {g : Nat → Bool} (h : FoS W N g V) (hN : W.heap.size = N) (k : Below V.heap.size V V') : FoS W N g V' :=
  ⟨h.below.trans (k.mono (by rw [← hN]; exact h.below.size)), h.res.below k, h.all.below k⟩
theorem FoS.put {W V : World} {N : Nat} {g h : Nat → Bool} {j : Nat} {b : Bool} (s : FoS W N g V) (e : (ninC g).set j (.bool b) = ninC h) : FoS W N h (V.setCell ⟨N + 1, j, none⟩ (.bool b)) :=
  ⟨s.below.setCell (by simp) _, s.res.other (by simp) _, by rw [← e]; exact s.all.set j _⟩

theorem Tryz.idxTwo0 (V : World) : (Instr.index 106 (.agg #[.bool false, .bool true]) (.int .i64 0)).run Tryz.prog V = .ok (.bool false) V := by kernel_rfl
theorem Tryz.idxTwo1 (V : World) : (Instr.index 106 (.agg #[.bool false, .bool true]) (.int .i64 1)).run Tryz.prog V = .ok (.bool true) V := by kernel_rfl
theorem Tryz.idxNine0 (V : World) (v0 v1 v2 v3 v4 v5 v6 v7 v8 : Bool) : (Instr.index 86 (.agg #[.bool v0, .bool v1, .bool v2, .bool v3, .bool v4, .bool v5, .bool v6, .bool v7, .bool v8]) (.int .i64 0)).run Tryz.prog V = .ok (.bool v0) V := by kernel_rfl
theorem Tryz.idxNine1 (V : World) (v0 v1 v2 v3 v4 v5 v6 v7 v8 : Bool) : (Instr.index 86 (.agg #[.bool v0, .bool v1, .bool v2, .bool v3, .bool v4, .bool v5, .bool v6, .bool v7, .bool v8]) (.int .i64 1)).run Tryz.prog V = .ok (.bool v1) V := by kernel_rfl
theorem Tryz.idxNine2 (V : World) (v0 v1 v2 v3 v4 v5 v6 v7 v8 : Bool) : (Instr.index 86 (.agg #[.bool v0, .bool v1, .bool v2, .bool v3, .bool v4, .bool v5, .bool v6, .bool v7, .bool v8]) (.int .i64 2)).run Tryz.prog V = .ok (.bool v2) V := by kernel_rfl
theorem Tryz.idxNine3 (V : World) (v0 v1 v2 v3 v4 v5 v6 v7 v8 : Bool) : (Instr.index 86 (.agg #[.bool v0, .bool v1, .bool v2, .bool v3, .bool v4, .bool v5, .bool v6, .bool v7, .bool v8]) (.int .i64 3)).run Tryz.prog V = .ok (.bool v3) V := by kernel_rfl
theorem Tryz.idxNine4 (V : World) (v0 v1 v2 v3 v4 v5 v6 v7 v8 : Bool) : (Instr.index 86 (.agg #[.bool v0, .bool v1, .bool v2, .bool v3, .bool v4, .bool v5, .bool v6, .bool v7, .bool v8]) (.int .i64 4)).run Tryz.prog V = .ok (.bool v4) V := by kernel_rfl
theorem Tryz.idxNine5 (V : World) (v0 v1 v2 v3 v4 v5 v6 v7 v8 : Bool) : (Instr.index 86 (.agg #[.bool v0, .bool v1, .bool v2, .bool v3, .bool v4, .bool v5, .bool v6, .bool v7, .bool v8]) (.int .i64 5)).run Tryz.prog V = .ok (.bool v5) V := by kernel_rfl
theorem Tryz.idxNine6 (V : World) (v0 v1 v2 v3 v4 v5 v6 v7 v8 : Bool) : (Instr.index 86 (.agg #[.bool v0, .bool v1, .bool v2, .bool v3, .bool v4, .bool v5, .bool v6, .bool v7, .bool v8]) (.int .i64 6)).run Tryz.prog V = .ok (.bool v6) V := by kernel_rfl
theorem Tryz.idxNine7 (V : World) (v0 v1 v2 v3 v4 v5 v6 v7 v8 : Bool) : (Instr.index 86 (.agg #[.bool v0, .bool v1, .bool v2, .bool v3, .bool v4, .bool v5, .bool v6, .bool v7, .bool v8]) (.int .i64 7)).run Tryz.prog V = .ok (.bool v7) V := by kernel_rfl
theorem Tryz.idxNine8 (V : World) (v0 v1 v2 v3 v4 v5 v6 v7 v8 : Bool) : (Instr.index 86 (.agg #[.bool v0, .bool v1, .bool v2, .bool v3, .bool v4, .bool v5, .bool v6, .bool v7, .bool v8]) (.int .i64 8)).run Tryz.prog V = .ok (.bool v8) V := by kernel_rfl
set_option maxRecDepth 100000 in
set_option maxHeartbeats 4000000 in
theorem findsOf_any (a : Option Addr) (cap : Nat) (c : List In) (p mb n : Nat) (i : In) (f : MV) (w : World) (N : Nat) (hN : w.heap.size = N) (hn : c.length ≤ 1024) (hF : FormsAt w) (hr : RowsIn w a 5 In.cells c) (hi : c[p]? = some i) (hm : RgAt w mb n f) (hlt : ∀ s m, f s = some m → m < 256) :
    Calls Tryz.prog 30 #[.slice a c.length cap, .int .i64 (p : Nat), .map (some mb)] w fun e w' => e = .returned (.agg (ninC fun k => findP c.length k i f p).toArray) ∧ Below N w w' := by
  have hp : p < c.length := (List.getElem?_eq_some_iff.1 hi).1
  have H := Lib.hid (And.intro hF (And.intro hr (And.intro hi (And.intro hm (And.intro hlt (And.intro hn hp)))))); clear hF hr hi hm hlt hn hp
  have hx0 := Tryz.idxTwo0
  have hx1 := Tryz.idxTwo1
  go_enter Tryz.func30, Tryz.ntmps30
  go_wp2_with fail
  have hst0 : FoS w N g0 ((w.alloc (.cells #[.bool false, .bool false, .bool false, .bool false, .bool false, .bool false, .bool false, .bool false, .bool false] 86)).alloc (.cells #[.bool false, .bool false, .bool false, .bool false, .bool false, .bool false, .bool false, .bool false, .bool true] 86)) :=
    ⟨((Below.refl _ w).alloc (by omega) _).alloc (by simp; omega) _, (newAt hN 86 (ninC fun _ => false)).alloc _, newAt (by simp [hN]) 86 (ninC g0)⟩
  have HS0 := Lib.hid hst0; clear hst0
  generalize (w.alloc (.cells #[.bool false, .bool false, .bool false, .bool false, .bool false, .bool false, .bool false, .bool false, .bool false] 86)).alloc (.cells #[.bool false, .bool false, .bool false, .bool false, .bool false, .bool false, .bool false, .bool false, .bool true] 86) = w0 at *
  go_loopg [17] 3 (fun gg s17 wr => ∃ j : Nat, j ≤ 2 ∧ 3 - j ≤ gg ∧ s17 = .int .i64 j ∧ FoS w N (gsP c.length i f p j) wr)
  case atStart => exact ⟨0, by omega, by omega, rfl, HS0.out⟩
  case round =>
    obtain ⟨j, hj, hgg, rfl, hst⟩ := hrel
    clear HS0
    by_cases hj2 : j = 2
    · subst hj2
      have hfin : ninC (gsP c.length i f p 2) = ninC (fun k => findP c.length k i f p) := ninC_congr (fun k hk => stepG_all c.length i f p k hk)
      have hall := hst.all
      rw [hfin] at hall
      have Hst := Lib.hid (And.intro hst.below hst.res)
      have Hall := Lib.hid hall
      clear hgg hj hst hfin
      obtain ⟨v0, h0⟩ : ∃ v, v = findP c.length 0 i f p := ⟨_, rfl⟩
      obtain ⟨v1, h1⟩ : ∃ v, v = findP c.length 1 i f p := ⟨_, rfl⟩
      obtain ⟨v2, h2⟩ : ∃ v, v = findP c.length 2 i f p := ⟨_, rfl⟩
      obtain ⟨v3, h3⟩ : ∃ v, v = findP c.length 3 i f p := ⟨_, rfl⟩
      obtain ⟨v4, h4⟩ : ∃ v, v = findP c.length 4 i f p := ⟨_, rfl⟩
      obtain ⟨v5, h5⟩ : ∃ v, v = findP c.length 5 i f p := ⟨_, rfl⟩
      obtain ⟨v6, h6⟩ : ∃ v, v = findP c.length 6 i f p := ⟨_, rfl⟩
      obtain ⟨v7, h7⟩ : ∃ v, v = findP c.length 7 i f p := ⟨_, rfl⟩
      obtain ⟨v8, h8⟩ : ∃ v, v = findP c.length 8 i f p := ⟨_, rfl⟩
      have hnin : (ninC fun k => findP c.length k i f p) = [.bool v0, .bool v1, .bool v2, .bool v3, .bool v4, .bool v5, .bool v6, .bool v7, .bool v8] := by rw [h0, h1, h2, h3, h4, h5, h6, h7, h8]; rfl
      rw [hnin] at hall
      have Hnin := Lib.hid hnin; clear hnin h0 h1 h2 h3 h4 h5 h6 h7 h8
      have c0 := hall.cell (i := 0) rfl
      have d0 := Hst.out.2.cell (i := 0) rfl
      have f0 := Hst.out.2.free 0
      have c1 := hall.cell (i := 1) rfl
      have d1 := Hst.out.2.cell (i := 1) rfl
      have f1 := Hst.out.2.free 1
      have c2 := hall.cell (i := 2) rfl
      have d2 := Hst.out.2.cell (i := 2) rfl
      have f2 := Hst.out.2.free 2
      have c3 := hall.cell (i := 3) rfl
      have d3 := Hst.out.2.cell (i := 3) rfl
      have f3 := Hst.out.2.free 3
      have c4 := hall.cell (i := 4) rfl
      have d4 := Hst.out.2.cell (i := 4) rfl
      have f4 := Hst.out.2.free 4
      have c5 := hall.cell (i := 5) rfl
      have d5 := Hst.out.2.cell (i := 5) rfl
      have f5 := Hst.out.2.free 5
      have c6 := hall.cell (i := 6) rfl
      have d6 := Hst.out.2.cell (i := 6) rfl
      have f6 := Hst.out.2.free 6
      have c7 := hall.cell (i := 7) rfl
      have d7 := Hst.out.2.cell (i := 7) rfl
      have f7 := Hst.out.2.free 7
      have c8 := hall.cell (i := 8) rfl
      have d8 := Hst.out.2.cell (i := 8) rfl
      have f8 := Hst.out.2.free 8
      clear hall Hall
      go_wp2_with fail
      have hres := ((((((((Hst.out.2.set 0 (.bool v0)).set 1 (.bool v1)).set 2 (.bool v2)).set 3 (.bool v3)).set 4 (.bool v4)).set 5 (.bool v5)).set 6 (.bool v6)).set 7 (.bool v7)).set 8 (.bool v8)
      refine bodyPost_ret (results_c rfl rfl (Tryz.loadFinds hres rfl)) rfl ⟨?_, ?_⟩
      · rw [Hnin.out]; rfl
      · exact ((((((((Hst.out.1.setCell (Nat.le_refl _) _).setCell (Nat.le_refl _) _).setCell (Nat.le_refl _) _).setCell (Nat.le_refl _) _).setCell (Nat.le_refl _) _).setCell (Nat.le_refl _) _).setCell (Nat.le_refl _) _).setCell (Nat.le_refl _) _).setCell (Nat.le_refl _) _
    · by_cases hj0 : j = 0
      · obtain rfl : j = 0 := by omega
        have Hgg := Lib.hid hgg; clear hgg hj hj2
        have hb1 : Below wr.heap.size wr (wr.alloc (.cells #[.int .i64 (p : Nat), .bool false] 89)) := (Below.refl _ wr).alloc (Nat.le_refl _) _
        have hs1 := hst.next hN hb1
        have hm1 := (H.out.2.2.2.1.below (show Below w.heap.size w wr by rw [hN]; exact hst.below)).below hb1
        have hrun := hm1.run_ok (s := (p, false)) (by have := H.out; simp only; omega)
        simp only [spV] at hrun
        cases hf : f (p, false) with
        | none =>
          rw [hf] at hrun
          simp only [Option.getD_none, Option.isSome_none] at hrun
          have hnx : gsP c.length i f p 1 = gsP c.length i f p 0 := by show stepG c.length i f p false _ = _; unfold stepG; rw [hf]; rfl
          have Hn := Lib.hid (And.intro hs1 hnx); clear hs1 hnx hst hm1 hb1 hf
          go_wp2_with fail
          go_roundg 2
          case rel => exact ⟨1, by omega, by omega, by simp, by rw [Hn.out.2]; exact Hn.out.1⟩
          case measure => have := Hgg.out; omega
        | some m =>
          rw [hf] at hrun
          simp only [Option.getD_some, Option.isSome_some] at hrun
          have hm256 : m < 256 := H.out.2.2.2.2.1 _ _ hf
          have hnx : gsP c.length i f p 1 = orG (clr (gsP c.length i f p 0)) (fun k => fAt c.length k i (p, false) m) 9 := by show stepG c.length i f p false _ = _; unfold stepG; rw [hf]; rfl
          have ca := hs1.all.cell (i := 8) rfl
          have fa := hs1.all.free 8
          have hq1 : Holds (wr.alloc (.cells #[.int .i64 (p : Nat), .bool false] 89)) wr.heap.size 89 [.int .i64 (p : Nat), .bool false] := Holds.new wr 89 [.int .i64 (p : Nat), .bool false]
          have hs2 := hs1.put (ninC_clr (gsP c.length i f p 0))
          have hwl := hs1.all.lt
          have hwl2 := hst.all.lt
          have hq2 := hq1.other (p := ⟨N + 1, 8, none⟩) (by simp only; omega) (.bool false)
          have hbw2 : Below w.heap.size w ((wr.alloc (.cells #[.int .i64 (p : Nat), .bool false] 89)).setCell ⟨N + 1, 8, none⟩ (.bool false)) := by rw [hN]; exact hs2.below
          have hq3 := hq2.cell (i := 0) rfl
          have hq4 := hq2.cell (i := 1) rfl
          have HFA := Lib.hid (findsAt_any a cap c p m i false _ H.out.2.2.2.2.2.1 (H.out.1.below hbw2) (H.out.2.1.below hbw2) H.out.2.2.1 hm256)
          have Hs2 := Lib.hid hs2; clear hs2 hbw2
          have Hn := Lib.hid hnx; clear hnx hs1 hst hm1 hb1 hf hq1 hq2 hm256 hwl hwl2
          generalize clr (gsP c.length i f p 0) = gc at *
          go_wp2_with fail
          refine HFA.out.mono ?_
          rintro e w3 ⟨rfl, hb3⟩
          have hs3 := Hs2.out.next hN hb3
          rw [← orG_zero gc (fun k => fAt c.length k i (p, false) m)] at hs3
          rw [fCells_nin]
          have Hs3 := Lib.hid hs3; clear hs3 hb3 Hs2 HFA hrun ca fa hq3 hq4
          generalize (fun k => fAt c.length k i (p, false) m) = fv at *
          unfold ninC
          obtain ⟨wk, hwk⟩ : ∃ x, x = wr := ⟨_, rfl⟩
          subst hwk
          go_wp2_with fail
          go_loopg [36] 10 (fun g2 s36 wq => ∃ j2 : Nat, j2 ≤ 9 ∧ 10 - j2 ≤ g2 ∧ s36 = .int .i64 j2 ∧ FoS w N (orG gc fv j2) wq)
          case atStart => exact ⟨0, by omega, by omega, rfl, Hs3.out⟩
          case round =>
            obtain ⟨j2, hj3, hg2, rfl, hs4⟩ := hrel
            clear Hs3
            by_cases hj9 : j2 = 9
            · subst hj9
              have Hs4 := Lib.hid hs4; clear hs4 hj3 hg2
              go_wp2_with fail
              go_roundg 2
              case rel => exact ⟨1, by omega, by omega, by simp, by rw [Hn.out]; exact Hs4.out⟩
              case measure => have := Hgg.out; omega
            · have hj4 : j2 < 9 := by omega
              have hsp := hs4.put (ninC_step gc fv hj4)
              have ck := hs4.all.cell (i := j2) (ninC_at gc fv hj4)
              have fk := hs4.all.free j2
              have Hsp := Lib.hid hsp; clear hsp hs4 hj3 hj9
              have Hg2 := Lib.hid hg2; clear hg2
              match j2, hj4 with
              | 0, _ =>
                have hx := Tryz.idxNine0
                cases hg : gc 0 <;> rw [hg] at ck <;> rw [hg] at Hsp <;> (
                  simp only [Bool.false_or, Bool.true_or] at Hsp
                  go_wp2_with fail
                  go_roundg 9
                  case rel => exact ⟨1, by omega, by omega, by simp, Hsp.out⟩
                  case measure => have := Hg2.out; omega)
              | 1, _ =>
                have hx := Tryz.idxNine1
                cases hg : gc 1 <;> rw [hg] at ck <;> rw [hg] at Hsp <;> (
                  simp only [Bool.false_or, Bool.true_or] at Hsp
                  go_wp2_with fail
                  go_roundg 8
                  case rel => exact ⟨2, by omega, by omega, by simp, Hsp.out⟩
                  case measure => have := Hg2.out; omega)
              | 2, _ =>
                have hx := Tryz.idxNine2
                cases hg : gc 2 <;> rw [hg] at ck <;> rw [hg] at Hsp <;> (
                  simp only [Bool.false_or, Bool.true_or] at Hsp
                  go_wp2_with fail
                  go_roundg 7
                  case rel => exact ⟨3, by omega, by omega, by simp, Hsp.out⟩
                  case measure => have := Hg2.out; omega)
              | 3, _ =>
                have hx := Tryz.idxNine3
                cases hg : gc 3 <;> rw [hg] at ck <;> rw [hg] at Hsp <;> (
                  simp only [Bool.false_or, Bool.true_or] at Hsp
                  go_wp2_with fail
                  go_roundg 6
                  case rel => exact ⟨4, by omega, by omega, by simp, Hsp.out⟩
                  case measure => have := Hg2.out; omega)
              | 4, _ =>
                have hx := Tryz.idxNine4
                cases hg : gc 4 <;> rw [hg] at ck <;> rw [hg] at Hsp <;> (
                  simp only [Bool.false_or, Bool.true_or] at Hsp
                  go_wp2_with fail
                  go_roundg 5
                  case rel => exact ⟨5, by omega, by omega, by simp, Hsp.out⟩
                  case measure => have := Hg2.out; omega)
              | 5, _ =>
                have hx := Tryz.idxNine5
                cases hg : gc 5 <;> rw [hg] at ck <;> rw [hg] at Hsp <;> (
                  simp only [Bool.false_or, Bool.true_or] at Hsp
                  go_wp2_with fail
                  go_roundg 4
                  case rel => exact ⟨6, by omega, by omega, by simp, Hsp.out⟩
                  case measure => have := Hg2.out; omega)
              | 6, _ =>
                have hx := Tryz.idxNine6
                cases hg : gc 6 <;> rw [hg] at ck <;> rw [hg] at Hsp <;> (
                  simp only [Bool.false_or, Bool.true_or] at Hsp
                  go_wp2_with fail
                  go_roundg 3
                  case rel => exact ⟨7, by omega, by omega, by simp, Hsp.out⟩
                  case measure => have := Hg2.out; omega)
              | 7, _ =>
                have hx := Tryz.idxNine7
                cases hg : gc 7 <;> rw [hg] at ck <;> rw [hg] at Hsp <;> (
                  simp only [Bool.false_or, Bool.true_or] at Hsp
                  go_wp2_with fail
                  go_roundg 2
                  case rel => exact ⟨8, by omega, by omega, by simp, Hsp.out⟩
                  case measure => have := Hg2.out; omega)
              | 8, _ =>
                have hx := Tryz.idxNine8
                cases hg : gc 8 <;> rw [hg] at ck <;> rw [hg] at Hsp <;> (
                  simp only [Bool.false_or, Bool.true_or] at Hsp
                  go_wp2_with fail
                  go_roundg 1
                  case rel => exact ⟨9, by omega, by omega, by simp, Hsp.out⟩
                  case measure => have := Hg2.out; omega)
      · obtain rfl : j = 1 := by omega
        have Hgg := Lib.hid hgg; clear hgg hj hj2
        have hb1 : Below wr.heap.size wr (wr.alloc (.cells #[.int .i64 (p : Nat), .bool true] 89)) := (Below.refl _ wr).alloc (Nat.le_refl _) _
        have hs1 := hst.next hN hb1
        have hm1 := (H.out.2.2.2.1.below (show Below w.heap.size w wr by rw [hN]; exact hst.below)).below hb1
        have hrun := hm1.run_ok (s := (p, true)) (by have := H.out; simp only; omega)
        simp only [spV] at hrun
        cases hf : f (p, true) with
        | none =>
          rw [hf] at hrun
          simp only [Option.getD_none, Option.isSome_none] at hrun
          have hnx : gsP c.length i f p 2 = gsP c.length i f p 1 := by show stepG c.length i f p true _ = _; unfold stepG; rw [hf]; rfl
          have Hn := Lib.hid (And.intro hs1 hnx); clear hs1 hnx hst hm1 hb1 hf
          go_wp2_with fail
          go_roundg 1
          case rel => exact ⟨2, by omega, by omega, by simp, by rw [Hn.out.2]; exact Hn.out.1⟩
          case measure => have := Hgg.out; omega
        | some m =>
          rw [hf] at hrun
          simp only [Option.getD_some, Option.isSome_some] at hrun
          have hm256 : m < 256 := H.out.2.2.2.2.1 _ _ hf
          have hnx : gsP c.length i f p 2 = orG (clr (gsP c.length i f p 1)) (fun k => fAt c.length k i (p, true) m) 9 := by show stepG c.length i f p true _ = _; unfold stepG; rw [hf]; rfl
          have ca := hs1.all.cell (i := 8) rfl
          have fa := hs1.all.free 8
          have hq1 : Holds (wr.alloc (.cells #[.int .i64 (p : Nat), .bool true] 89)) wr.heap.size 89 [.int .i64 (p : Nat), .bool true] := Holds.new wr 89 [.int .i64 (p : Nat), .bool true]
          have hs2 := hs1.put (ninC_clr (gsP c.length i f p 1))
          have hwl := hs1.all.lt
          have hwl2 := hst.all.lt
          have hq2 := hq1.other (p := ⟨N + 1, 8, none⟩) (by simp only; omega) (.bool false)
          have hbw2 : Below w.heap.size w ((wr.alloc (.cells #[.int .i64 (p : Nat), .bool true] 89)).setCell ⟨N + 1, 8, none⟩ (.bool false)) := by rw [hN]; exact hs2.below
          have hq3 := hq2.cell (i := 0) rfl
          have hq4 := hq2.cell (i := 1) rfl
          have HFA := Lib.hid (findsAt_any a cap c p m i true _ H.out.2.2.2.2.2.1 (H.out.1.below hbw2) (H.out.2.1.below hbw2) H.out.2.2.1 hm256)
          have Hs2 := Lib.hid hs2; clear hs2 hbw2
          have Hn := Lib.hid hnx; clear hnx hs1 hst hm1 hb1 hf hq1 hq2 hm256 hwl hwl2
          generalize clr (gsP c.length i f p 1) = gc at *
          go_wp2_with fail
          refine HFA.out.mono ?_
          rintro e w3 ⟨rfl, hb3⟩
          have hs3 := Hs2.out.next hN hb3
          rw [← orG_zero gc (fun k => fAt c.length k i (p, true) m)] at hs3
          rw [fCells_nin]
          have Hs3 := Lib.hid hs3; clear hs3 hb3 Hs2 HFA hrun ca fa hq3 hq4
          generalize (fun k => fAt c.length k i (p, true) m) = fv at *
          unfold ninC
          obtain ⟨wk, hwk⟩ : ∃ x, x = wr := ⟨_, rfl⟩
          subst hwk
          go_wp2_with fail
          go_loopg [36] 10 (fun g2 s36 wq => ∃ j2 : Nat, j2 ≤ 9 ∧ 10 - j2 ≤ g2 ∧ s36 = .int .i64 j2 ∧ FoS w N (orG gc fv j2) wq)
          case atStart => exact ⟨0, by omega, by omega, rfl, Hs3.out⟩
          case round =>
            obtain ⟨j2, hj3, hg2, rfl, hs4⟩ := hrel
            clear Hs3
            by_cases hj9 : j2 = 9
            · subst hj9
              have Hs4 := Lib.hid hs4; clear hs4 hj3 hg2
              go_wp2_with fail
              go_roundg 1
              case rel => exact ⟨2, by omega, by omega, by simp, by rw [Hn.out]; exact Hs4.out⟩
              case measure => have := Hgg.out; omega
            · have hj4 : j2 < 9 := by omega
              have hsp := hs4.put (ninC_step gc fv hj4)
              have ck := hs4.all.cell (i := j2) (ninC_at gc fv hj4)
              have fk := hs4.all.free j2
              have Hsp := Lib.hid hsp; clear hsp hs4 hj3 hj9
              have Hg2 := Lib.hid hg2; clear hg2
              match j2, hj4 with
              | 0, _ =>
                have hx := Tryz.idxNine0
                cases hg : gc 0 <;> rw [hg] at ck <;> rw [hg] at Hsp <;> (
                  simp only [Bool.false_or, Bool.true_or] at Hsp
                  go_wp2_with fail
                  go_roundg 9
                  case rel => exact ⟨1, by omega, by omega, by simp, Hsp.out⟩
                  case measure => have := Hg2.out; omega)
              | 1, _ =>
                have hx := Tryz.idxNine1
                cases hg : gc 1 <;> rw [hg] at ck <;> rw [hg] at Hsp <;> (
                  simp only [Bool.false_or, Bool.true_or] at Hsp
                  go_wp2_with fail
                  go_roundg 8
                  case rel => exact ⟨2, by omega, by omega, by simp, Hsp.out⟩
                  case measure => have := Hg2.out; omega)
              | 2, _ =>
                have hx := Tryz.idxNine2
                cases hg : gc 2 <;> rw [hg] at ck <;> rw [hg] at Hsp <;> (
                  simp only [Bool.false_or, Bool.true_or] at Hsp
                  go_wp2_with fail
                  go_roundg 7
                  case rel => exact ⟨3, by omega, by omega, by simp, Hsp.out⟩
                  case measure => have := Hg2.out; omega)
              | 3, _ =>
                have hx := Tryz.idxNine3
                cases hg : gc 3 <;> rw [hg] at ck <;> rw [hg] at Hsp <;> (
                  simp only [Bool.false_or, Bool.true_or] at Hsp
                  go_wp2_with fail
                  go_roundg 6
                  case rel => exact ⟨4, by omega, by omega, by simp, Hsp.out⟩
                  case measure => have := Hg2.out; omega)
              | 4, _ =>
                have hx := Tryz.idxNine4
                cases hg : gc 4 <;> rw [hg] at ck <;> rw [hg] at Hsp <;> (
                  simp only [Bool.false_or, Bool.true_or] at Hsp
                  go_wp2_with fail
                  go_roundg 5
                  case rel => exact ⟨5, by omega, by omega, by simp, Hsp.out⟩
                  case measure => have := Hg2.out; omega)
              | 5, _ =>
                have hx := Tryz.idxNine5
                cases hg : gc 5 <;> rw [hg] at ck <;> rw [hg] at Hsp <;> (
                  simp only [Bool.false_or, Bool.true_or] at Hsp
                  go_wp2_with fail
                  go_roundg 4
                  case rel => exact ⟨6, by omega, by omega, by simp, Hsp.out⟩
                  case measure => have := Hg2.out; omega)
              | 6, _ =>
                have hx := Tryz.idxNine6
                cases hg : gc 6 <;> rw [hg] at ck <;> rw [hg] at Hsp <;> (
                  simp only [Bool.false_or, Bool.true_or] at Hsp
                  go_wp2_with fail
                  go_roundg 3
                  case rel => exact ⟨7, by omega, by omega, by simp, Hsp.out⟩
                  case measure => have := Hg2.out; omega)
              | 7, _ =>
                have hx := Tryz.idxNine7
                cases hg : gc 7 <;> rw [hg] at ck <;> rw [hg] at Hsp <;> (
                  simp only [Bool.false_or, Bool.true_or] at Hsp
                  go_wp2_with fail
                  go_roundg 2
                  case rel => exact ⟨8, by omega, by omega, by simp, Hsp.out⟩
                  case measure => have := Hg2.out; omega)
              | 8, _ =>
                have hx := Tryz.idxNine8
                cases hg : gc 8 <;> rw [hg] at ck <;> rw [hg] at Hsp <;> (
                  simp only [Bool.false_or, Bool.true_or] at Hsp
                  go_wp2_with fail
                  go_roundg 1
                  case rel => exact ⟨9, by omega, by omega, by simp, Hsp.out⟩
                  case measure => have := Hg2.out; omega)
end Go.Proofs.YteijhcibdglkeaaGreatDoor
