/- Calls that came in; play. Conditions: those stated in each theorem. -/
import Derived.Test.YtfngfphoefpndaaLogI
import Derived.Test.YtfngfphoefpndaaCame2
namespace Go.Proofs.Ytfngfphoefpndaa
open Go.ChangeShapes Go.WideShapes Go.ChangeAt Go.RowKit Go.BigFrame Go.Maps Go.Deep

def pairKinds : List CK := [⟨0, .i64⟩, ⟨0, .u64⟩]
/-- A call that came in: its numbers; where its list lies. -/
structure OpV where
  kind : Int
  a : Int
  v : Int
  nad : Option Addr
  nlen : Nat
  ncap : Nat
def OpV.cells (x : OpV) : List Value := [.int .i64 x.kind, .int .i64 x.a, .int .u64 x.v, .slice x.nad x.nlen x.ncap]
def OpV.zero : OpV := ⟨0, 0, 0, none, 0, 0⟩
/-- What is known of a call that came in. -/
def OpV.ok (w : World) (x : OpV) : Prop := ((Lit.int .i64 x.a).wf = true ∧ (Lit.int .u64 x.v).wf = true) ∧ x.nlen ≤ maxLen ∧ Came w x.nad x.nlen pairKinds
theorem oneOp (x : OpV) : (x.cells.toArray).all (·.oneCell') = true := by simp [OpV.cells, Value.oneCell']
theorem Try.sizeOp : (Try.prog.info? 35).map (·.size) = some 4 := by kernel_rfl

section
variable {H : Type} {enc : TypeId × Value → H} {W : World} {base : Nat} {spare : Nat → Bool} {held : Bool}
theorem op_in {fuel : Nat} {cs : List Value} {r : DataW H × List MemPlace} (hf : DataW.trod enc Try.prog W base spare held fuel 35 cs = some r) (hl : cs.length = 4) : ∃ x : OpV, x.cells = cs ∧ x.ok W := by
  match cs, hl with
  | [c0, c1, c2, c3], _ =>
    obtain ⟨xs, n, _, _, _, hxs, hF⟩ := DataW.trod_struct Try.underlying35 hf
    have f0 := hF 0 _ rfl
    have f1 := hF 1 _ rfl
    have f2 := hF 2 _ rfl
    have f3 := hF 3 _ rfl
    rw [List.getElem?_eq_getElem (by rw [hxs]; decide)] at f0 f1 f2 f3
    have g0 : DataW.trod enc Try.prog W base spare held n 3 (([c0, c1, c2, c3].drop 0).take (Try.prog.cellsOf 3)) = some _ := f0
    have g1 : DataW.trod enc Try.prog W base spare held n 3 (([c0, c1, c2, c3].drop 1).take (Try.prog.cellsOf 3)) = some _ := f1
    have g2 : DataW.trod enc Try.prog W base spare held n 33 (([c0, c1, c2, c3].drop 2).take (Try.prog.cellsOf 33)) = some _ := f2
    have g3 : DataW.trod enc Try.prog W base spare held n 26 (([c0, c1, c2, c3].drop 3).take (Try.prog.cellsOf 26)) = some _ := f3
    rw [show Try.prog.cellsOf 3 = 1 from by kernel_rfl] at g0 g1
    rw [show Try.prog.cellsOf 33 = 1 from by kernel_rfl] at g2
    rw [show Try.prog.cellsOf 26 = 1 from by kernel_rfl] at g3
    simp only [List.drop_zero, List.drop_succ_cons, List.take_succ_cons, List.take_zero] at g0 g1 g2 g3
    obtain ⟨k, e0, _, _⟩ := DataW.trod_int Try.underlying3 g0
    obtain ⟨a, e1, _, wa⟩ := DataW.trod_int Try.underlying3 g1
    obtain ⟨v, e2, _, wv⟩ := DataW.trod_int Try.underlying33 g2
    cases e0
    cases e1
    cases e2
    rcases open_slice Try.underlying26 g3 with ⟨h0, _⟩ | ⟨b, l, c, _, _, _, _, hcs, _⟩
    · cases h0
      exact ⟨⟨k, a, v, none, 0, 0⟩, rfl, ⟨wa, wv⟩, open_plain (ks := pairKinds) (d := 6) Try.underlying26 (by kernel_rfl) (by kernel_rfl) g3⟩
    · cases hcs
      exact ⟨⟨k, a, v, some b, l, c⟩, rfl, ⟨wa, wv⟩, open_plain (ks := pairKinds) (d := 6) Try.underlying26 (by kernel_rfl) (by kernel_rfl) g3⟩
/-- What is known of a list of calls that came in. -/
def OpsIn (w : World) (a : Option Addr) (xs : List OpV) : Prop := RowsIn w a 4 OpV.cells xs ∧ ∀ x ∈ xs, x.ok w
theorem ops_in {fuel : Nat} {a : Option Addr} {len cap : Nat} {z : DataW H × List MemPlace} (h : DataW.trod enc Try.prog W base spare held fuel 22 [.slice a len cap] = some z) : ∃ xs : List OpV, xs.length = len ∧ OpsIn W a xs := by
  obtain ⟨_, xs, h1, h2, h3⟩ := rows_deep (N := 4) (cells := OpV.cells) (Pp := OpV.ok W) Try.underlying22 (by kernel_rfl) (by omega) (fun n cs y hy hl => op_in hy hl) h
  exact ⟨xs, h1, h2, h3⟩
end

def stepL (f : Lg) (x : OpV) : Lg :=
  if x.kind == 0 then f.read x.a x.v else if x.kind == 1 then f.write x.a x.v else if x.kind == 2 then Lg.zero else f
def playL (f : Lg) (xs : List OpV) : Lg := xs.foldl stepL f
theorem playL_take (xs : List OpV) (f : Lg) {k : Nat} {x : OpV} (h : xs[k]? = some x) : playL f (xs.take (k + 1)) = stepL (playL f (xs.take k)) x := by
  simp [playL, List.take_add_one, h]

section
variable {w0 w w1 : World} {a : Nat} {f : Lg} {G : List (Value × List Pr)}

set_option maxRecDepth 100000 in
set_option maxHeartbeats 1000000 in
theorem play_ok (h : LSt w0 w a f G) (ad : Option Addr) (cap : Nat) (xs : List OpV) (hx : OpsIn w0 ad xs) (hl : xs.length ≤ 1000) :
    Calls Try.prog 25 #[.pointer (some ⟨a, 0, none⟩), .slice ad xs.length cap] w fun e w' => e = .returned (.tuple #[]) ∧ LSt w0 w' a (playL f xs) G := by
  have H := Lib.hid h; clear h
  have HX := Lib.hid hx; clear hx
  go_enter Try.func25, Try.ntmps25
  go_wp2
  go_loopw [4] (fun i wr => ∃ k : Nat, k ≤ xs.length ∧ i = .int .i64 k ∧ LSt w0 wr a (playL f (xs.take k)) G) (fun i _ => xs.length - (intOf i).toNat)
  case atStart => exact ⟨0, by omega, rfl, H.out⟩
  case round =>
    obtain ⟨k, hk, rfl, hs⟩ := hrel
    have HS := Lib.hid hs; clear hs H
    by_cases hlt : k < xs.length
    · obtain ⟨x, hxk⟩ : ∃ x, xs[k]? = some x := ⟨xs[k], List.getElem?_eq_getElem hlt⟩
      obtain ⟨q, c, rfl, hq, hr⟩ := HX.out.1.row hxk
      have hok := (HX.out.2 x (List.mem_of_getElem? hxk)).1
      have hr : wr.rangeAt q (c + k * 4) x.cells := fun i v hi => by
        rw [World.cell?_of_block (a := ⟨q, c + k * 4 + i, none⟩) (HS.out.below.block q hq)]
        exact hr i v hi
      have c0 := hr 0 _ rfl
      have c1 := hr 1 _ rfl
      have c2 := hr 2 _ rfl
      rw [Nat.add_zero] at c0
      clear hr
      have Hok := Lib.hid hok; clear hok
      have Hxk := Lib.hid (playL_take xs f hxk); clear hxk
      have HD := Lib.hid (HS.out.idle (below_drew1 (Below.refl _ wr)))
      by_cases h0 : x.kind = 0
      · have b0 : (x.kind == 0) = true := by simp [h0]
        go_wp2
        go_still_tail 11, (by kernel_rfl)
        change wpList _ _ _ _ _ wr.drew
        go_wp2_with fail
        refine (read_st HD.out x.a x.v Hok.out.1 Hok.out.2).mono ?_
        rintro e wv ⟨rfl, hs⟩
        have Hs := Lib.hid hs; clear hs
        go_wp2
        go_roundw
        case rel => exact ⟨k + 1, by omega, by go_num, by rw [Hxk.out]; simpa [stepL, b0] using Hs.out⟩
        case measure => simp [intOf]; omega
      have b0 : (x.kind == 0) = false := by simp [h0]
      by_cases h1 : x.kind = 1
      · have b1 : (x.kind == 1) = true := by simp [h1]
        go_wp2
        go_still_tail 11, (by kernel_rfl)
        change wpList _ _ _ _ _ wr.drew
        go_wp2_with fail
        refine (write_st HD.out x.a x.v Hok.out.1 Hok.out.2).mono ?_
        rintro e wv ⟨rfl, hs⟩
        have Hs := Lib.hid hs; clear hs
        go_wp2
        go_roundw
        case rel => exact ⟨k + 1, by omega, by go_num, by rw [Hxk.out]; simpa [stepL, b0, b1] using Hs.out⟩
        case measure => simp [intOf]; omega
      have b1 : (x.kind == 1) = false := by simp [h1]
      by_cases h2 : x.kind = 2
      · have b2 : (x.kind == 2) = true := by simp [h2]
        go_wp2_with fail
        refine (clear_st HS.out).mono ?_
        rintro e wv ⟨rfl, hs⟩
        have Hs := Lib.hid hs; clear hs
        go_wp2
        go_roundw
        case rel => exact ⟨k + 1, by omega, by go_num, by rw [Hxk.out]; simpa [stepL, b0, b1, b2] using Hs.out⟩
        case measure => simp [intOf]; omega
      have b2 : (x.kind == 2) = false := by simp [h2]
      go_wp2
      go_roundw
      case rel => exact ⟨k + 1, by omega, by go_num, by rw [Hxk.out]; simpa [stepL, b0, b1, b2] using HS.out⟩
      case measure => simp [intOf]; omega
    · have : k = xs.length := by omega
      subst this
      have hs := HS.out
      rw [List.take_length] at hs
      have HF := Lib.hid hs; clear hs
      go_wp2
      exact ⟨rfl, .tuple #[], (by simp [results, Try.results25, go_sem]), rfl, HF.out⟩
end

end Go.Proofs.Ytfngfphoefpndaa
