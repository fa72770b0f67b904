/- The line of what is found; whether nothing of it makes a run go wrong. Conditions: those stated in each theorem. -/
import Derived.Test.YteijhcibdglkeaaGreatDoorLntQ
import Derived.Test.YteijhcibdglkeaaGreatDoorCame
import Derived.Test.YteijhcibdglkeaaGreatDoorShelf
import Derived.Deep.RegionHeld3
import Derived.Deep.QuietTactic
import Derived.Deep.LoopGhost
import Derived.Laws.Concat
import Derived.Lib.LaidTab
import Derived.Lib.AppendIntMem
import Derived.Test.YteijhcibdglkeaaGreatDoorRndH
namespace Go.Proofs.YteijhcibdglkeaaGreatDoor
open Go.RowKit Go.BigFrame

/-! ### Names -/
def nmL : Nat → List UInt8
  | 0 => [110, 111, 110, 101] | 1 => [105, 108, 108, 101, 103, 97, 108] | 2 => [101, 110, 100] | 3 => [98, 101, 103, 105, 110] | 4 => [104, 97, 108, 116] | 5 => [111, 117, 116] | 6 => [103, 111, 101, 115] | 7 => [117, 110, 115, 101, 116] | _ => [110, 101, 118, 101, 114]
theorem nmL_len (k : Nat) : (nmL k).length ≤ 7 := by unfold nmL; split <;> decide
def codeN (c : Int) : Nat := if 1 ≤ c ∧ c ≤ 8 then c.toNat else 0
def NamesAt (w : World) : Prop := ∀ k, k < 9 → w.cell? ⟨1, k, none⟩ = some (.string ⟨(nmL k).toArray⟩)
theorem NamesAt.lt {w : World} (h : NamesAt w) : 1 < w.heap.size := World.block_lt_of_cell? _ _ (h 0 (by omega))
theorem NamesAt.below {w w' : World} (h : NamesAt w) (hb : Below w.heap.size w w') : NamesAt w' := fun k hk =>
  (World.cell?_of_block (a := ⟨1, k, none⟩) (hb.block _ h.lt)).trans (h k hk)
def textF (c p : Int) : List UInt8 := (nmL (codeN c) ++ [32, 97, 116, 32]) ++ Lib.itoa p

theorem nameOf_any (n : Int) (w : World) (h : NamesAt w) : Calls Tryz.prog 18 #[.int .i64 n] w fun e w' => e = .returned (.string ⟨(nmL (codeN n)).toArray⟩) ∧ w' = w := by
  by_cases h1 : n < 1
  · have d1 : decide (n < 1) = true := decide_eq_true h1
    have c0 := h 0 (by omega)
    have e : codeN n = 0 := by unfold codeN; rw [if_neg (by omega)]
    have He := Lib.hid e; clear e h1 h
    go_enter Tryz.func18, Tryz.ntmps18
    go_wp2
    go_ret
    exact ⟨by rw [He.out]; rfl, rfl⟩
  have d1 : decide (n < 1) = false := decide_eq_false h1
  by_cases h8 : 8 < n
  · have d2 : decide (8 < n) = true := decide_eq_true h8
    have c0 := h 0 (by omega)
    have e : codeN n = 0 := by unfold codeN; rw [if_neg (by omega)]
    have He := Lib.hid e; clear e h1 h8 h
    go_enter Tryz.func18, Tryz.ntmps18
    go_wp2
    go_ret
    exact ⟨by rw [He.out]; rfl, rfl⟩
  have d2 : decide (8 < n) = false := decide_eq_false h8
  obtain ⟨k, rfl⟩ : ∃ k : Nat, n = k := ⟨n.toNat, by omega⟩
  have hk : (0 : Int) ≤ k ∧ (k : Int) < 9 := by omega
  have c0 := h k (by omega)
  have e : codeN (k : Int) = k := by unfold codeN; rw [if_pos (by omega)]; simp
  have He := Lib.hid e; clear e h1 h8 h
  generalize hs : nmL k = s at c0
  have Hs := Lib.hid hs; clear hs
  go_enter Tryz.func18, Tryz.ntmps18
  go_wp2
  go_ret
  exact ⟨by rw [He.out, Hs.out]; rfl, rfl⟩

theorem belowL_grow {w : World} (k : Nat) (os : Array Obj) : Below w.heap.size w (Go.Sort.grow (w.drewN k) os) :=
  ⟨rfl, rfl, rfl, by simp [Go.Sort.grow, World.drewN], fun b hb => by
    show (w.heap ++ os)[b]? = w.heap[b]?
    exact Array.getElem?_append_left hb⟩
theorem itoaL_any (n : Int) (hn : I64 n) (w : World) (htab : Lib.TabBelow Tryz.prog w.heap.size w "internal/strconv.uint64pow10" .u64 Lib.pow10Tab) : Calls Tryz.prog 19 #[.int .i64 n] w fun e w' => e = .returned (.string ⟨(Lib.itoa n).toArray⟩) ∧ Below w.heap.size w w' := by
  refine (Tryz.strconv_Itoa n hn.1 hn.2 w (htab w (Below.refl _ _))).mono ?_
  rintro e w' ⟨rfl, k, os, rfl⟩
  exact ⟨rfl, belowL_grow k os⟩
/-- The tables that a line wants. -/
structure StdL (w : World) : Prop where
  names : NamesAt w
  tab : Lib.TabBelow Tryz.prog w.heap.size w "internal/strconv.uint64pow10" .u64 Lib.pow10Tab
theorem StdL.below {w w' : World} (h : StdL w) (hb : Below w.heap.size w w') : StdL w' := ⟨h.names.below hb, fun w2 h2 => h.tab w2 (hb.trans (h2.mono hb.size))⟩

set_option maxRecDepth 100000 in
set_option maxHeartbeats 2000000 in
theorem text_lint (cd pl : Int) (hp : I64 pl) (hlen : (Lib.itoa pl).length ≤ 100) (w : World) (h : StdL w) : Calls Tryz.prog 9 #[.agg #[.int .i64 cd, .int .i64 pl]] w fun e w' => e = .returned (.string ⟨(textF cd pl).toArray⟩) ∧ Below w.heap.size w w' := by
  have hb0 : Below w.heap.size w (w.alloc (.cells #[.int .i64 cd, .int .i64 pl] 25)) := (Below.refl _ w).alloc (Nat.le_refl _) _
  have hq0 : Holds (w.alloc (.cells #[.int .i64 cd, .int .i64 pl] 25)) w.heap.size 25 [.int .i64 cd, .int .i64 pl] := Holds.new w 25 [.int .i64 cd, .int .i64 pl]
  have hl1 := nmL_len (codeN cd)
  have hte : textF cd pl = (nmL (codeN cd) ++ [32, 97, 116, 32]) ++ Lib.itoa pl := rfl
  have HNm := Lib.hid (fun (V : World) (hb : Below w.heap.size w V) => nameOf_any cd V ((h.below hb).names))
  have HIt := Lib.hid (fun (V : World) (hb : Below w.heap.size w V) => itoaL_any pl hp V ((h.below hb).tab))
  generalize nmL (codeN cd) = na at *
  generalize Lib.itoa pl = it at *
  have hs1 : ∀ V : World, (Op.stringOp BinOp.add ⟨na.toArray⟩ ⟨#[32, 97, 116, 32]⟩).run Tryz.prog V = .ok (.string ⟨(na ++ [32, 97, 116, 32]).toArray⟩) V := fun V => run_string_add_lists V na [32, 97, 116, 32] (by omega) (by decide)
  have hs2 : ∀ V : World, (Op.stringOp BinOp.add ⟨(na ++ [32, 97, 116, 32]).toArray⟩ ⟨it.toArray⟩).run Tryz.prog V = .ok (.string ⟨((na ++ [32, 97, 116, 32]) ++ it).toArray⟩) V := fun V => run_string_add_lists V (na ++ [32, 97, 116, 32]) it (by simp; omega) (by omega)
  have Hte := Lib.hid hte; clear hte
  generalize na ++ [32, 97, 116, 32] = nb at *
  generalize nb ++ it = nc at *
  have HB := Lib.hid (And.intro hb0 hq0); clear hb0 hq0 hl1 hlen h hp
  go_enter Tryz.func9, Tryz.ntmps9
  go_wp2_with fail
  generalize w.alloc (.cells #[.int .i64 cd, .int .i64 pl] 25) = w1 at *
  have HK := Lib.hid (fun (V : World) (hb : Below w1.heap.size w1 V) => (show V.cell? ⟨w.heap.size, 0, none⟩ = some (.int .i64 cd) ∧ V.cell? ⟨w.heap.size, 1, none⟩ = some (.int .i64 pl) from ⟨(HB.out.2.below hb).cell (i := 0) rfl, (HB.out.2.below hb).cell (i := 1) rfl⟩))
  have hD : Below w1.heap.size w1 w1.drew := below_drewN (Below.refl _ w1) 1
  go_region_held3 (fun V => V.cell? ⟨w.heap.size, 0, none⟩ = some (.int .i64 cd) ∧ V.cell? ⟨w.heap.size, 1, none⟩ = some (.int .i64 pl)) (first | with_reducible exact HK.out _ hD) (first | (go_at_call 18; (with_reducible refine (HNm.out _ (HB.out.1.trans (hD.mono HB.out.1.size))).mono ?_); rintro e V ⟨rfl, rfl⟩) | (go_at_call 19; (with_reducible refine (HIt.out _ (HB.out.1.trans (hD.mono HB.out.1.size))).mono ?_); rintro e V ⟨rfl, hb⟩; replace hD := hD.trans (hb.mono hD.size); clear hb))
  all_goals
    go_wp2_with fail
    go_ret
    exact ⟨by rw [Hte.out]; rfl, HB.out.1.trans (hD.mono HB.out.1.size)⟩

/-! ### Clean -/
def fdC (x : Int × Int) : List Value := [.int .i64 x.1, .int .i64 x.2]
def badF (x : Int × Int) : Bool := decide (1 ≤ x.1) && decide (x.1 ≤ 6)
theorem bad_any (x y : Int) (w : World) : Calls Tryz.prog 21 #[.agg #[.int .i64 x, .int .i64 y]] w fun e w' => e = .returned (.bool (badF (x, y))) ∧ Below w.heap.size w w' := by
  have hb0 : Below w.heap.size w (w.alloc (.cells #[.int .i64 x, .int .i64 y] 25)) := (Below.refl _ w).alloc (Nat.le_refl _) _
  have c0 := (Holds.new w 25 [.int .i64 x, .int .i64 y]).cell (i := 0) rfl
  have HB := Lib.hid hb0; clear hb0
  by_cases h1 : 1 ≤ x
  · have d1 : decide (1 ≤ x) = true := decide_eq_true h1
    by_cases h2 : x ≤ 6
    · have d2 : decide (x ≤ 6) = true := decide_eq_true h2
      have he := Lib.hid (show badF (x, y) = true by simp [badF, h1, h2]); clear h1 h2
      go_enter Tryz.func21, Tryz.ntmps21
      go_wp2
      go_ret
      exact ⟨by rw [he.out]; rfl, HB.out⟩
    · have d2 : decide (x ≤ 6) = false := decide_eq_false h2
      have he := Lib.hid (show badF (x, y) = false by simp [badF, h2]); clear h1 h2
      go_enter Tryz.func21, Tryz.ntmps21
      go_wp2
      go_ret
      exact ⟨by rw [he.out]; rfl, HB.out⟩
  · have d1 : decide (1 ≤ x) = false := decide_eq_false h1
    have he := Lib.hid (show badF (x, y) = false by simp [badF, h1]); clear h1
    go_enter Tryz.func21, Tryz.ntmps21
    go_wp2
    go_ret
    exact ⟨by rw [he.out]; rfl, HB.out⟩
set_option maxRecDepth 100000 in
set_option maxHeartbeats 1000000 in
theorem index_bad (a : Option Addr) (cap : Nat) (L : List (Int × Int)) (w : World) (hr : RowsIn w a 2 fdC L) (hn : L.length ≤ 1000000) : Calls Tryz.prog 29 #[.slice a L.length cap, .func (.func 21) #[] #[]] w fun e w' => ∃ r : Int, e = .returned (.int .i64 r) ∧ -1 ≤ r ∧ r ≤ 1000000 ∧ (0 ≤ r ↔ L.any badF = true) ∧ Below w.heap.size w w' := by
  have H := Lib.hid (And.intro hr hn); clear hr hn
  go_enter Tryz.func29, Tryz.ntmps29
  go_wp2_with fail
  go_loopg [8] (L.length + 1) (fun gg s8 wr => ∃ k : Nat, k ≤ L.length ∧ L.length + 1 - k ≤ gg ∧ s8 = .int .i64 k ∧ Below w.heap.size w wr ∧ ∀ j x, j < k → L[j]? = some x → badF x = false)
  case atStart => exact ⟨0, by omega, by omega, rfl, Below.refl _ w, fun j x hj => by omega⟩
  case round =>
    obtain ⟨k, hk, hgg, rfl, hb, hall⟩ := hrel
    by_cases hkn : k < L.length
    · obtain ⟨x, hx⟩ : ∃ x, L[k]? = some x := ⟨_, List.getElem?_eq_getElem hkn⟩
      obtain ⟨q, o, rfl, hq, hrow⟩ := (H.out.1.below hb).row hx
      have hki : (0 : Int) ≤ k ∧ (k : Int) < L.length := by omega
      have hkk : IntKind.i64.wrap ((k : Int) + 1) = (k : Int) + 1 := by rw [IntKind.wrap_i64]; have := H.out.2; omega
      have r0 : wr.cell? ⟨q, o + k * 2, none⟩ = some (.int .i64 x.1) := hrow 0 _ rfl
      have r1 : wr.cell? ⟨q, o + k * 2 + 1, none⟩ = some (.int .i64 x.2) := hrow 1 _ rfl
      have HC := Lib.hid (bad_any x.1 x.2 wr)
      have Hx := Lib.hid (And.intro hx (And.intro hb (And.intro hall (And.intro hkn hgg)))); clear hx hb hall hkn hgg hk hq hrow
      cases hbx : badF (x.1, x.2) with
      | true =>
        rw [hbx] at HC
        have Hbx := Lib.hid hbx; clear hbx
        go_wp2_with fail
        refine HC.out.mono ?_
        rintro e w2 ⟨rfl, hb2⟩
        have Hb2 := Lib.hid (Hx.out.2.1.trans (hb2.mono Hx.out.2.1.size)); clear hb2
        go_wp2_with fail
        go_ret
        exact ⟨k, rfl, by omega, by have := H.out.2; have := Hx.out.2.2.2.1; omega, ⟨fun _ => List.any_eq_true.2 ⟨x, List.mem_of_getElem? Hx.out.1, Hbx.out⟩, fun _ => by omega⟩, Hb2.out⟩
      | false =>
        rw [hbx] at HC
        have Hbx := Lib.hid hbx; clear hbx
        go_wp2_with fail
        refine HC.out.mono ?_
        rintro e w2 ⟨rfl, hb2⟩
        have Hb2 := Lib.hid (Hx.out.2.1.trans (hb2.mono Hx.out.2.1.size)); clear hb2
        go_wp2_with fail
        go_roundg (L.length - k)
        case rel => exact ⟨k + 1, by have := Hx.out.2.2.2.1; omega, by have := Hx.out.2.2.2.1; omega, by simp, Hb2.out, fun j y hj hy => by
          by_cases e : j = k
          · subst e; rw [Hx.out.1] at hy; cases hy; exact Hbx.out
          · exact Hx.out.2.2.1 j y (by omega) hy⟩
        case measure => have := Hx.out.2.2.2; omega
    · obtain rfl : k = L.length := by omega
      have Hx := Lib.hid (And.intro hb hall); clear hb hall hkn hk hgg
      go_wp2_with fail
      go_ret
      refine ⟨-1, rfl, by omega, by omega, ⟨fun h => by omega, fun h => ?_⟩, Hx.out.1⟩
      obtain ⟨x, hx, hb⟩ := List.any_eq_true.1 h
      obtain ⟨j, hj, e⟩ := List.getElem_of_mem hx
      have := Hx.out.2 j x hj (by rw [List.getElem?_eq_getElem hj, e])
      rw [this] at hb; cases hb
set_option maxRecDepth 100000 in
theorem contains_bad (a : Option Addr) (cap : Nat) (L : List (Int × Int)) (w : World) (hr : RowsIn w a 2 fdC L) (hn : L.length ≤ 1000000) : Calls Tryz.prog 20 #[.slice a L.length cap, .func (.func 21) #[] #[]] w fun e w' => e = .returned (.bool (L.any badF)) ∧ Below w.heap.size w w' := by
  have HC := Lib.hid (index_bad a cap L w hr hn); clear hr hn
  go_enter Tryz.func20, Tryz.ntmps20
  go_wp2_with fail
  refine HC.out.mono ?_
  rintro e w2 ⟨r, rfl, h1, h2, h3, hb⟩
  have Hb := Lib.hid hb; clear hb
  by_cases h0 : 0 ≤ r
  · have d0 : decide (0 ≤ r) = true := decide_eq_true h0
    have He := Lib.hid (h3.1 h0); clear h3 h0 h1 h2
    go_wp2_with fail
    go_ret
    exact ⟨by rw [He.out]; rfl, Hb.out⟩
  · have d0 : decide (0 ≤ r) = false := decide_eq_false h0
    have he : L.any badF = false := by
      cases hb : L.any badF with
      | true => exact absurd (h3.2 hb) h0
      | false => rfl
    have He := Lib.hid he; clear h3 h0 h1 h2 he
    go_wp2_with fail
    go_ret
    exact ⟨by rw [He.out]; rfl, Hb.out⟩
set_option maxRecDepth 100000 in
theorem clean_any (a : Option Addr) (cap : Nat) (L : List (Int × Int)) (w : World) (hr : RowsIn w a 2 fdC L) (hn : L.length ≤ 1000000) : Calls Tryz.prog 10 #[.slice a L.length cap] w fun e w' => e = .returned (.bool (!L.any badF)) ∧ Below w.heap.size w w' := by
  have HC := Lib.hid (contains_bad a cap L w hr hn); clear hr hn
  go_enter Tryz.func10, Tryz.ntmps10
  go_wp2_with fail
  refine HC.out.mono ?_
  rintro e w2 ⟨rfl, hb⟩
  have Hb := Lib.hid hb; clear hb
  cases hx : L.any badF with
  | true =>
    have Hx := Lib.hid hx; clear hx
    go_wp2_with fail
    go_ret
    exact ⟨by rw [Hx.out]; rfl, Hb.out⟩
  | false =>
    have Hx := Lib.hid hx; clear hx
    go_wp2_with fail
    go_ret
    exact ⟨by rw [Hx.out]; rfl, Hb.out⟩
end Go.Proofs.YteijhcibdglkeaaGreatDoor
