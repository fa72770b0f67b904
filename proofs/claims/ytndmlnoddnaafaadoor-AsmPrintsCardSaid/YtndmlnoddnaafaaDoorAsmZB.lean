/- The document's Print. Conditions: those stated in each theorem. -/
import Derived.Test.YtndmlnoddnaafaaDoorAsmZ
import Derived.Test.YtndmlnoddnaafaaDoorAsmV
import Derived.Deep.RegionHeld3
namespace Go.Proofs.YtndmlnoddnaafaaDoor
open Go.RowKit Go.BigFrame Go.Shelf Go.Maps


/-- The marks of the instructions before the k-th. -/
def RpS (w : World) (l : List In) (gn k : Nat) (W : World) : Prop := Below w.heap.size w W ∧ ∃ ys, W.ownsRow w.heap.size 4 1 (.slice (some ⟨gn, 0, none⟩) (l.length + 1) (l.length + 1)) (l.length + 1) ys ∧ ∀ j, j ≤ l.length → ys[j]? = some (.bool (markP l.length (l.take k) j))
theorem mark_next {l : List In} {k : Nat} {x : In} (hx : l[k]? = some x) (j : Nat) : markP l.length (l.take (k + 1)) j = (markP l.length (l.take k) j || (goesI l.length x && x.imm == j)) := by
  unfold markP; rw [List.take_add_one, hx]; simp
theorem line_go {n : Nat} {i : In} (h : goesI n i = true) : ∃ (A t : By) (n0 : Nat), textP i = A ++ 32 :: t ∧ 32 ∉ t ∧ (i.imm = n0 ∧ n0 ≤ n) ∧ lineP n i = A ++ 32 :: plName n0 := by
  obtain ⟨init, e1, e2⟩ := line_name h
  exact ⟨_, _, i.imm.toNat, e1, itoa_no32 _, by have := (goesI_parts h).2; omega, e2⟩
theorem line_no {n : Nat} {i : In} (h : goesI n i = false) : lineP n i = textP i := by unfold lineP; rw [h]; rfl
theorem line_len {n : Nat} (hn : n ≤ 1024) {i : In} (hi : i.Ok) : (lineP n i).length ≤ 300 := by
  have := text_len i hi
  unfold lineP
  split
  · rename_i hg
    have := goesI_parts hg
    have h3 := itoa_len (i.imm.toNat : Int) (by unfold I64; omega)
    simp only [List.length_append, List.length_take, plName, List.length_cons]
    omega
  · omega

set_option maxRecDepth 100000 in
set_option maxHeartbeats 4000000 in
theorem rprint_any (a : Option Addr) (cap : Nat) (l : List In) {w : World} (hr : RowsIn w a 5 In.cells l) (hok : ∀ i ∈ l, i.Ok) (hl : l.length ≤ 1024) : Calls Tryd.prog 7 #[.slice a l.length cap] w fun e w' => e = .returned (.tuple #[.string ⟨(printP l).toArray⟩, .int .i64 0]) ∧ Below w.heap.size w w' := by
  obtain ⟨i1, hj0, hj1, hj2, hj3⟩ := info_parts Tryd.infoBool
  have Hj := Lib.hid (And.intro hj0 (And.intro hj1 (And.intro hj2 hj3))); clear hj0 hj1 hj2 hj3
  have Hr := Lib.hid hr; clear hr
  have Hok := Lib.hid hok; clear hok
  have d1 : decide (1024 < (l.length : Int)) = false := decide_eq_false (by omega)
  have hw1 : IntKind.i64.wrap ((l.length : Int) + 1) = (l.length : Int) + 1 := by rw [IntKind.wrap_i64]; omega
  go_enter Tryd.func7, Tryd.ntmps7
  go_upto_region 4 with (at_make; refine wpList_make_full _ rfl _ _ 42 rfl w.heap.size 4 i1 _ 1 Tryd.underlying42 Hj.out.1 Hj.out.2.1 Hj.out.2.2.1 .i64 .i64 (↑l.length + 1) (↑l.length + 1) (l.length + 1) rfl rfl (by simp) (by simp) (by rw [Hj.out.2.2.2]; omega) (by unfold maxLen; omega) (Nat.le_refl _) ?_; intro w3 ho3 hg3; have Ho3 := Lib.hid ho3; have Hg3 := Lib.hid hg3; clear ho3 hg3)
  have hS : RpS w l w.heap.size 0 w3 := ⟨(Below.refl w.heap.size w).grown Hg3.out (Nat.le_refl _) (fun g e => by cases e), _, Ho3.out, fun j hj => by
    rw [made_at (by omega) rfl]; simp [markP]⟩
  clear Ho3 Hg3 Hj
  have HS := Lib.hid hS; clear hS
  obtain ⟨gn, hgne⟩ : ∃ gn, w.heap.size = gn := ⟨_, rfl⟩
  rw [hgne] at HS ⊢
  go_wp2_with fail
  go_loopw [5] (fun i wr => ∃ k : Nat, k ≤ l.length ∧ i = .int .i64 k ∧ RpS w l gn k wr) (fun i _ => l.length - (intOf i).toNat)
  case atStart => exact ⟨0, Nat.zero_le _, rfl, HS.out⟩
  case round =>
    obtain ⟨k, hk, rfl, hbw, ys, hys, hA⟩ := hrel
    clear HS
    by_cases hlt : k < l.length
    · obtain ⟨x, hx⟩ : ∃ x, l[k]? = some x := ⟨l[k], List.getElem?_eq_getElem hlt⟩
      obtain ⟨q, c, rfl, hq, hr1⟩ := (Hr.out.below hbw).row hx
      have hxo := Hok.out x (List.mem_of_getElem? hx)
      have hkk : IntKind.i64.wrap ((k : Int) + 1) = (k : Int) + 1 := by rw [IntKind.wrap_i64]; omega
      have hki : (0 : Int) ≤ k ∧ (k : Int) < l.length := by omega
      have r0 := hr1 0 _ rfl
      have r1 := hr1 1 _ rfl
      have r2 := hr1 2 _ rfl
      have r3 := hr1 3 _ rfl
      have r4 := hr1 4 _ rfl
      rw [Nat.add_zero] at r0
      clear hr1
      have hyl : ys.length = l.length + 1 := by have := hys.1; omega
      have htg := target_any x hxo l.length (l.length : Int) rfl wr
      have hmn := mark_next hx
      have hgl := fun h => (goesI_parts (n := l.length) (i := x) h).2
      have Hbw := Lib.hid hbw; clear hbw
      have Hys := Lib.hid hys; clear hys
      have HA := Lib.hid (And.intro hA hyl); clear hA hyl
      obtain ⟨xo, xa, xb, xc, xi⟩ := x
      simp only [In.cells] at r0 r1 r2 r3 r4
      simp only [In.val] at htg
      simp only at hmn hgl
      generalize goesI l.length ⟨xo, xa, xb, xc, xi⟩ = g at *
      have Htg := Lib.hid htg; clear htg hx hxo
      have Hmn := Lib.hid hmn; clear hmn
      cases g with
      | false =>
        clear hgl
        go_wp2_with fail
        refine Htg.out.mono ?_
        rintro e w4 ⟨rfl, hb4⟩
        have Hfin : Hid (RpS w l gn (k + 1) w4) := Lib.hid ⟨Hbw.out.trans (hb4.mono Hbw.out.size), ys, owns_same Hys.out (fun g e => hb4.block g (owns_lt Hys.out e).2), fun j hj => by rw [Hmn.out j]; simpa using HA.out.1 j hj⟩
        clear hb4
        go_wp2_with fail
        go_roundw
        case rel => exact ⟨k + 1, by omega, by simp, Hfin.out⟩
        case measure => simp [intOf]; omega
      | true =>
        obtain ⟨h0, h1⟩ := hgl rfl
        obtain ⟨m, rfl⟩ : ∃ m : Nat, xi = m := ⟨xi.toNat, by omega⟩
        have hmi : (0 : Int) ≤ m ∧ (m : Int) < (l.length : Int) + 1 := by omega
        clear hgl
        go_wp2_with fail
        refine Htg.out.mono ?_
        rintro e w4 ⟨rfl, hb4⟩
        have hys4 := owns_same Hys.out (w' := w4) (fun g e => hb4.block g (owns_lt Hys.out e).2)
        obtain ⟨u1, hu1⟩ : ∃ u1, ys[m]? = some u1 := ⟨ys[m]'(by have := HA.out.2; omega), List.getElem?_eq_getElem _⟩
        obtain ⟨c41, f41⟩ := owns_cell hys4 (g := gn) rfl hu1
        have hyf := (hys4.stored m (.bool true)).1
        have hb5 : Below w.heap.size w (w4.setCell ⟨gn, m, none⟩ (.bool true)) := (Hbw.out.trans (hb4.mono Hbw.out.size)).setCell (p := ⟨gn, m, none⟩) (by simp only; omega) _
        have Hfin : Hid (RpS w l gn (k + 1) (w4.setCell ⟨gn, m, none⟩ (.bool true))) := Lib.hid ⟨hb5, _, hyf, fun j hj => by
          rw [Hmn.out j]
          by_cases e : m = j
          · subst e
            rw [List.getElem?_set_self (by have := HA.out.2; omega)]; simp
          · have e1 : ((m : Int) == (j : Int)) = false := by rw [beq_eq_false_iff_ne]; omega
            rw [List.getElem?_set_ne (by omega), HA.out.1 j hj]; simp [e1]⟩
        clear hyf hb5 hb4 hys4
        go_wp2_with fail
        go_roundw
        case rel => exact ⟨k + 1, by omega, by simp, Hfin.out⟩
        case measure => simp [intOf]; omega
    · obtain rfl : k = l.length := by omega
      rw [List.take_length] at hA
      have hcm : ∀ (k : Nat), k ≤ l.length → ∀ V, Below wr.heap.size wr V → V.cell? ⟨gn, k, none⟩ = some (.bool (markP l.length l k)) := fun k hk V hV =>
        (owns_cell (owns_same hys (w' := V) (fun g e => hV.block g (owns_lt hys e).2)) (g := gn) rfl (hA k hk)).1
      have Hcm := Lib.hid hcm; clear hcm
      have Hbw := Lib.hid hbw; clear hbw hys hA
      obtain ⟨b, hbe⟩ : ∃ b, wr.heap.size = b := ⟨_, rfl⟩
      have hwb : w.heap.size ≤ wr.heap.size := Hbw.out.size
      have hbb0 : Below wr.heap.size wr wr := Below.refl _ _
      have Hbb0 := Lib.hid hbb0; clear hbb0
      go_wp2_with fail
      obtain ⟨wq, hwq⟩ : ∃ wq, wr = wq := ⟨_, rfl⟩
      rw [hbe] at Hcm hwb Hbb0
      rw [hwq] at hbe Hbw Hcm Hbb0 ⊢
      clear hwq
      go_loopw [8, 9] (fun s i wr => ∃ k2 : Nat, k2 ≤ l.length ∧ i = .int .i64 k2 ∧ s = .string ⟨(printTo l.length l k2).toArray⟩ ∧ Below b wq wr) (fun _ i _ => l.length - (intOf i).toNat)
      case atStart => exact ⟨0, Nat.zero_le _, rfl, rfl, Hbb0.out⟩
      case round =>
        obtain ⟨k2, hk2, rfl, rfl, hbb2⟩ := hrel
        clear Hbb0
        have hlen := print_len Hok.out hl k2 (by omega)
        have hlen2 : (printTo l.length l k2).length ≤ 400000 := by omega
        have Hlen := Lib.hid hlen2; clear hlen2 hlen
        have Hbb := Lib.hid hbb2; clear hbb2
        have hkk : IntKind.i64.wrap ((k2 : Int) + 1) = (k2 : Int) + 1 := by rw [IntKind.wrap_i64]; omega
        have dk : decide ((k2 : Int) ≤ (l.length : Int)) = true := decide_eq_true (by omega)
        have dkn : decide (k2 ≤ l.length) = true := decide_eq_true hk2
        have hki : (0 : Int) ≤ k2 ∧ (k2 : Int) < (l.length : Int) + 1 := by omega
        have HbW := Lib.hid (show ∀ V, Below b wq V → Below w.heap.size w V from fun V hV => Hbw.out.trans (hV.mono hwb))
        have c1 := Hcm.out k2 hk2 wr Hbb.out
        by_cases hlt2 : k2 < l.length
        · obtain ⟨x, hx⟩ : ∃ x, l[k2]? = some x := ⟨l[k2], List.getElem?_eq_getElem hlt2⟩
          have dn : ((k2 : Int) == (l.length : Int)) = false := by rw [beq_eq_false_iff_ne]; omega
          have hki2 : (0 : Int) ≤ k2 ∧ (k2 : Int) < (l.length : Int) := by omega
          have hxo := Hok.out x (List.mem_of_getElem? hx)
          have Hpr := Lib.hid (printTo_succ l.length l k2)
          have hpc : ∀ mk : Bool, markP l.length l k2 = mk → pieceP l.length l k2 = (if mk then plName k2 ++ [58, 10] else []) ++ (lineP l.length x ++ [10]) := fun mk h => by unfold pieceP; rw [h, hx]
          obtain ⟨q, c, rfl, hq, hr1⟩ := (Hr.out.below Hbw.out).row hx
          rw [hbe] at hq
          have hrw : ∀ V, Below b wq V → V.rangeAt q (c + k2 * 5) (In.cells x) := fun V hV i v hi => by
            have hx1 := hr1 i v hi
            unfold World.cell? at hx1 ⊢
            rw [hV.block q hq]; exact hx1
          have htx := fun V => rtext_any x hxo V
          have htg := fun V => target_any x hxo l.length (l.length : Int) rfl V
          have htl := text_len x hxo
          have hln := line_len hl hxo
          have hgl := line_go (n := l.length) (i := x)
          have hgn := line_no (n := l.length) (i := x)
          obtain ⟨xo, xa, xb, xc, xi⟩ := x
          simp only [In.val] at htx htg
          simp only at hgl
          simp only [In.cells] at hrw
          generalize textP ⟨xo, xa, xb, xc, xi⟩ = tx at *
          generalize lineP l.length ⟨xo, xa, xb, xc, xi⟩ = ln at *
          generalize goesI l.length ⟨xo, xa, xb, xc, xi⟩ = g at *
          have Htx := Lib.hid htx; clear htx
          have Htg := Lib.hid htg; clear htg
          have Hrw := Lib.hid hrw; clear hrw hr1 hx hxo
          have Htl := Lib.hid htl; clear htl
          cases hm : markP l.length l k2 with
          | true =>
            have hpc2 := hpc _ hm
            rw [if_pos rfl] at hpc2
            rw [hm] at c1
            rw [hpc2] at Hpr
            have Hpc := Hpr
            clear hpc hpc2 hm Hpr
            generalize printTo l.length l k2 = acc at *
            cases g with
            | false =>
              obtain rfl := hgn rfl
              clear hgl hgn
              have hdg := digits_any (k2 : Int) (by unfold I64; omega) wr
              have hil := itoa_len (k2 : Int) (by unfold I64; omega)
              have hpn : plName k2 = 108 :: Lib.itoa (k2 : Int) := rfl
              rw [hpn] at Hpc
              generalize Lib.itoa (k2 : Int) = it at *
              have Hdg := Lib.hid hdg; clear hdg hpn
              go_wp2_with (refine wpList_cat2 rfl _ _ (.tmp 51) (.const (.string ⟨#[108]⟩)) rfl acc [108] rfl rfl (by have := Hlen.out; omega) (by simp) ?_; refine Hid.out ?_)
              refine Lib.hid ?_
              obtain ⟨a2, ha2⟩ : ∃ a2, acc ++ [108] = a2 := ⟨_, rfl⟩
              rw [ha2]
              have Ha2 := Lib.hid (And.intro ha2 (show a2.length ≤ 400001 by rw [← ha2]; have := Hlen.out; simp; omega)); clear ha2
              go_wp2_with fail
              refine Hdg.out.mono ?_
              rintro e w5 ⟨rfl, hb5⟩
              have Hb5 := Lib.hid (Hbb.out.trans (hb5.mono (by have := Hbb.out.size; omega))); clear hb5
              go_wp2_with (refine wpList_cat2 rfl _ _ (.tmp 52) (.tmp 54) rfl a2 it rfl rfl (by have := Ha2.out.2; omega) (by omega) ?_; refine Hid.out ?_)
              refine Lib.hid ?_
              obtain ⟨a3, ha3⟩ : ∃ a3, a2 ++ it = a3 := ⟨_, rfl⟩
              rw [ha3]
              have Ha3 := Lib.hid (And.intro ha3 (show a3.length ≤ 400030 by rw [← ha3]; have := Ha2.out.2; simp; omega)); clear ha3
              go_wp2_with (refine wpList_cat2 rfl _ _ (.tmp 55) (.const (.string ⟨#[58, 10]⟩)) rfl a3 [58, 10] rfl rfl (by have := Ha3.out.2; omega) (by simp) ?_; refine Hid.out ?_)
              refine Lib.hid ?_
              obtain ⟨a4, ha4⟩ : ∃ a4, a3 ++ [58, 10] = a4 := ⟨_, rfl⟩
              rw [ha4]
              have Ha4 := Lib.hid (And.intro (show a4 = acc ++ (108 :: it ++ [58, 10]) by rw [← ha4, ← Ha3.out.1, ← Ha2.out.1]; simp) (show a4.length ≤ 400040 by rw [← ha4]; have := Ha3.out.2; simp; omega)); clear ha4
              have Hpr := Hpc; clear Hpc
              have hr5 := Hrw.out w5 Hb5.out
              have s0 := hr5 0 _ rfl
              have s1 := hr5 1 _ rfl
              have s2 := hr5 2 _ rfl
              have s3 := hr5 3 _ rfl
              have s4 := hr5 4 _ rfl
              rw [Nat.add_zero] at s0
              clear hr5
              go_wp2_with fail
              refine (Htx.out _).mono ?_
              rintro e w6 ⟨rfl, hb6⟩
              have Hb6 := Lib.hid (Hb5.out.trans (hb6.mono (by have := Hb5.out.size; omega))); clear hb6 s0 s1 s2 s3 s4
              have hr6 := Hrw.out w6 Hb6.out
              have s0 := hr6 0 _ rfl
              have s1 := hr6 1 _ rfl
              have s2 := hr6 2 _ rfl
              have s3 := hr6 3 _ rfl
              have s4 := hr6 4 _ rfl
              rw [Nat.add_zero] at s0
              clear hr6
              go_wp2_with fail
              refine (Htg.out _).mono ?_
              rintro e w7 ⟨rfl, hb7⟩
              have Hb7 := Lib.hid (Hb6.out.trans (hb7.mono (by have := Hb6.out.size; omega))); clear hb7 s0 s1 s2 s3 s4
              have Hln := Lib.hid hln; clear hln
              go_wp2_with (refine wpList_cat2 rfl _ _ (.tmp 93) (.tmp 94) rfl a4 ln rfl rfl (by have := Ha4.out.2; omega) (by have := Hln.out; omega) ?_; refine Hid.out ?_)
              refine Lib.hid ?_
              obtain ⟨a5, ha5⟩ : ∃ a5, a4 ++ ln = a5 := ⟨_, rfl⟩
              rw [ha5]
              have Ha5 := Lib.hid (And.intro ha5 (show a5.length ≤ 400440 by rw [← ha5]; have := Ha4.out.2; have := Hln.out; simp; omega)); clear ha5
              go_wp2_with (refine wpList_cat2 rfl _ _ (.tmp 95) (.const (.string ⟨#[10]⟩)) rfl a5 [10] rfl rfl (by have := Ha5.out.2; omega) (by simp) ?_)
              go_roundw
              case rel => exact ⟨k2 + 1, by omega, by simp, by rw [Hpr.out, ← Ha5.out.1, Ha4.out.1]; simp, Hb7.out⟩
              case measure => simp [intOf]; omega
            | true =>
              have Hgl := Lib.hid (hgl rfl); clear hgl
              clear hgn
              have hdg := digits_any (k2 : Int) (by unfold I64; omega) wr
              have hil := itoa_len (k2 : Int) (by unfold I64; omega)
              have hpn : plName k2 = 108 :: Lib.itoa (k2 : Int) := rfl
              rw [hpn] at Hpc
              generalize Lib.itoa (k2 : Int) = it at *
              have Hdg := Lib.hid hdg; clear hdg hpn
              go_wp2_with (refine wpList_cat2 rfl _ _ (.tmp 51) (.const (.string ⟨#[108]⟩)) rfl acc [108] rfl rfl (by have := Hlen.out; omega) (by simp) ?_; refine Hid.out ?_)
              refine Lib.hid ?_
              obtain ⟨a2, ha2⟩ : ∃ a2, acc ++ [108] = a2 := ⟨_, rfl⟩
              rw [ha2]
              have Ha2 := Lib.hid (And.intro ha2 (show a2.length ≤ 400001 by rw [← ha2]; have := Hlen.out; simp; omega)); clear ha2
              go_wp2_with fail
              refine Hdg.out.mono ?_
              rintro e w5 ⟨rfl, hb5⟩
              have Hb5 := Lib.hid (Hbb.out.trans (hb5.mono (by have := Hbb.out.size; omega))); clear hb5
              go_wp2_with (refine wpList_cat2 rfl _ _ (.tmp 52) (.tmp 54) rfl a2 it rfl rfl (by have := Ha2.out.2; omega) (by omega) ?_; refine Hid.out ?_)
              refine Lib.hid ?_
              obtain ⟨a3, ha3⟩ : ∃ a3, a2 ++ it = a3 := ⟨_, rfl⟩
              rw [ha3]
              have Ha3 := Lib.hid (And.intro ha3 (show a3.length ≤ 400030 by rw [← ha3]; have := Ha2.out.2; simp; omega)); clear ha3
              go_wp2_with (refine wpList_cat2 rfl _ _ (.tmp 55) (.const (.string ⟨#[58, 10]⟩)) rfl a3 [58, 10] rfl rfl (by have := Ha3.out.2; omega) (by simp) ?_; refine Hid.out ?_)
              refine Lib.hid ?_
              obtain ⟨a4, ha4⟩ : ∃ a4, a3 ++ [58, 10] = a4 := ⟨_, rfl⟩
              rw [ha4]
              have Ha4 := Lib.hid (And.intro (show a4 = acc ++ (108 :: it ++ [58, 10]) by rw [← ha4, ← Ha3.out.1, ← Ha2.out.1]; simp) (show a4.length ≤ 400040 by rw [← ha4]; have := Ha3.out.2; simp; omega)); clear ha4
              have Hpr := Hpc; clear Hpc
              have hr5 := Hrw.out w5 Hb5.out
              have s0 := hr5 0 _ rfl
              have s1 := hr5 1 _ rfl
              have s2 := hr5 2 _ rfl
              have s3 := hr5 3 _ rfl
              have s4 := hr5 4 _ rfl
              rw [Nat.add_zero] at s0
              clear hr5
              go_wp2_with fail
              refine (Htx.out _).mono ?_
              rintro e w6 ⟨rfl, hb6⟩
              have Hb6 := Lib.hid (Hb5.out.trans (hb6.mono (by have := Hb5.out.size; omega))); clear hb6 s0 s1 s2 s3 s4
              have hr6 := Hrw.out w6 Hb6.out
              have s0 := hr6 0 _ rfl
              have s1 := hr6 1 _ rfl
              have s2 := hr6 2 _ rfl
              have s3 := hr6 3 _ rfl
              have s4 := hr6 4 _ rfl
              rw [Nat.add_zero] at s0
              clear hr6
              go_wp2_with fail
              refine (Htg.out _).mono ?_
              rintro e w7 ⟨rfl, hb7⟩
              have Hb7 := Lib.hid (Hb6.out.trans (hb7.mono (by have := Hb6.out.size; omega))); clear hb7 s0 s1 s2 s3 s4
              obtain ⟨A, t, n0, hA, hno, him, hl2⟩ := Hgl.out
              have HA2 := Lib.hid (And.intro hA (show tx.length = A.length + 1 + t.length by rw [hA]; simp; omega)); clear hA
              have Hno := Lib.hid (And.intro hno (And.intro him hl2)); clear hno him hl2 Hgl
              go_wp2_with fail
              go_loopw [13] (fun i2 w8 => w8 = w7 ∧ ∃ j : Nat, A.length + 1 ≤ j ∧ j ≤ tx.length ∧ i2 = .int .i64 j) (fun i2 _ => (intOf i2).toNat)
              case atStart => exact ⟨rfl, tx.length, by have := HA2.out.2; omega, Nat.le_refl _, by simp⟩
              case round =>
                obtain ⟨rfl, j, hj1, hj2, rfl⟩ := hrel
                obtain ⟨i, rfl⟩ : ∃ i, j = i + 1 := ⟨j - 1, by omega⟩
                have htl3 := Htl.out
                have hwm : IntKind.i64.wrap (i : Int) = (i : Int) := by rw [IntKind.wrap_i64]; omega
                have hwm2 : IntKind.i64.wrap (((i + 1 : Nat) : Int) - 1) = (i : Int) := by rw [IntKind.wrap_i64]; omega
                obtain ⟨bb, hbb⟩ : ∃ bb, tx[i]? = some bb := ⟨tx[i], List.getElem?_eq_getElem (by omega)⟩
                have hix := index_str hbb
                by_cases hi : i = A.length
                · subst hi
                  have h32 : bb = 32 := by rw [HA2.out.1] at hbb; simpa using hbb.symm
                  subst h32
                  have hix2 : ∀ V : World, (Instr.index 9 (.string ⟨tx.toArray⟩) (.int .i64 (A.length : Int))).run Tryd.prog V = .ok (.int .u8 32) V := hix
                  clear hix hbb
                  have hst := slice_take tx (A.length + 1) hj2
                  have htk : tx.take (A.length + 1) = A ++ [32] := by rw [HA2.out.1]; exact take_mid A 32 t
                  obtain ⟨hno, ⟨him, hin⟩, hl2⟩ := Hno.out
                  rw [htk] at hst
                  have hAl : A.length ≤ 200 := by omega
                  obtain ⟨l1, e1⟩ : ∃ l1, A ++ [32] = l1 := ⟨_, rfl⟩
                  have n1 : l1.length ≤ 201 := by rw [← e1]; simp; omega
                  rw [e1] at hst
                  have hst2 : ∀ V : World, (Instr.sliceAt 9 (.string ⟨tx.toArray⟩) none (some (.int .i64 ((A.length : Int) + 1))) none).run Tryd.prog V = .ok (.string ⟨l1.toArray⟩) V := fun V => hst V
                  clear hst
                  obtain ⟨l2, e2⟩ : ∃ l2, l1 ++ [108] = l2 := ⟨_, rfl⟩
                  have n2 : l2.length ≤ 202 := by rw [← e2]; simp; omega
                  have hc1 : ∀ V : World, (Op.stringOp BinOp.add ⟨l1.toArray⟩ ⟨#[108]⟩).run Tryd.prog V = .ok (.string ⟨l2.toArray⟩) V := fun V => by rw [← e2]; exact run_string_add_lists V l1 [108] (by omega) (by simp)
                  have him2 : I64 (n0 : Int) := by unfold I64; omega
                  have hil := itoa_len (n0 : Int) him2
                  have hdg : ∀ V, Below b wq V → Calls Tryd.prog 19 #[.int .i64 (n0 : Int)] V fun e w' => e = .returned (.string ⟨(Lib.itoa (n0 : Int)).toArray⟩) ∧ Below b wq w' := fun V hV => (digits_any (n0 : Int) him2 V).mono (fun e w' h => ⟨h.1, hV.trans (h.2.mono (by have := hV.size; omega))⟩)
                  have hl3 : ln = l2 ++ Lib.itoa (n0 : Int) := by rw [hl2, ← e2, ← e1]; simp [plName]
                  generalize Lib.itoa (n0 : Int) = it2 at *
                  have hc2 : ∀ V : World, (Op.stringOp BinOp.add ⟨l2.toArray⟩ ⟨it2.toArray⟩).run Tryd.prog V = .ok (.string ⟨ln.toArray⟩) V := fun V => by rw [hl3]; exact run_string_add_lists V l2 it2 (by omega) (by omega)
                  have Hdg := Lib.hid hdg; clear hdg
                  have hD := Hb7.out.drew
                  subst him
                  clear e1 e2 n1 n2 hl3 htk hl2 hno hil Hno HA2
                  have Hln := Lib.hid hln; clear hln
                  go_upto_region 23 with fail
                  go_region_held3 (fun V => True) (first | trivial) (first | (go_at_call 19; (with_reducible refine (Hdg.out _ hD).mono ?_); rintro e V ⟨rfl, hD⟩))
                  have Hb8 := Lib.hid hD; clear hD
                  go_wp2_with (refine wpList_cat2 rfl _ _ (.tmp 93) (.tmp 94) rfl a4 ln rfl rfl (by have := Ha4.out.2; omega) (by have := Hln.out; omega) ?_; refine Hid.out ?_)
                  refine Lib.hid ?_
                  obtain ⟨a5, ha5⟩ : ∃ a5, a4 ++ ln = a5 := ⟨_, rfl⟩
                  rw [ha5]
                  have Ha5 := Lib.hid (And.intro ha5 (show a5.length ≤ 400440 by rw [← ha5]; have := Ha4.out.2; have := Hln.out; simp; omega)); clear ha5
                  go_wp2_with (refine wpList_cat2 rfl _ _ (.tmp 95) (.const (.string ⟨#[10]⟩)) rfl a5 [10] rfl rfl (by have := Ha5.out.2; omega) (by simp) ?_)
                  go_roundw
                  case rel => exact ⟨k2 + 1, by omega, by simp, by rw [Hpr.out, ← Ha5.out.1, Ha4.out.1]; simp, Hb8.out⟩
                  case measure => simp [intOf]; omega
                · have hne : ((bb.toNat : Int) != 32) = true := by
                    have h1 : bb ≠ 32 := fun e => by
                      subst e
                      rw [HA2.out.1, List.getElem?_append_right (by omega)] at hbb
                      obtain ⟨m, hm⟩ : ∃ m, i - A.length = m + 1 := ⟨i - A.length - 1, by omega⟩
                      rw [hm, List.getElem?_cons_succ] at hbb
                      exact Hno.out.1 (List.mem_of_getElem? hbb)
                    have h2 : bb.toNat ≠ 32 := fun h => h1 (UInt8.toNat_inj.1 h)
                    simp only [bne_iff_ne, ne_eq]; omega
                  go_wp2_with fail
                  go_roundw
                  case rel => exact ⟨by trivial, i, by omega, by omega, by simp⟩
                  case measure => simp [intOf]
          | false =>
            have hpc2 := hpc _ hm
            rw [if_neg (by decide)] at hpc2
            rw [hm] at c1
            rw [hpc2] at Hpr
            clear hpc hpc2 hm
            generalize printTo l.length l k2 = acc at *
            cases g with
            | false =>
              obtain rfl := hgn rfl
              clear hgl hgn
              obtain ⟨a4, ha4⟩ : ∃ a4, acc = a4 := ⟨_, rfl⟩
              obtain ⟨w5, hw5⟩ : ∃ w5, wr = w5 := ⟨_, rfl⟩
              have Hb5 : Hid (Below b wq w5) := Lib.hid (by rw [← hw5]; exact Hbb.out)
              have Ha4 := Lib.hid (And.intro (show a4 = acc ++ [] by rw [← ha4]; simp) (show a4.length ≤ 400040 by rw [← ha4]; have := Hlen.out; omega))
              rw [ha4, hw5]
              rw [hw5] at c1
              have hr5 := Hrw.out w5 Hb5.out
              have s0 := hr5 0 _ rfl
              have s1 := hr5 1 _ rfl
              have s2 := hr5 2 _ rfl
              have s3 := hr5 3 _ rfl
              have s4 := hr5 4 _ rfl
              rw [Nat.add_zero] at s0
              clear hr5
              go_wp2_with fail
              refine (Htx.out _).mono ?_
              rintro e w6 ⟨rfl, hb6⟩
              have Hb6 := Lib.hid (Hb5.out.trans (hb6.mono (by have := Hb5.out.size; omega))); clear hb6 s0 s1 s2 s3 s4
              have hr6 := Hrw.out w6 Hb6.out
              have s0 := hr6 0 _ rfl
              have s1 := hr6 1 _ rfl
              have s2 := hr6 2 _ rfl
              have s3 := hr6 3 _ rfl
              have s4 := hr6 4 _ rfl
              rw [Nat.add_zero] at s0
              clear hr6
              go_wp2_with fail
              refine (Htg.out _).mono ?_
              rintro e w7 ⟨rfl, hb7⟩
              have Hb7 := Lib.hid (Hb6.out.trans (hb7.mono (by have := Hb6.out.size; omega))); clear hb7 s0 s1 s2 s3 s4
              have Hln := Lib.hid hln; clear hln
              go_wp2_with (refine wpList_cat2 rfl _ _ (.tmp 93) (.tmp 94) rfl a4 ln rfl rfl (by have := Ha4.out.2; omega) (by have := Hln.out; omega) ?_; refine Hid.out ?_)
              refine Lib.hid ?_
              obtain ⟨a5, ha5⟩ : ∃ a5, a4 ++ ln = a5 := ⟨_, rfl⟩
              rw [ha5]
              have Ha5 := Lib.hid (And.intro ha5 (show a5.length ≤ 400440 by rw [← ha5]; have := Ha4.out.2; have := Hln.out; simp; omega)); clear ha5
              go_wp2_with (refine wpList_cat2 rfl _ _ (.tmp 95) (.const (.string ⟨#[10]⟩)) rfl a5 [10] rfl rfl (by have := Ha5.out.2; omega) (by simp) ?_)
              go_roundw
              case rel => exact ⟨k2 + 1, by omega, by simp, by rw [Hpr.out, ← Ha5.out.1, Ha4.out.1]; simp, Hb7.out⟩
              case measure => simp [intOf]; omega
            | true =>
              have Hgl := Lib.hid (hgl rfl); clear hgl
              clear hgn
              obtain ⟨a4, ha4⟩ : ∃ a4, acc = a4 := ⟨_, rfl⟩
              obtain ⟨w5, hw5⟩ : ∃ w5, wr = w5 := ⟨_, rfl⟩
              have Hb5 : Hid (Below b wq w5) := Lib.hid (by rw [← hw5]; exact Hbb.out)
              have Ha4 := Lib.hid (And.intro (show a4 = acc ++ [] by rw [← ha4]; simp) (show a4.length ≤ 400040 by rw [← ha4]; have := Hlen.out; omega))
              rw [ha4, hw5]
              rw [hw5] at c1
              have hr5 := Hrw.out w5 Hb5.out
              have s0 := hr5 0 _ rfl
              have s1 := hr5 1 _ rfl
              have s2 := hr5 2 _ rfl
              have s3 := hr5 3 _ rfl
              have s4 := hr5 4 _ rfl
              rw [Nat.add_zero] at s0
              clear hr5
              go_wp2_with fail
              refine (Htx.out _).mono ?_
              rintro e w6 ⟨rfl, hb6⟩
              have Hb6 := Lib.hid (Hb5.out.trans (hb6.mono (by have := Hb5.out.size; omega))); clear hb6 s0 s1 s2 s3 s4
              have hr6 := Hrw.out w6 Hb6.out
              have s0 := hr6 0 _ rfl
              have s1 := hr6 1 _ rfl
              have s2 := hr6 2 _ rfl
              have s3 := hr6 3 _ rfl
              have s4 := hr6 4 _ rfl
              rw [Nat.add_zero] at s0
              clear hr6
              go_wp2_with fail
              refine (Htg.out _).mono ?_
              rintro e w7 ⟨rfl, hb7⟩
              have Hb7 := Lib.hid (Hb6.out.trans (hb7.mono (by have := Hb6.out.size; omega))); clear hb7 s0 s1 s2 s3 s4
              obtain ⟨A, t, n0, hA, hno, him, hl2⟩ := Hgl.out
              have HA2 := Lib.hid (And.intro hA (show tx.length = A.length + 1 + t.length by rw [hA]; simp; omega)); clear hA
              have Hno := Lib.hid (And.intro hno (And.intro him hl2)); clear hno him hl2 Hgl
              go_wp2_with fail
              go_loopw [13] (fun i2 w8 => w8 = w7 ∧ ∃ j : Nat, A.length + 1 ≤ j ∧ j ≤ tx.length ∧ i2 = .int .i64 j) (fun i2 _ => (intOf i2).toNat)
              case atStart => exact ⟨rfl, tx.length, by have := HA2.out.2; omega, Nat.le_refl _, by simp⟩
              case round =>
                obtain ⟨rfl, j, hj1, hj2, rfl⟩ := hrel
                obtain ⟨i, rfl⟩ : ∃ i, j = i + 1 := ⟨j - 1, by omega⟩
                have htl3 := Htl.out
                have hwm : IntKind.i64.wrap (i : Int) = (i : Int) := by rw [IntKind.wrap_i64]; omega
                have hwm2 : IntKind.i64.wrap (((i + 1 : Nat) : Int) - 1) = (i : Int) := by rw [IntKind.wrap_i64]; omega
                obtain ⟨bb, hbb⟩ : ∃ bb, tx[i]? = some bb := ⟨tx[i], List.getElem?_eq_getElem (by omega)⟩
                have hix := index_str hbb
                by_cases hi : i = A.length
                · subst hi
                  have h32 : bb = 32 := by rw [HA2.out.1] at hbb; simpa using hbb.symm
                  subst h32
                  have hix2 : ∀ V : World, (Instr.index 9 (.string ⟨tx.toArray⟩) (.int .i64 (A.length : Int))).run Tryd.prog V = .ok (.int .u8 32) V := hix
                  clear hix hbb
                  have hst := slice_take tx (A.length + 1) hj2
                  have htk : tx.take (A.length + 1) = A ++ [32] := by rw [HA2.out.1]; exact take_mid A 32 t
                  obtain ⟨hno, ⟨him, hin⟩, hl2⟩ := Hno.out
                  rw [htk] at hst
                  have hAl : A.length ≤ 200 := by omega
                  obtain ⟨l1, e1⟩ : ∃ l1, A ++ [32] = l1 := ⟨_, rfl⟩
                  have n1 : l1.length ≤ 201 := by rw [← e1]; simp; omega
                  rw [e1] at hst
                  have hst2 : ∀ V : World, (Instr.sliceAt 9 (.string ⟨tx.toArray⟩) none (some (.int .i64 ((A.length : Int) + 1))) none).run Tryd.prog V = .ok (.string ⟨l1.toArray⟩) V := fun V => hst V
                  clear hst
                  obtain ⟨l2, e2⟩ : ∃ l2, l1 ++ [108] = l2 := ⟨_, rfl⟩
                  have n2 : l2.length ≤ 202 := by rw [← e2]; simp; omega
                  have hc1 : ∀ V : World, (Op.stringOp BinOp.add ⟨l1.toArray⟩ ⟨#[108]⟩).run Tryd.prog V = .ok (.string ⟨l2.toArray⟩) V := fun V => by rw [← e2]; exact run_string_add_lists V l1 [108] (by omega) (by simp)
                  have him2 : I64 (n0 : Int) := by unfold I64; omega
                  have hil := itoa_len (n0 : Int) him2
                  have hdg : ∀ V, Below b wq V → Calls Tryd.prog 19 #[.int .i64 (n0 : Int)] V fun e w' => e = .returned (.string ⟨(Lib.itoa (n0 : Int)).toArray⟩) ∧ Below b wq w' := fun V hV => (digits_any (n0 : Int) him2 V).mono (fun e w' h => ⟨h.1, hV.trans (h.2.mono (by have := hV.size; omega))⟩)
                  have hl3 : ln = l2 ++ Lib.itoa (n0 : Int) := by rw [hl2, ← e2, ← e1]; simp [plName]
                  generalize Lib.itoa (n0 : Int) = it2 at *
                  have hc2 : ∀ V : World, (Op.stringOp BinOp.add ⟨l2.toArray⟩ ⟨it2.toArray⟩).run Tryd.prog V = .ok (.string ⟨ln.toArray⟩) V := fun V => by rw [hl3]; exact run_string_add_lists V l2 it2 (by omega) (by omega)
                  have Hdg := Lib.hid hdg; clear hdg
                  have hD := Hb7.out.drew
                  subst him
                  clear e1 e2 n1 n2 hl3 htk hl2 hno hil Hno HA2
                  have Hln := Lib.hid hln; clear hln
                  go_upto_region 23 with fail
                  go_region_held3 (fun V => True) (first | trivial) (first | (go_at_call 19; (with_reducible refine (Hdg.out _ hD).mono ?_); rintro e V ⟨rfl, hD⟩))
                  have Hb8 := Lib.hid hD; clear hD
                  go_wp2_with (refine wpList_cat2 rfl _ _ (.tmp 93) (.tmp 94) rfl a4 ln rfl rfl (by have := Ha4.out.2; omega) (by have := Hln.out; omega) ?_; refine Hid.out ?_)
                  refine Lib.hid ?_
                  obtain ⟨a5, ha5⟩ : ∃ a5, a4 ++ ln = a5 := ⟨_, rfl⟩
                  rw [ha5]
                  have Ha5 := Lib.hid (And.intro ha5 (show a5.length ≤ 400440 by rw [← ha5]; have := Ha4.out.2; have := Hln.out; simp; omega)); clear ha5
                  go_wp2_with (refine wpList_cat2 rfl _ _ (.tmp 95) (.const (.string ⟨#[10]⟩)) rfl a5 [10] rfl rfl (by have := Ha5.out.2; omega) (by simp) ?_)
                  go_roundw
                  case rel => exact ⟨k2 + 1, by omega, by simp, by rw [Hpr.out, ← Ha5.out.1, Ha4.out.1]; simp, Hb8.out⟩
                  case measure => simp [intOf]; omega
                · have hne : ((bb.toNat : Int) != 32) = true := by
                    have h1 : bb ≠ 32 := fun e => by
                      subst e
                      rw [HA2.out.1, List.getElem?_append_right (by omega)] at hbb
                      obtain ⟨m, hm⟩ : ∃ m, i - A.length = m + 1 := ⟨i - A.length - 1, by omega⟩
                      rw [hm, List.getElem?_cons_succ] at hbb
                      exact Hno.out.1 (List.mem_of_getElem? hbb)
                    have h2 : bb.toNat ≠ 32 := fun h => h1 (UInt8.toNat_inj.1 h)
                    simp only [bne_iff_ne, ne_eq]; omega
                  go_wp2_with fail
                  go_roundw
                  case rel => exact ⟨by trivial, i, by omega, by omega, by simp⟩
                  case measure => simp [intOf]
        · obtain rfl : k2 = l.length := by omega
          have dn : ((l.length : Int) == (l.length : Int)) = true := by simp
          have hpe : printP l = printTo l.length l l.length ++ pieceP l.length l l.length := printTo_succ l.length l l.length
          have hno : l[l.length]? = none := by simp
          cases hm : markP l.length l l.length with
          | true =>
            have hpc2 : pieceP l.length l l.length = plName l.length ++ [58, 10] ++ [] := by unfold pieceP; rw [hm, hno]; rfl
            rw [hm] at c1
            rw [hpc2] at hpe
            clear hpc2 hm hno
            have Hpc := Lib.hid hpe; clear hpe
            generalize printTo l.length l l.length = acc at *
            have hdg := digits_any (l.length : Int) (by unfold I64; omega) wr
            have hil := itoa_len (l.length : Int) (by unfold I64; omega)
            have hpn : plName l.length = 108 :: Lib.itoa (l.length : Int) := rfl
            rw [hpn] at Hpc
            generalize Lib.itoa (l.length : Int) = it at *
            have Hdg := Lib.hid hdg; clear hdg hpn
            go_wp2_with (refine wpList_cat2 rfl _ _ (.tmp 51) (.const (.string ⟨#[108]⟩)) rfl acc [108] rfl rfl (by have := Hlen.out; omega) (by simp) ?_; refine Hid.out ?_)
            refine Lib.hid ?_
            obtain ⟨a2, ha2⟩ : ∃ a2, acc ++ [108] = a2 := ⟨_, rfl⟩
            rw [ha2]
            have Ha2 := Lib.hid (And.intro ha2 (show a2.length ≤ 400001 by rw [← ha2]; have := Hlen.out; simp; omega)); clear ha2
            go_wp2_with fail
            refine Hdg.out.mono ?_
            rintro e w5 ⟨rfl, hb5⟩
            have Hb5 := Lib.hid (Hbb.out.trans (hb5.mono (by have := Hbb.out.size; omega))); clear hb5
            go_wp2_with (refine wpList_cat2 rfl _ _ (.tmp 52) (.tmp 54) rfl a2 it rfl rfl (by have := Ha2.out.2; omega) (by omega) ?_; refine Hid.out ?_)
            refine Lib.hid ?_
            obtain ⟨a3, ha3⟩ : ∃ a3, a2 ++ it = a3 := ⟨_, rfl⟩
            rw [ha3]
            have Ha3 := Lib.hid (And.intro ha3 (show a3.length ≤ 400030 by rw [← ha3]; have := Ha2.out.2; simp; omega)); clear ha3
            go_wp2_with (refine wpList_cat2 rfl _ _ (.tmp 55) (.const (.string ⟨#[58, 10]⟩)) rfl a3 [58, 10] rfl rfl (by have := Ha3.out.2; omega) (by simp) ?_; refine Hid.out ?_)
            refine Lib.hid ?_
            obtain ⟨a4, ha4⟩ : ∃ a4, a3 ++ [58, 10] = a4 := ⟨_, rfl⟩
            rw [ha4]
            have Ha4 := Lib.hid (And.intro (show a4 = acc ++ (108 :: it ++ [58, 10]) by rw [← ha4, ← Ha3.out.1, ← Ha2.out.1]; simp) (show a4.length ≤ 400040 by rw [← ha4]; have := Ha3.out.2; simp; omega)); clear ha4
            have Hpr := Hpc; clear Hpc
            go_wp2_with fail
            exact bodyPost_ret (results_tmp2 rfl _ _ _) rfl ⟨by show Ending.returned (Value.tuple #[.string ⟨a4.toArray⟩, .int .i64 0]) = _; rw [Hpr.out, Ha4.out.1]; simp, HbW.out _ Hb5.out⟩
          | false =>
            have hpc2 : pieceP l.length l l.length = [] ++ [] := by unfold pieceP; rw [hm, hno]; rfl
            rw [hm] at c1
            rw [hpc2] at hpe
            clear hpc2 hm hno
            have Hpr := Lib.hid hpe; clear hpe
            generalize printTo l.length l l.length = acc at *
            obtain ⟨a4, ha4⟩ : ∃ a4, acc = a4 := ⟨_, rfl⟩
            obtain ⟨w5, hw5⟩ : ∃ w5, wr = w5 := ⟨_, rfl⟩
            have Hb5 : Hid (Below b wq w5) := Lib.hid (by rw [← hw5]; exact Hbb.out)
            have Ha4 := Lib.hid (And.intro (show a4 = acc ++ [] by rw [← ha4]; simp) (show a4.length ≤ 400040 by rw [← ha4]; have := Hlen.out; omega))
            rw [ha4, hw5]
            rw [hw5] at c1
            go_wp2_with fail
            exact bodyPost_ret (results_tmp2 rfl _ _ _) rfl ⟨by show Ending.returned (Value.tuple #[.string ⟨a4.toArray⟩, .int .i64 0]) = _; rw [Hpr.out, Ha4.out.1]; simp, HbW.out _ Hb5.out⟩

end Go.Proofs.YtndmlnoddnaafaaDoor
