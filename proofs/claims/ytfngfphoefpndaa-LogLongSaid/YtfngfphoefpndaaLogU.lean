/- The law's keep and still. Conditions: those stated in each theorem. -/
import Derived.Test.YtfngfphoefpndaaLogT
import Derived.Deep.RegionHeld3
namespace Go.Proofs.Ytfngfphoefpndaa
open Go.RowKit Go.BigFrame Go.Maps

theorem KpPt.cut {w : World} {K : Nat → Prop} {t m n : Nat} {tv uv : Value} {T U : List Value} (h : KpPt w K t m n tv uv T U) : KpPt w (fun k => K k ∧ k < w.heap.size) t m n tv uv T U :=
  ⟨h.head, ⟨h.kh, h.head.lt⟩, h.rt, h.ru, fun g e => ⟨h.kt g e, (owns_lt h.rt e).2⟩, fun g e => ⟨h.ku g e, (owns_lt h.ru e).2⟩, h.ne, fun i x y hx hy => by
    obtain ⟨l, h0, h1, h2, h3, h4⟩ := h.each i x y hx hy
    exact ⟨l, h0, h1, h2, fun g e => ⟨h3 g e, (h1.lt e).2⟩, fun g e => ⟨h4 g e, (h2.lt e).2⟩⟩⟩

set_option maxRecDepth 100000 in
set_option maxHeartbeats 2000000 in
theorem still_any {w : World} {K : Nat → Prop} {t n : Nat} (h : KpAt w K t n) (hn : n ≤ 100000) :
    Calls Try.prog 15 #[.pointer (some ⟨t, 0, none⟩)] w fun e w' => e = .returned (.bool true) ∧ Below w.heap.size w w' := by
  obtain ⟨tv, uv, T, U, h⟩ := h
  have hU : U.length = n := by have := h.ru.1; omega
  have hT : T.length = n := by have := h.rt.1; omega
  have H := Lib.hid h; clear h
  go_enter Try.func15, Try.ntmps15
  go_wp2
  go_loopw [3] (fun i wr => ∃ k : Nat, k ≤ n ∧ i = .int .i64 k ∧ Below w.heap.size w wr) (fun i _ => n - (intOf i).toNat)
  case atStart => exact ⟨0, by omega, rfl, Below.refl _ _⟩
  case round =>
    obtain ⟨k, hk, rfl, hb⟩ := hrel
    have hP := H.out.idle hb
    have Hb := Lib.hid hb; clear hb
    have c0 := hP.head.cell (i := 0) rfl
    have c1 := hP.head.cell (i := 1) rfl
    by_cases hlt : k < n
    · obtain ⟨x, hx⟩ : ∃ x, T[k]? = some x := ⟨_, List.getElem?_eq_getElem (by omega)⟩
      obtain ⟨y, hy⟩ : ∃ y, U[k]? = some y := ⟨_, List.getElem?_eq_getElem (by omega)⟩
      obtain ⟨l, hl, rx, ry, -, -⟩ := hP.each k x y hx hy
      obtain ⟨g, cap, rfl, -, -⟩ := hP.rt.form (by omega)
      obtain ⟨g2, cap2, rfl, -, -⟩ := hP.ru.form (by omega)
      have q1 := (owns_cell hP.rt rfl hx).1
      have q2 := (owns_cell hP.ru rfl hy).1
      obtain ⟨ad, cp, rfl, hr, -⟩ := rx.rows
      obtain ⟨ad2, cp2, rfl, hr2, -⟩ := ry.rows
      have HS := Lib.hid (same_yes wr.drew ad ad2 cp cp2 l (hr.below (below_drew1 (Below.refl _ wr))) (hr2.below (below_drew1 (Below.refl _ wr))) (by omega))
      clear hP rx ry hr hr2 hx hy
      go_wp2
      go_still_tail 14, (by kernel_rfl)
      change wpList _ _ _ _ _ wr.drew
      go_wp2_with (go_at_call 12; refine HS.out.mono ?_; rintro e w' ⟨rfl, n1, hn1⟩)
      have HB : Hid (Below w.heap.size w w') := Lib.hid (by rw [← hn1]; exact below_drewN (below_drew1 Hb.out) n1)
      clear hn1
      go_roundw
      case rel => exact ⟨k + 1, by omega, by go_num, HB.out⟩
      case measure => simp [intOf]; omega
    · have : k = n := by omega
      subst this
      obtain ⟨ad, cp, hv⟩ : ∃ ad cp, tv = .slice ad k cp := by
        rcases owns_form hP.rt with ⟨rfl, h2, -⟩ | ⟨g, cap, rfl, -⟩
        · exact ⟨none, 0, by rw [h2]⟩
        · exact ⟨_, _, rfl⟩
      subst hv
      clear hP
      go_wp2
      go_ret
      exact ⟨rfl, Hb.out⟩

end Go.Proofs.Ytfngfphoefpndaa
