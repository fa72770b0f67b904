/- Encode beside the document's own, of no instruction: the law's walk; then any list. Conditions: the list that came in. -/
import Derived.Test.YtlppmjbfgclkgaaEncF
namespace Go.Proofs.Ytlppmjbfgclkgaa
open Go.RowKit Go.BigFrame

set_option maxRecDepth 100000 in
set_option maxHeartbeats 4000000 in
theorem writes_none (w : World) :
    Calls Try.prog 4 #[.slice none 0 0] w fun e w' => e = .returned (.bool true) ∧ Below w.heap.size w w' := by
  have Hr : Hid (RowsIn w none 5 In.cells []) := Lib.hid (.inl rfl)
  obtain ⟨i0, z0, hi, hz0, hz1, hz2, hz3⟩ := info27
  have HI := Lib.hid hi; clear hi
  have HZ0 := Lib.hid hz0; clear hz0
  have HZ1 := Lib.hid hz1; clear hz1
  have HZ2 := Lib.hid hz2; clear hz2
  have HZ3 := Lib.hid hz3; clear hz3
  go_enter Try.func4, Try.ntmps4
  have Ho3 : Hid (w.ownsRow w.heap.size 27 5 (.slice none 0 0) 0 (flatI [])) := Lib.hid (World.ownsRow_nil _ _ _ _)
  have Hb3 : Hid (Below w.heap.size w w) := Lib.hid (Below.refl _ _)
  go_wp2_with (at_builtin; refine wpList_append_own_none rfl (.tmp 14) (.tmp 15) 23 rfl w.heap.size 27 i0 5 Try.underlying23 HI.out (.slice none 0 0) 0 [] rfl (World.ownsRow_nil _ _ _ _) rfl ?_; refine Hid.out ?_)
  refine Lib.hid ?_
  go_wp2_with (at_builtin; refine wpList_append_own_at _ rfl (.tmp 16) (.tmp 19) 23 rfl w.heap.size 27 i0 z0 5 40 Try.underlying23 HI.out HZ0.out HZ1.out HZ2.out HZ3.out (by decide) (.slice none 0 0) 0 (flatI []) rfl (World.ownsRow.alloc Ho3.out _) ⟨w.heap.size, 0, none⟩ 2 2 twoMore rfl rfl (World.news_of_block (t := 27) (fr := (0, 0)) (new_block w _)) (by simp [twoMore, Value.oneCell']) (by unfold maxLen; omega) (by omega) (by have := Hb3.out.size; (first | (simp; done) | (simp; omega))) ?_; intro v4 w4 hown4 hgrow4 hnil4 hat4; refine Hid.out ?_)
  refine Lib.hid ?_
  have hb4 : Below w.heap.size w w4 := (Hb3.out.alloc Hb3.out.size _).grown hgrow4 (by have := Hb3.out.size; (first | (simp; done) | (simp; omega))) (fun g hg => (owns_lt Ho3.out hg).1)
  obtain ⟨g4, cap4, rfl, -, -⟩ := hown4.form (by omega)
  have Ho4 := Lib.hid hown4; clear hown4 hgrow4 hnil4 hat4 Ho3 Hb3
  have Hb4 := Lib.hid hb4; clear hb4
  have Hr4 := Lib.hid (Hr.out.below Hb4.out)
  have hR := fun V hV => rencode_u none 0 [] V hV (by simp) _ _ rfl rfl
  have hE := fun aa cc V hV => encode_u aa cc [] V hV (by simp) _ _ rfl rfl
  have hbl := encB_len []
  generalize encC (encP []) = ec at *
  generalize encB (encP []) = bs at *
  have HR := Lib.hid hR; clear hR
  have HE := Lib.hid hE; clear hE
  have hcp : 0 ≤ cap4 := by
    have := Ho4.out.2
    rcases this with ⟨h, _⟩ | ⟨g, cp, cur, h, _, _, h3, h4, _⟩
    · cases h
    · cases h; omega
  have hcp1 : (0 : Int) ≤ 0 ∧ (0 : Int) ≤ cap4 := by omega
  go_wp2_with (go_at_call 8; refine (HR.out _ Hr4.out).mono ?_; rintro e w5 ⟨v5, rfl, ho5, hb5⟩; refine Hid.out ?_)
  refine Lib.hid ?_
  have Ho4' := Lib.hid (owns_same Ho4.out (w' := w5) (fun g e => hb5.block g (owns_lt Ho4.out e).2))
  have Hb5 := Lib.hid (Hb4.out.trans (hb5.mono Hb4.out.size))
  have Hr5 := Lib.hid (Hr.out.below Hb5.out)
  have Hs4 := Lib.hid Hb4.out.size
  have Hs5 := Lib.hid hb5.size
  have Hg5 : Hid (∀ g, v5.ownBlock = some g → g < w5.heap.size) := Lib.hid (fun g e => (owns_lt ho5 e).2)
  have Ho5 := Lib.hid ho5; clear ho5 hb5 Ho4 Hb4 Hr4
  go_wp2_with (go_at_call 9; refine (HE.out _ _ _ (rows_own Ho4'.out)).mono ?_; rintro e w6 ⟨v6, rfl, ho6, hb6⟩; refine Hid.out ?_)
  refine Lib.hid ?_
  have Ho4 := Lib.hid (owns_same Ho4'.out (w' := w6) (fun g e => hb6.block g (owns_lt Ho4'.out e).2))
  have Hp5 := Lib.hid (owns_same Ho5.out (w' := w6) (fun g e => hb6.block g (owns_lt Ho5.out e).2))
  have Hb6 := Lib.hid (Hb5.out.trans (hb6.mono Hb5.out.size))
  have Hr6 := Lib.hid (Hr.out.below Hb6.out)
  have Hs6 := Lib.hid hb6.size
  have Hg6 : Hid (∀ g, v6.ownBlock = some g → w5.heap.size ≤ g ∧ g < w6.heap.size) := Lib.hid (fun g e => owns_lt ho6 e)
  have Ho6 := Lib.hid ho6; clear ho6 hb6 Ho4' Hb5 Hr5
  go_wp2_with (go_at_call 9; refine (HE.out _ _ _ Hr6.out).mono ?_; rintro e w7 ⟨v7, rfl, ho7, hb7⟩; refine Hid.out ?_)
  refine Lib.hid ?_
  have Hq4 := Lib.hid (owns_same Ho4.out (w' := w7) (fun g e => hb7.block g (owns_lt Ho4.out e).2))
  have Hq5 := Lib.hid (owns_same Hp5.out (w' := w7) (fun g e => hb7.block g (owns_lt Hp5.out e).2))
  have Hq6 := Lib.hid (owns_same Ho6.out (w' := w7) (fun g e => hb7.block g (owns_lt Ho6.out e).2))
  have Hb7 := Lib.hid (Hb6.out.trans (hb7.mono Hb6.out.size))
  have Hr7 := Lib.hid (Hr.out.below Hb7.out)
  have Hs7 := Lib.hid hb7.size
  have Hg7 : Hid (∀ g, v7.ownBlock = some g → w6.heap.size ≤ g) := Lib.hid (fun g e => (owns_lt ho7 e).1)
  have Ho7 := Lib.hid ho7; clear ho7 hb7 Ho4 Hp5 Ho6 Hb6 Hr6
  have hv6 := conv_own Hq6.out
  have hv5 := conv_own Hq5.out
  have hsame := same_yes (some ⟨g4, 0, none⟩) none cap4 0 [] w7 (rows_own Hq4.out) Hr7.out (by simp)
  have Hsame := Lib.hid hsame; clear hsame
  go_wp2_with (go_at_call 7; refine Hsame.out.mono ?_; rintro e w8 ⟨rfl, hb8⟩; refine Hid.out ?_)
  refine Lib.hid ?_
  clear hv5 hv6 Hsame
  have Hq4' := Lib.hid (owns_same Hq4.out (w' := w8) (fun g e => hb8.block g (owns_lt Hq4.out e).2))
  have Hu5 := Lib.hid (owns_same Hq5.out (w' := w8) (fun g e => hb8.block g (owns_lt Hq5.out e).2))
  have Hu6 := Lib.hid (owns_same Hq6.out (w' := w8) (fun g e => hb8.block g (owns_lt Hq6.out e).2))
  have Hu7 := Lib.hid (owns_same Ho7.out (w' := w8) (fun g e => hb8.block g (owns_lt Ho7.out e).2))
  have Hb8 := Lib.hid (Hb7.out.trans (hb8.mono Hb7.out.size))
  have Hsz8 := Lib.hid hb8.size
  clear hb8 Hq4 Hq5 Hq6 Ho7 Hb7 Hr7
  have c7 : w8.cell? ⟨g4, 0, none⟩ = some (.int .i64 7) := (owns_cell Hq4'.out (g := g4) rfl (j := 0) rfl).1
  have c8 : w8.cell? ⟨g4, 5, none⟩ = some (.int .i64 8) := (owns_cell Hq4'.out (g := g4) rfl (j := 5) rfl).1
  have hl1 : (0 : Int) ≤ (0 : Int) + 1 ∧ (0 : Int) + 1 < (0 : Int) + 2 := by omega
  have hl6 := len_own Hu6.out
  have hsz : Hid (w6.heap.size ≤ w8.heap.size ∧ w5.heap.size ≤ w8.heap.size) := Lib.hid ⟨by have := Hs7.out; have := Hsz8.out; omega, by have := Hs6.out; have := Hs7.out; have := Hsz8.out; omega⟩
  go_wp2_with fail
  clear hl6 c7 c8 hl1
  go_loopw [84] (fun i wr => ∃ k : Nat, k ≤ bs.length ∧ i = .int .i64 k ∧ (∃ ys : List UInt8, ys.length = bs.length ∧ wr.ownsRow w5.heap.size 5 1 v6 bs.length (Lib.byteCells ys)) ∧ Tch (fun b => v6.ownBlock = some b) w8 wr)
    (fun i _ => bs.length - (intOf i).toNat)
  case atStart => exact ⟨0, by omega, by simp, ⟨bs, rfl, Hu6.out⟩, Tch.refl _ _⟩
  case round =>
    obtain ⟨k, hk, rfl, ⟨ys, hys, ho⟩, hT⟩ := hrel
    have HT := Lib.hid hT; clear hT
    by_cases hlt : k < bs.length
    · obtain ⟨g6, cap6, rfl, -, -⟩ := ho.form (by omega)
      obtain ⟨y, hy⟩ : ∃ y, ys[k]? = some y := ⟨ys[k]'(by omega), List.getElem?_eq_getElem _⟩
      have hc := owns_cell ho (g := g6) rfl (j := k) (u := .int .u8 (y.toNat : Int)) (by simp [Lib.byteCells, hy])
      have c0 := hc.1
      have f0 := hc.2
      have hy0 : (0 : Int) ≤ (y.toNat : Int) ∧ (y.toNat : Int) < 256 := ⟨by omega, by have := y.toNat_lt; omega⟩
      have hbk : (0 : Int) ≤ k ∧ (k : Int) < bs.length := by omega
      have hput := owns_put ho hlt (.int .u8 (((y.toNat : Int) + 1) % 256))
      have e1 : (Lib.byteCells ys).set k (.int .u8 (((y.toNat : Int) + 1) % 256)) = Lib.byteCells (ys.set k (byP ((y.toNat : Int) + 1))) := by
        unfold Lib.byteCells
        rw [List.map_set, u8_val]
      rw [e1] at hput
      have hT2 := HT.out.setCell (p := ⟨g6, k, none⟩) (.inl rfl) (.int .u8 (((y.toNat : Int) + 1) % 256))
      have Hput := Lib.hid hput
      have HT2 := Lib.hid hT2
      clear hput hT2 e1 hc ho hy
      generalize (y.toNat : Int) = yz at *
      go_wp2
      go_roundw
      case rel => exact ⟨k + 1, by omega, by simp, ⟨_, by rw [List.length_set]; exact hys, Hput.out⟩, HT2.out⟩
      case measure => simp [intOf]; omega
    · obtain rfl : k = bs.length := by omega
      obtain ⟨i8, y0, j0, j1, j2, j3, j4⟩ := info8
      have J0 := Lib.hid j0; clear j0
      have J1 := Lib.hid j1; clear j1
      have J2 := Lib.hid j2; clear j2
      have J3 := Lib.hid j3; clear j3
      have J4 := Lib.hid j4; clear j4
      have Ho := Lib.hid ho; clear ho
      have hwr : w8.heap.size ≤ wr.heap.size := HT.out.size
      have Hwr := Lib.hid hwr; clear hwr
      go_wp2_with (at_builtin; refine wpList_append_own_at _ rfl (.tmp 96) (.tmp 97) 22 rfl w5.heap.size 5 i8 y0 1 1 Try.underlying22 J0.out J1.out J2.out J3.out J4.out (by decide) v6 bs.length (Lib.byteCells ys) rfl (World.ownsRow.alloc Ho.out _) ⟨wr.heap.size, 0, none⟩ 1 1 [.int .u8 1] rfl rfl (World.news_of_block (t := 5) (fr := (0, 0)) (new_block wr _)) (by simp [Value.oneCell']) (by unfold maxLen; omega) (by omega) (by have := Hwr.out; have := hsz.out; (first | (simp; done) | (simp; omega))) ?_; intro v9 w9 hown9 hgrow9 hnil9 hat9; refine Hid.out ?_)
      refine Lib.hid ?_
      have hne : ∀ g, (some g = v6.ownBlock → False) → g < w8.heap.size → w9.heap[g]? = w8.heap[g]? := fun g hg hlt => by
        have h1 := HT.out.block g hlt (fun e => hg e.symm)
        have h2 := Below.heap_alloc wr (.cells #[.int .u8 1] 5) g (by have := Hwr.out; omega)
        exact (hgrow9.block g (by have := Hwr.out; (first | (simp; done) | (simp; omega))) (fun e => hg e)).trans (h2.trans h1)
      have ho5 := owns_same Hu5.out (w' := w9) (fun g e => hne g (fun e6 => by have h1 := (Hg6.out g e6.symm).1; have h2 := Hg5.out g e; omega) (owns_lt Hu5.out e).2)
      have ho7 := owns_same Hu7.out (w' := w9) (fun g e => hne g (fun e6 => by have h1 := (Hg6.out g e6.symm).2; have h2 := Hg7.out g e; omega) (owns_lt Hu7.out e).2)
      have hb9 : Below w.heap.size w w9 := by
        have hA : Below w.heap.size w wr := Hb8.out.trans (HT.out.below Hb8.out.size (fun b hb => by have h1 := (Hg6.out b hb).1; have := Hs5.out; have := Hs4.out; omega))
        exact (hA.alloc hA.size _).grown hgrow9 (by have := hA.size; (first | (simp; done) | (simp; omega))) (fun g hg => by have h1 := (Hg6.out g hg).1; have := Hs5.out; have := Hs4.out; omega)
      have hv5 := conv_own ho5
      have hv7 := conv_own ho7
      have hl5 := len_own ho5
      have hl9 := len_own hown9
      have Hb9 := Lib.hid hb9; clear hb9 ho5 ho7 hne hown9 hgrow9 hnil9 hat9
      have hbl1 : (0 : Int) ≤ bs.length ∧ (bs.length : Int) ≤ 8192 := by omega
      go_wp2
      go_ret
      exact ⟨rfl, Hb9.out⟩

/-- An instruction's cells. -/
def instrKinds : List CK := [⟨0, .i64⟩, ⟨0, .i64⟩, ⟨0, .i64⟩, ⟨0, .i64⟩, ⟨0, .i64⟩]
theorem instr_mk (vs : List Value) (h : Fit instrKinds vs) : ∃ x : In, x.cells = vs ∧ True := by
  have h1 := h.1
  have h2 := h.2
  match vs, h1 with
  | [c0, c1, c2, c3, c4], _ =>
    obtain ⟨x0, rfl, _⟩ := h2 0 _ _ rfl rfl
    obtain ⟨x1, rfl, _⟩ := h2 1 _ _ rfl rfl
    obtain ⟨x2, rfl, _⟩ := h2 2 _ _ rfl rfl
    obtain ⟨x3, rfl, _⟩ := h2 3 _ _ rfl rfl
    obtain ⟨x4, rfl, _⟩ := h2 4 _ _ rfl rfl
    exact ⟨⟨x0, x1, x2, x3, x4⟩, rfl, trivial⟩

theorem writes_long (a : Option Addr) (len cap : Nat) (w : World) (h : 3000 < len) : Calls Try.prog 4 #[.slice a len cap] w fun e w' => e = .returned (.bool true) ∧ Below w.heap.size w w' := by
  have h1 : (3000 : Int) < len := by omega
  go_enter Try.func4, Try.ntmps4
  go_wp2
  go_ret
  exact ⟨rfl, Below.refl _ _⟩

theorem writes_any (a : Option Addr) (len cap : Nat) (w : World) (hx : Came w a len instrKinds) (hn : (a = none ∧ len = 0 ∧ cap = 0) ∨ ∃ b, a = some b) :
    Calls Try.prog 4 #[.slice a len cap] w fun e w' => e = .returned (.bool true) ∧ Below w.heap.size w w' := by
  by_cases hl : 3000 < len
  · exact writes_long a len cap w hl
  · rcases hn with ⟨rfl, rfl, rfl⟩ | ⟨b, rfl⟩
    · exact writes_none w
    · obtain ⟨xs, hxs, hr, _⟩ := rows_in (Pr := fun _ => True) hx (by simp [instrKinds]) instr_mk
      subst hxs
      exact writes_some b cap xs w hr (by omega)

end Go.Proofs.Ytlppmjbfgclkgaa
