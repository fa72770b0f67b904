/- Decode beside the document's own, of no byte: the law's walk; then any bytes. Conditions: the bytes that came in. -/
import Derived.Test.YtlppmjbfgclkgaaDecG
namespace Go.Proofs.Ytlppmjbfgclkgaa
open Go.RowKit Go.BigFrame

set_option maxRecDepth 100000 in
set_option maxHeartbeats 4000000 in
theorem reads_none (w : World) :
    Calls Try.prog 3 #[.slice none 0 0] w fun e w' => e = .returned (.bool true) ∧ Below w.heap.size w w' := by
  have Hr : Hid (RowsIn w none 1 cell1 []) := Lib.hid (.inl rfl)
  have hcap : ([] : List UInt8).length ≤ 0 := Nat.le_refl _
  obtain ⟨i0, z0, hi, hz0, hz1, hz2, hz3⟩ := info8
  have HI := Lib.hid hi; clear hi
  have HZ0 := Lib.hid hz0; clear hz0
  have HZ1 := Lib.hid hz1; clear hz1
  have HZ2 := Lib.hid hz2; clear hz2
  have HZ3 := Lib.hid hz3; clear hz3
  go_enter Try.func3, Try.ntmps3
  go_wp2_with (at_builtin; refine wpList_append_own_none rfl (.tmp 12) (.tmp 13) 22 rfl w.heap.size 5 i0 1 Try.underlying22 HI.out (.slice (some ⟨w.heap.size, 0, none⟩) 0 0) 0 [] rfl (owns_zero w _) rfl ?_; refine Hid.out ?_)
  refine Lib.hid ?_
  have ho3 := owns_zero w 5
  have hb3 : Below w.heap.size w (w.alloc (.cells #[] 5)) := (Below.refl _ w).alloc (Nat.le_refl _) _
  generalize w.alloc (.cells #[] 5) = w3 at *
  have Ho3 : Hid (w3.ownsRow w.heap.size 5 1 (.slice (some ⟨w.heap.size, 0, none⟩) 0 0) 0 (Lib.byteCells [])) := Lib.hid ho3
  have Hb3 := Lib.hid hb3; clear hb3 ho3
  go_wp2_with (at_builtin; refine wpList_append_own_at _ rfl (.tmp 14) (.tmp 15) 22 rfl w.heap.size 5 i0 z0 1 1 Try.underlying22 HI.out HZ0.out HZ1.out HZ2.out HZ3.out (by decide) (.slice (some ⟨w.heap.size, 0, none⟩) 0 0) 0 (Lib.byteCells []) rfl (World.ownsRow.alloc Ho3.out _) ⟨w3.heap.size, 0, none⟩ 3 3 [.int .u8 1, .int .u8 2, .int .u8 3] rfl rfl (World.news_of_block (t := 5) (fr := (0, 0)) (new_block w3 _)) (by simp [Value.oneCell']) (by unfold maxLen; omega) (by omega) (by have := Hb3.out.size; (first | (simp; done) | (simp; omega))) ?_; intro v4 w4 hown4 hgrow4 hnil4 hat4; refine Hid.out ?_)
  refine Lib.hid ?_
  have hb4 : Below w.heap.size w w4 := (Hb3.out.alloc Hb3.out.size _).grown hgrow4 (by have := Hb3.out.size; (first | (simp; done) | (simp; omega))) (fun g hg => (owns_lt Ho3.out hg).1)
  obtain ⟨g4, cap4, rfl, -, -⟩ := hown4.form (by omega)
  have Ho4 := Lib.hid hown4; clear hown4 hgrow4 hnil4 hat4 Ho3 Hb3
  have Hb4 := Lib.hid hb4; clear hb4
  have Hr4 := Lib.hid (Hr.out.below Hb4.out)
  have hR := fun V hV => rdecode_any (a := none) (cap := 0) (bs := []) V hV hcap (by simp)
  have hE := fun aa cc V hV hc => decode_any (a := aa) (cap := cc) (bs := []) V hV hc (by simp)
  have hdl : (decP []).length ≤ 1024 := by unfold decP; rw [List.length_take]; omega
  generalize decP [] = l at *
  have HR := Lib.hid hR; clear hR
  have HE := Lib.hid hE; clear hE
  have hcp : ([] : List UInt8).length ≤ cap4 := by
    have := Ho4.out.2
    rcases this with ⟨h, _⟩ | ⟨g, cp, cur, h, _, _, h3, h4, _⟩
    · cases h
    · exact Nat.zero_le _
  have hcp1 : (0 : Int) ≤ cap4 := by omega
  go_wp2_with (go_at_call 5; refine (HR.out _ Hr4.out).mono ?_; rintro e w5 ⟨v5, rfl, ho5, hb5⟩; refine Hid.out ?_)
  refine Lib.hid ?_
  have Ho4' := Lib.hid (owns_same Ho4.out (w' := w5) (fun g e => hb5.block g (owns_lt Ho4.out e).2))
  have Hb5 := Lib.hid (Hb4.out.trans (hb5.mono Hb4.out.size))
  have Hs4 := Lib.hid Hb4.out.size
  have Hs5 := Lib.hid hb5.size
  have Hg5 : Hid (∀ g, v5.ownBlock = some g → g < w5.heap.size) := Lib.hid (fun g e => (owns_lt ho5 e).2)
  have Ho5 := Lib.hid ho5; clear ho5 hb5 Ho4 Hb4 Hr4
  go_wp2_with (go_at_call 6; refine (HE.out _ _ _ (rowsB_own Ho4'.out) hcp).mono ?_; rintro e w6 ⟨v6, rfl, ho6, hb6⟩; refine Hid.out ?_)
  refine Lib.hid ?_
  have Ho4 := Lib.hid (owns_same Ho4'.out (w' := w6) (fun g e => hb6.block g (owns_lt Ho4'.out e).2))
  have Hp5 := Lib.hid (owns_same Ho5.out (w' := w6) (fun g e => hb6.block g (owns_lt Ho5.out e).2))
  have Hb6 := Lib.hid (Hb5.out.trans (hb6.mono Hb5.out.size))
  have Hs6 := Lib.hid hb6.size
  have Hg6 : Hid (∀ g, v6.ownBlock = some g → w5.heap.size ≤ g ∧ g < w6.heap.size) := Lib.hid (fun g e => owns_lt ho6 e)
  have Ho6 := Lib.hid ho6; clear ho6 hb6 Ho4' Hb5 Ho5
  go_wp2_with (go_at_call 6; refine (HE.out _ _ _ (rowsB_own Ho4.out) hcp).mono ?_; rintro e w7 ⟨v7, rfl, ho7, hb7⟩; refine Hid.out ?_)
  refine Lib.hid ?_
  have Hq4 := Lib.hid (owns_same Ho4.out (w' := w7) (fun g e => hb7.block g (owns_lt Ho4.out e).2))
  have Hq5 := Lib.hid (owns_same Hp5.out (w' := w7) (fun g e => hb7.block g (owns_lt Hp5.out e).2))
  have Hq6 := Lib.hid (owns_same Ho6.out (w' := w7) (fun g e => hb7.block g (owns_lt Ho6.out e).2))
  have Hb7 := Lib.hid (Hb6.out.trans (hb7.mono Hb6.out.size))
  have Hs7 := Lib.hid hb7.size
  have Hg7 : Hid (∀ g, v7.ownBlock = some g → w6.heap.size ≤ g) := Lib.hid (fun g e => (owns_lt ho7 e).1)
  have Ho7 := Lib.hid ho7; clear ho7 hb7 Ho4 Hp5 Ho6 Hb6
  have Hsame := Lib.hid (same_own w7 Hq6.out Hq5.out (by omega))
  go_wp2_with (go_at_call 7; refine Hsame.out.mono ?_; rintro e w8 ⟨rfl, hb8⟩; refine Hid.out ?_)
  refine Lib.hid ?_
  have Hu4 := Lib.hid (owns_same Hq4.out (w' := w8) (fun g e => hb8.block g (owns_lt Hq4.out e).2))
  have Hu5 := Lib.hid (owns_same Hq5.out (w' := w8) (fun g e => hb8.block g (owns_lt Hq5.out e).2))
  have Hu6 := Lib.hid (owns_same Hq6.out (w' := w8) (fun g e => hb8.block g (owns_lt Hq6.out e).2))
  have Hu7 := Lib.hid (owns_same Ho7.out (w' := w8) (fun g e => hb8.block g (owns_lt Ho7.out e).2))
  have Hb8 := Lib.hid (Hb7.out.trans (hb8.mono Hb7.out.size))
  have Hsz8 := Lib.hid hb8.size
  clear hb8 Hq4 Hq5 Hq6 Ho7 Hb7 Hsame
  have hc4 : w8.ownsRow w.heap.size 5 1 (.slice (some ⟨g4, 0, none⟩) (0 + 3) cap4) ([] ++ [1, 2, 3] : List UInt8).length (Lib.byteCells ([] ++ [1, 2, 3])) := by
    have := Hu4.out
    rw [Lib.byteCells_append]; simpa [Lib.byteCells] using this
  have hv4 := conv_own hc4
  have hvb := run_convert_bytes_nil (P := Try.prog) w8 22 5 Try.underlying22 Try.underlying5 0 0 9 Try.underlying9
  have hl6 := lenI Hu6.out
  clear hc4
  have hcat := cat3 []
  have hsz : Hid (w6.heap.size ≤ w8.heap.size ∧ w5.heap.size ≤ w8.heap.size) := Lib.hid ⟨by have := Hs7.out; have := Hsz8.out; omega, by have := Hs6.out; have := Hs7.out; have := Hsz8.out; omega⟩
  go_wp2_with fail
  clear hl6 hcat hv4 hvb
  go_loopw [43] (fun i wr => ∃ k : Nat, k ≤ l.length ∧ i = .int .i64 k ∧ (∃ ys : List In, ys.length = l.length ∧ wr.ownsRow w5.heap.size 27 5 v6 l.length (flatI ys)) ∧ Tch (fun b => v6.ownBlock = some b) w8 wr)
    (fun i _ => l.length - (intOf i).toNat)
  case atStart => exact ⟨0, by omega, by simp, ⟨l, rfl, Hu6.out⟩, Tch.refl _ _⟩
  case round =>
    obtain ⟨k, hk, rfl, ⟨ys, hys, ho⟩, hT⟩ := hrel
    have HT := Lib.hid hT; clear hT
    by_cases hlt : k < l.length
    · obtain ⟨g6, cap6, rfl, -, -⟩ := ho.form (by omega)
      obtain ⟨y, hy⟩ : ∃ y, ys[k]? = some y := ⟨ys[k]'(by omega), List.getElem?_eq_getElem _⟩
      have hc := owns_cell ho (g := g6) rfl (j := k * 5) (u := .int .i64 y.op) (by have := flatI_at ys k y hy 0 _ rfl; simpa using this)
      have c0 := hc.1
      have f0 := hc.2
      have hbk : (0 : Int) ≤ k ∧ (k : Int) < l.length := by omega
      have hput := owns_put5 ho (k * 5) (.int .i64 (wrap64 (y.op + 1)))
      rw [flatI_set ys k y _ hy] at hput
      have hT2 := HT.out.setCell (p := ⟨g6, k * 5, none⟩) (.inl rfl) (.int .i64 (wrap64 (y.op + 1)))
      have Hput := Lib.hid hput
      have HT2 := Lib.hid hT2
      clear hput hT2 hc ho hy
      generalize y.op = yz at *
      go_wp2
      go_roundw
      case rel => exact ⟨k + 1, by omega, by simp, ⟨_, by rw [List.length_set]; exact hys, Hput.out⟩, HT2.out⟩
      case measure => simp [intOf]; omega
    · obtain rfl : k = l.length := by omega
      obtain ⟨i8, y0, j0, j1, j2, j3, j4⟩ := info27
      have J0 := Lib.hid j0; clear j0
      have J1 := Lib.hid j1; clear j1
      have J2 := Lib.hid j2; clear j2
      have J3 := Lib.hid j3; clear j3
      have J4 := Lib.hid j4; clear j4
      have Ho := Lib.hid ho; clear ho
      have hwr : w8.heap.size ≤ wr.heap.size := HT.out.size
      have Hwr := Lib.hid hwr; clear hwr
      have Hys := Lib.hid hys; clear hys
      go_wp2_with (at_builtin; refine wpList_append_own_at _ rfl (.tmp 57) (.tmp 59) 23 rfl w5.heap.size 27 i8 y0 5 40 Try.underlying23 J0.out J1.out J2.out J3.out J4.out (by decide) v6 l.length (flatI ys) rfl (World.ownsRow.alloc Ho.out _) ⟨wr.heap.size, 0, none⟩ 1 1 [.int .i64 9, .int .i64 0, .int .i64 0, .int .i64 0, .int .i64 0] rfl rfl (World.news_of_block (t := 27) (fr := (0, 0)) (new_block wr _)) (by simp [Value.oneCell']) (by unfold maxLen; omega) (by omega) (by have := Hwr.out; have := hsz.out; (first | (simp; done) | (simp; omega))) ?_; intro v9 w9 hown9 hgrow9 hnil9 hat9; refine Hid.out ?_)
      refine Lib.hid ?_
      have hne : ∀ g, (some g = v6.ownBlock → False) → g < w8.heap.size → w9.heap[g]? = w8.heap[g]? := fun g hg hlt => by
        have h1 := HT.out.block g hlt (fun e => hg e.symm)
        have h2 := Below.heap_alloc wr (.cells #[.int .i64 9, .int .i64 0, .int .i64 0, .int .i64 0, .int .i64 0] 27) g (by have := Hwr.out; omega)
        exact (hgrow9.block g (by have := Hwr.out; (first | (simp; done) | (simp; omega))) (fun e => hg e)).trans (h2.trans h1)
      have ho5 := owns_same Hu5.out (w' := w9) (fun g e => hne g (fun e6 => by have h1 := (Hg6.out g e6.symm).1; have h2 := Hg5.out g e; omega) (owns_lt Hu5.out e).2)
      have ho7 := owns_same Hu7.out (w' := w9) (fun g e => hne g (fun e6 => by have h1 := (Hg6.out g e6.symm).2; have h2 := Hg7.out g e; omega) (owns_lt Hu7.out e).2)
      have hb9 : Below w.heap.size w w9 := by
        have hA : Below w.heap.size w wr := Hb8.out.trans (HT.out.below Hb8.out.size (fun b hb => by have h1 := (Hg6.out b hb).1; have := Hs5.out; have := Hs4.out; omega))
        exact (hA.alloc hA.size _).grown hgrow9 (by have := hA.size; (first | (simp; done) | (simp; omega))) (fun g hg => by have h1 := (Hg6.out g hg).1; have := Hs5.out; have := Hs4.out; omega)
      obtain ⟨g9, cap9, rfl, -, -⟩ := hown9.form (by omega)
      have Ho9 := Lib.hid hown9; clear hown9 hgrow9 hnil9 hat9 hne
      have Hb9 := Lib.hid hb9; clear hb9
      have P5 := Lib.hid ho5; clear ho5
      have P7 := Lib.hid ho7; clear ho7
      have Hr9 := Lib.hid (Hr.out.below Hb9.out)
      go_wp2_with (go_at_call 6; refine (HE.out _ _ _ Hr9.out hcap).mono ?_; rintro e wa ⟨va, rfl, hoa, hba⟩; refine Hid.out ?_)
      refine Lib.hid ?_
      have Q5 := Lib.hid (owns_same P5.out (w' := wa) (fun g e => hba.block g (owns_lt P5.out e).2))
      have Q7 := Lib.hid (owns_same P7.out (w' := wa) (fun g e => hba.block g (owns_lt P7.out e).2))
      have Q9 := Lib.hid (owns_same Ho9.out (w' := wa) (fun g e => hba.block g (owns_lt Ho9.out e).2))
      have Hba := Lib.hid (Hb9.out.trans (hba.mono Hb9.out.size))
      have Hoa := Lib.hid hoa; clear hoa hba P5 P7 Ho9 Hb9
      have Hs1 := Lib.hid (same_own wa Q7.out Q5.out (by omega))
      have hS2 : ∀ V, Below wa.heap.size wa V → Calls Try.prog 7 #[va, v5] V fun e w' => e = .returned (.bool true) ∧ Below V.heap.size V w' := fun V hV =>
        same_own V (owns_same Hoa.out (fun g e => hV.block g (owns_lt Hoa.out e).2)) (owns_same Q5.out (fun g e => hV.block g (owns_lt Q5.out e).2)) (by omega)
      have HS2 := Lib.hid hS2; clear hS2
      have hll : (0 : Int) ≤ l.length ∧ (l.length : Int) ≤ 1024 := by omega
      have hc9 : ∀ V, Below wa.heap.size wa V → V.cell? ⟨g9, l.length * 5, none⟩ = some (.int .i64 9) := fun V hV => by
        have h := owns_same Q9.out (w' := V) (fun g e => hV.block g (owns_lt Q9.out e).2)
        refine (owns_cell h (g := g9) rfl (j := l.length * 5) ?_).1
        rw [List.getElem?_append_right (by rw [flatI_len, Hys.out]; omega), flatI_len, Hys.out, Nat.sub_self]; rfl
      have Hc9 := Lib.hid hc9; clear hc9
      go_wp2_with (go_at_call 7; refine Hs1.out.mono ?_; rintro e wb ⟨rfl, hbb⟩; refine Hid.out ?_)
      refine Lib.hid ?_
      have Hbb := Lib.hid hbb; clear hbb
      go_wp2_with (go_at_call 7; refine (HS2.out _ Hbb.out).mono ?_; rintro e wc ⟨rfl, hbc⟩; refine Hid.out ?_)
      refine Lib.hid ?_
      have hcc := Hbb.out.trans (hbc.mono Hbb.out.size)
      have c9 := Hc9.out _ hcc
      have Hfin := Lib.hid (Hba.out.trans (hcc.mono Hba.out.size))
      clear hbc hcc
      have hs1 : ((l.length + 1 : Nat) : Int) - 1 = l.length := by omega
      go_wp2
      go_ret
      exact ⟨rfl, Hfin.out⟩

/-- A byte's cell. -/
def byteKinds : List CK := [⟨0, .u8⟩]
theorem byte_mk (vs : List Value) (h : Fit byteKinds vs) : ∃ x : UInt8, cell1 x = vs ∧ True := by
  have h1 := h.1
  have h2 := h.2
  match vs, h1 with
  | [c0], _ =>
    obtain ⟨x0, rfl, w0⟩ := h2 0 _ _ rfl rfl
    have hb : 0 ≤ x0 ∧ x0 < 256 := by
      have : (Lit.int .u8 x0).wf = true := w0
      simp [Lit.wf, IntKind.min, IntKind.max, IntKind.signed, IntKind.bits] at this
      omega
    refine ⟨byP x0, ?_, trivial⟩
    unfold cell1
    rw [u8_val, show x0 % 256 = x0 by omega]

theorem reads_long (a : Option Addr) (len cap : Nat) (w : World) (h : 20000 < len) : Calls Try.prog 3 #[.slice a len cap] w fun e w' => e = .returned (.bool true) ∧ Below w.heap.size w w' := by
  have h1 : (20000 : Int) < len := by omega
  go_enter Try.func3, Try.ntmps3
  go_wp2
  go_ret
  exact ⟨rfl, Below.refl _ _⟩

theorem reads_any (a : Option Addr) (len cap : Nat) (w : World) (hx : Came w a len byteKinds) (hc : len ≤ cap) (hn : (a = none ∧ len = 0 ∧ cap = 0) ∨ ∃ b, a = some b) :
    Calls Try.prog 3 #[.slice a len cap] w fun e w' => e = .returned (.bool true) ∧ Below w.heap.size w w' := by
  by_cases hl : 20000 < len
  · exact reads_long a len cap w hl
  · rcases hn with ⟨rfl, rfl, rfl⟩ | ⟨b, rfl⟩
    · exact reads_none w
    · obtain ⟨xs, hxs, hr, _⟩ := rows_in (Pr := fun _ => True) hx (by simp [byteKinds]) byte_mk
      subst hxs
      exact reads_some b cap xs w hr hc (by omega)

end Go.Proofs.Ytlppmjbfgclkgaa
