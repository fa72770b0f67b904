/- Encode beside the document's own: the law's walk. Conditions: the list that came in. -/
import Derived.Test.YtlppmjbfgclkgaaEncC
import Derived.Test.YtlppmjbfgclkgaaEncD
import Derived.Test.YtlppmjbfgclkgaaEncE
namespace Go.Proofs.Ytlppmjbfgclkgaa
open Go.RowKit Go.BigFrame

theorem len_own {V : World} {lo : Nat} {v : Value} {n : Nat} {xs : List Value} (h : V.ownsRow lo 5 1 v n xs) (W : World) : (Builtin.len_ #[22] 3 #[v]).run Try.prog W = .ok (.int .i64 n) W := by
  rcases owns_form h with ⟨rfl, rfl, -⟩ | ⟨g, cap, rfl, -⟩
  · kernel_rfl
  · simp [Builtin.len_, Try.underlying22]; rfl
theorem owns_put {w : World} {lo : Nat} {e : TypeId} {g n cap : Nat} {xs : List Value} (h : w.ownsRow lo e 1 (.slice (some ⟨g, 0, none⟩) n cap) n xs) {k : Nat} (hk : k < n) (u : Value) :
    (w.setCell ⟨g, k, none⟩ u).ownsRow lo e 1 (.slice (some ⟨g, 0, none⟩) n cap) n (xs.set k u) := by
  obtain ⟨h1, h2⟩ := h
  refine ⟨by rw [List.length_set]; exact h1, ?_⟩
  rcases h2 with ⟨h, _⟩ | ⟨g', cap', cur, hv, h3, h4, h5, h6, h7, h8⟩
  · cases h
  · cases hv
    refine .inr ⟨g, cap, cur.setIfInBounds k u, rfl, h3, ?_, h5, h6, by simpa using h7, ?_⟩
    · simp only [World.setCell, Array.getElem?_modify, if_true, h4, Option.map_some]
      simp
    · rw [← h8, Array.toList_setIfInBounds, List.take_set]

/-- Two more, and what is behind them. -/
def twoMore : List Value := [.int .i64 7, .int .i64 0, .int .i64 0, .int .i64 0, .int .i64 0, .int .i64 8, .int .i64 0, .int .i64 0, .int .i64 0, .int .i64 0]

def encC (o : Option (List UInt8)) : Int := match o with | none => 2 | some _ => 0
def encB (o : Option (List UInt8)) : List UInt8 := match o with | none => [] | some bs => bs
theorem EncOut.uni {w w' : World} {o : Option (List UInt8)} {e : Ending} (h : EncOut w o e w') : ∃ v, e = .returned (.tuple #[v, .int .i64 (encC o)]) ∧ w'.ownsRow w.heap.size 5 1 v (encB o).length (Lib.byteCells (encB o)) ∧ Below w.heap.size w w' := by
  cases o with
  | none => exact ⟨_, h.1, World.ownsRow_nil _ _ _ _, h.2⟩
  | some bs => exact h
theorem encB_len (l : List In) : (encB (encP l)).length ≤ 8192 := by
  unfold encP
  split
  · rename_i h; simp only [encB, flat_len]; omega
  · simp [encB]
theorem encode_u (a : Option Addr) (cap : Nat) (l : List In) (w : World) (hr : RowsIn w a 5 In.cells l) (hl : l.length ≤ 1000000) (ec : Int) (bs : List UInt8) (hc : encC (encP l) = ec) (hb : encB (encP l) = bs) :
    Calls Try.prog 9 #[.slice a l.length cap] w fun e w' => ∃ v, e = .returned (.tuple #[v, .int .i64 ec]) ∧ w'.ownsRow w.heap.size 5 1 v bs.length (Lib.byteCells bs) ∧ Below w.heap.size w w' := by
  subst hc hb; exact (encode_any a cap l w hr hl).mono fun e w' h => h.uni
theorem rencode_u (a : Option Addr) (cap : Nat) (l : List In) (w : World) (hr : RowsIn w a 5 In.cells l) (hl : l.length ≤ 1000000) (ec : Int) (bs : List UInt8) (hc : encC (encP l) = ec) (hb : encB (encP l) = bs) :
    Calls Try.prog 8 #[.slice a l.length cap] w fun e w' => ∃ v, e = .returned (.tuple #[v, .int .i64 ec]) ∧ w'.ownsRow w.heap.size 5 1 v bs.length (Lib.byteCells bs) ∧ Below w.heap.size w w' := by
  subst hc hb; exact (rencode_any a cap l w hr hl).mono fun e w' h => h.uni

set_option maxRecDepth 100000 in
set_option maxHeartbeats 4000000 in
theorem writes_some (ad : Addr) (cap : Nat) (l : List In) (w : World) (hr : RowsIn w (some ad) 5 In.cells l) (hl : l.length ≤ 3000) :
    Calls Try.prog 4 #[.slice (some ad) l.length cap] w fun e w' => e = .returned (.bool true) ∧ Below w.heap.size w w' := by
  have Hr := Lib.hid hr; clear hr
  obtain ⟨i0, z0, hi, hz0, hz1, hz2, hz3⟩ := info27
  have HI := Lib.hid hi; clear hi
  have HZ0 := Lib.hid hz0; clear hz0
  have HZ1 := Lib.hid hz1; clear hz1
  have HZ2 := Lib.hid hz2; clear hz2
  have HZ3 := Lib.hid hz3; clear hz3
  go_enter Try.func4, Try.ntmps4
  go_wp2_with (at_builtin; refine wpList_append_own_at _ rfl (.tmp 14) (.tmp 15) 23 rfl w.heap.size 27 i0 z0 5 40 Try.underlying23 HI.out HZ0.out HZ1.out HZ2.out HZ3.out (by decide) (.slice none 0 0) 0 [] rfl (World.ownsRow_nil _ _ _ _) ad l.length cap (flatI l) rfl (flatI_len l) (rows_news Hr.out ad rfl) (flatI_one l) (by unfold maxLen; omega) (by omega) (Nat.le_refl _) ?_; intro v3 w3 hown3 hgrow3 hnil3 hat3; refine Hid.out ?_)
  refine Lib.hid ?_
  have hb3 : Below w.heap.size w w3 := (Below.refl _ w).grown hgrow3 (Nat.le_refl _) (fun g hg => by cases hg)
  rw [List.nil_append, Nat.zero_add] at hown3
  have Ho3 := Lib.hid hown3; clear hown3 hgrow3 hnil3 hat3
  have Hb3 := Lib.hid hb3; clear hb3
  go_wp2_with (at_builtin; refine wpList_append_own_at _ rfl (.tmp 16) (.tmp 19) 23 rfl w.heap.size 27 i0 z0 5 40 Try.underlying23 HI.out HZ0.out HZ1.out HZ2.out HZ3.out (by decide) v3 l.length (flatI l) rfl (World.ownsRow.alloc Ho3.out _) ⟨w3.heap.size, 0, none⟩ 2 2 twoMore rfl rfl (World.news_of_block (t := 27) (fr := (0, 0)) (new_block w3 _)) (by simp [twoMore, Value.oneCell']) (by unfold maxLen; omega) (by omega) (by have := Hb3.out.size; simp; omega) ?_; intro v4 w4 hown4 hgrow4 hnil4 hat4; refine Hid.out ?_)
  refine Lib.hid ?_
  have hb4 : Below w.heap.size w w4 := (Hb3.out.alloc Hb3.out.size _).grown hgrow4 (by have := Hb3.out.size; simp; omega) (fun g hg => (owns_lt Ho3.out hg).1)
  obtain ⟨g4, cap4, rfl, -, -⟩ := hown4.form (by omega)
  have Ho4 := Lib.hid hown4; clear hown4 hgrow4 hnil4 hat4 Ho3 Hb3
  have Hb4 := Lib.hid hb4; clear hb4
  have Hr4 := Lib.hid (Hr.out.below Hb4.out)
  have hR := fun V hV => rencode_u (some ad) cap l V hV (by omega) _ _ rfl rfl
  have hE := fun aa cc V hV => encode_u aa cc l V hV (by omega) _ _ rfl rfl
  have hbl := encB_len l
  generalize encC (encP l) = ec at *
  generalize encB (encP l) = bs at *
  have HR := Lib.hid hR; clear hR
  have HE := Lib.hid hE; clear hE
  have hcp : l.length ≤ cap4 := by
    have := Ho4.out.2
    rcases this with ⟨h, _⟩ | ⟨g, cp, cur, h, _, _, h3, h4, _⟩
    · cases h
    · cases h; omega
  have hcp1 : (0 : Int) ≤ l.length ∧ (l.length : Int) ≤ cap4 := by omega
  go_wp2_with (go_at_call 8; refine (HR.out _ Hr4.out).mono ?_; rintro e w5 ⟨v5, rfl, ho5, hb5⟩; refine Hid.out ?_)
  refine Lib.hid ?_
  have Ho4' := Lib.hid (owns_same Ho4.out (w' := w5) (fun g e => hb5.block g (owns_lt Ho4.out e).2))
  have Hb5 := Lib.hid (Hb4.out.trans (hb5.mono Hb4.out.size))
  have Hr5 := Lib.hid (Hr.out.below Hb5.out)
  have Hs4 := Lib.hid Hb4.out.size
  have Hs5 := Lib.hid hb5.size
  have Hg5 : Hid (∀ g, v5.ownBlock = some g → g < w5.heap.size) := Lib.hid (fun g e => (owns_lt ho5 e).2)
  have Ho5 := Lib.hid ho5; clear ho5 hb5 Ho4 Hb4 Hr4
  go_wp2_with (go_at_call 9; refine (HE.out _ _ _ (rows_own Ho4'.out)).mono ?_; rintro e w6 ⟨v6, rfl, ho6, hb6⟩; refine Hid.out ?_)
  refine Lib.hid ?_
  have Ho4 := Lib.hid (owns_same Ho4'.out (w' := w6) (fun g e => hb6.block g (owns_lt Ho4'.out e).2))
  have Hp5 := Lib.hid (owns_same Ho5.out (w' := w6) (fun g e => hb6.block g (owns_lt Ho5.out e).2))
  have Hb6 := Lib.hid (Hb5.out.trans (hb6.mono Hb5.out.size))
  have Hr6 := Lib.hid (Hr.out.below Hb6.out)
  have Hs6 := Lib.hid hb6.size
  have Hg6 : Hid (∀ g, v6.ownBlock = some g → w5.heap.size ≤ g ∧ g < w6.heap.size) := Lib.hid (fun g e => owns_lt ho6 e)
  have Ho6 := Lib.hid ho6; clear ho6 hb6 Ho4' Hb5 Hr5
  go_wp2_with (go_at_call 9; refine (HE.out _ _ _ Hr6.out).mono ?_; rintro e w7 ⟨v7, rfl, ho7, hb7⟩; refine Hid.out ?_)
  refine Lib.hid ?_
  have Hq4 := Lib.hid (owns_same Ho4.out (w' := w7) (fun g e => hb7.block g (owns_lt Ho4.out e).2))
  have Hq5 := Lib.hid (owns_same Hp5.out (w' := w7) (fun g e => hb7.block g (owns_lt Hp5.out e).2))
  have Hq6 := Lib.hid (owns_same Ho6.out (w' := w7) (fun g e => hb7.block g (owns_lt Ho6.out e).2))
  have Hb7 := Lib.hid (Hb6.out.trans (hb7.mono Hb6.out.size))
  have Hr7 := Lib.hid (Hr.out.below Hb7.out)
  have Hs7 := Lib.hid hb7.size
  have Hg7 : Hid (∀ g, v7.ownBlock = some g → w6.heap.size ≤ g) := Lib.hid (fun g e => (owns_lt ho7 e).1)
  have Ho7 := Lib.hid ho7; clear ho7 hb7 Ho4 Hp5 Ho6 Hb6 Hr6
  have hv6 := conv_own Hq6.out
  have hv5 := conv_own Hq5.out
  have hsame := same_yes (some ⟨g4, 0, none⟩) (some ad) cap4 cap l w7 (rows_own Hq4.out) Hr7.out (by omega)
  have Hsame := Lib.hid hsame; clear hsame
  go_wp2_with (go_at_call 7; refine Hsame.out.mono ?_; rintro e w8 ⟨rfl, hb8⟩; refine Hid.out ?_)
  refine Lib.hid ?_
  clear hv5 hv6 Hsame
  have Hq4' := Lib.hid (owns_same Hq4.out (w' := w8) (fun g e => hb8.block g (owns_lt Hq4.out e).2))
  have Hu5 := Lib.hid (owns_same Hq5.out (w' := w8) (fun g e => hb8.block g (owns_lt Hq5.out e).2))
  have Hu6 := Lib.hid (owns_same Hq6.out (w' := w8) (fun g e => hb8.block g (owns_lt Hq6.out e).2))
  have Hu7 := Lib.hid (owns_same Ho7.out (w' := w8) (fun g e => hb8.block g (owns_lt Ho7.out e).2))
  have Hb8 := Lib.hid (Hb7.out.trans (hb8.mono Hb7.out.size))
  have Hsz8 := Lib.hid hb8.size
  clear hb8 Hq4 Hq5 Hq6 Ho7 Hb7 Hr7
  have c7 : w8.cell? ⟨g4, l.length * 5, none⟩ = some (.int .i64 7) := (owns_cell Hq4'.out (g := g4) rfl (j := l.length * 5) (by rw [List.getElem?_append_right (by rw [flatI_len]; omega), flatI_len, Nat.sub_self]; rfl)).1
  have c8 : w8.cell? ⟨g4, (l.length + 1) * 5, none⟩ = some (.int .i64 8) := (owns_cell Hq4'.out (g := g4) rfl (j := (l.length + 1) * 5) (by rw [List.getElem?_append_right (by rw [flatI_len]; omega), flatI_len, show (l.length + 1) * 5 - l.length * 5 = 5 by omega]; rfl)).1
  have hl1 : (0 : Int) ≤ (l.length : Int) + 1 ∧ (l.length : Int) + 1 < (l.length : Int) + 2 := by omega
  have hl6 := len_own Hu6.out
  have hsz : Hid (w6.heap.size ≤ w8.heap.size ∧ w5.heap.size ≤ w8.heap.size) := Lib.hid ⟨by have := Hs7.out; have := Hsz8.out; omega, by have := Hs6.out; have := Hs7.out; have := Hsz8.out; omega⟩
  go_wp2_with fail
  clear hl6 c7 c8 hl1
  go_loopw [84] (fun i wr => ∃ k : Nat, k ≤ bs.length ∧ i = .int .i64 k ∧ (∃ ys : List UInt8, ys.length = bs.length ∧ wr.ownsRow w5.heap.size 5 1 v6 bs.length (Lib.byteCells ys)) ∧ Tch (fun b => v6.ownBlock = some b) w8 wr)
    (fun i _ => bs.length - (intOf i).toNat)
  case atStart => exact ⟨0, by omega, by simp, ⟨bs, rfl, Hu6.out⟩, Tch.refl _ _⟩
  case round =>
    obtain ⟨k, hk, rfl, ⟨ys, hys, ho⟩, hT⟩ := hrel
    have HT := Lib.hid hT; clear hT
    by_cases hlt : k < bs.length
    · obtain ⟨g6, cap6, rfl, -, -⟩ := ho.form (by omega)
      obtain ⟨y, hy⟩ : ∃ y, ys[k]? = some y := ⟨ys[k]'(by omega), List.getElem?_eq_getElem _⟩
      have hc := owns_cell ho (g := g6) rfl (j := k) (u := .int .u8 (y.toNat : Int)) (by simp [Lib.byteCells, hy])
      have c0 := hc.1
      have f0 := hc.2
      have hy0 : (0 : Int) ≤ (y.toNat : Int) ∧ (y.toNat : Int) < 256 := ⟨by omega, by have := y.toNat_lt; omega⟩
      have hbk : (0 : Int) ≤ k ∧ (k : Int) < bs.length := by omega
      have hput := owns_put ho hlt (.int .u8 (((y.toNat : Int) + 1) % 256))
      have e1 : (Lib.byteCells ys).set k (.int .u8 (((y.toNat : Int) + 1) % 256)) = Lib.byteCells (ys.set k (byP ((y.toNat : Int) + 1))) := by
        unfold Lib.byteCells
        rw [List.map_set, u8_val]
      rw [e1] at hput
      have hT2 := HT.out.setCell (p := ⟨g6, k, none⟩) (.inl rfl) (.int .u8 (((y.toNat : Int) + 1) % 256))
      have Hput := Lib.hid hput
      have HT2 := Lib.hid hT2
      clear hput hT2 e1 hc ho hy
      generalize (y.toNat : Int) = yz at *
      go_wp2
      go_roundw
      case rel => exact ⟨k + 1, by omega, by simp, ⟨_, by rw [List.length_set]; exact hys, Hput.out⟩, HT2.out⟩
      case measure => simp [intOf]; omega
    · obtain rfl : k = bs.length := by omega
      obtain ⟨i8, y0, j0, j1, j2, j3, j4⟩ := info8
      have J0 := Lib.hid j0; clear j0
      have J1 := Lib.hid j1; clear j1
      have J2 := Lib.hid j2; clear j2
      have J3 := Lib.hid j3; clear j3
      have J4 := Lib.hid j4; clear j4
      have Ho := Lib.hid ho; clear ho
      have hwr : w8.heap.size ≤ wr.heap.size := HT.out.size
      have Hwr := Lib.hid hwr; clear hwr
      go_wp2_with (at_builtin; refine wpList_append_own_at _ rfl (.tmp 96) (.tmp 97) 22 rfl w5.heap.size 5 i8 y0 1 1 Try.underlying22 J0.out J1.out J2.out J3.out J4.out (by decide) v6 bs.length (Lib.byteCells ys) rfl (World.ownsRow.alloc Ho.out _) ⟨wr.heap.size, 0, none⟩ 1 1 [.int .u8 1] rfl rfl (World.news_of_block (t := 5) (fr := (0, 0)) (new_block wr _)) (by simp [Value.oneCell']) (by unfold maxLen; omega) (by omega) (by have := Hwr.out; have := hsz.out; simp; omega) ?_; intro v9 w9 hown9 hgrow9 hnil9 hat9; refine Hid.out ?_)
      refine Lib.hid ?_
      have hne : ∀ g, (some g = v6.ownBlock → False) → g < w8.heap.size → w9.heap[g]? = w8.heap[g]? := fun g hg hlt => by
        have h1 := HT.out.block g hlt (fun e => hg e.symm)
        have h2 := Below.heap_alloc wr (.cells #[.int .u8 1] 5) g (by have := Hwr.out; omega)
        exact (hgrow9.block g (by have := Hwr.out; simp; omega) (fun e => hg e)).trans (h2.trans h1)
      have ho5 := owns_same Hu5.out (w' := w9) (fun g e => hne g (fun e6 => by have h1 := (Hg6.out g e6.symm).1; have h2 := Hg5.out g e; omega) (owns_lt Hu5.out e).2)
      have ho7 := owns_same Hu7.out (w' := w9) (fun g e => hne g (fun e6 => by have h1 := (Hg6.out g e6.symm).2; have h2 := Hg7.out g e; omega) (owns_lt Hu7.out e).2)
      have hb9 : Below w.heap.size w w9 := by
        have hA : Below w.heap.size w wr := Hb8.out.trans (HT.out.below Hb8.out.size (fun b hb => by have h1 := (Hg6.out b hb).1; have := Hs5.out; have := Hs4.out; omega))
        exact (hA.alloc hA.size _).grown hgrow9 (by have := hA.size; simp; omega) (fun g hg => by have h1 := (Hg6.out g hg).1; have := Hs5.out; have := Hs4.out; omega)
      have hv5 := conv_own ho5
      have hv7 := conv_own ho7
      have hl5 := len_own ho5
      have hl9 := len_own hown9
      have Hb9 := Lib.hid hb9; clear hb9 ho5 ho7 hne hown9 hgrow9 hnil9 hat9
      have hbl1 : (0 : Int) ≤ bs.length ∧ (bs.length : Int) ≤ 8192 := by omega
      go_wp2
      go_ret
      exact ⟨rfl, Hb9.out⟩

end Go.Proofs.Ytlppmjbfgclkgaa
