/- The law's keep. Conditions: those stated in each theorem. -/
import Derived.Test.YtfngfphoefpndaaLogU
namespace Go.Proofs.Ytfngfphoefpndaa
open Go.RowKit Go.BigFrame Go.Maps

set_option maxRecDepth 100000 in
set_option maxHeartbeats 4000000 in
theorem keep_any {w : World} {K : Nat → Prop} {t n lo : Nat} {v : Value} {l : List Pr} (h : KpAt w K t n) (hn : n ≤ 100000) (hr : RowL w lo v l) (hl : l.length ≤ 128) (hlo : lo ≤ w.heap.size) (hK : ∀ k, K k → k < lo) :
    Calls Try.prog 28 #[.pointer (some ⟨t, 0, none⟩), v] w fun e w' => e = .returned (.tuple #[]) ∧ KpAt w' (fun k => K k ∨ lo ≤ k ∧ k < w'.heap.size) t (n + 1) ∧ Tch (fun k => K k ∨ lo ≤ k) w w' := by
  obtain ⟨tv, uv, T, U, h⟩ := h
  obtain ⟨ad, cap, rfl, -, had⟩ := hr.rows
  have hgl : ∀ k, (Value.slice ad l.length cap).ownBlock = some k → lo ≤ k := fun k e => (hr.lt e).1
  have H := Lib.hid h; clear h
  have HR := Lib.hid hr; clear hr
  have HGL := Lib.hid hgl; clear hgl
  have HAD := Lib.hid had; clear had
  have HKK := Lib.hid hK; clear hK
  obtain ⟨i0, hi, hz0, hz1, hz2⟩ := info_parts Try.infoPair
  have HI := Lib.hid hi; clear hi
  have HZ0 := Lib.hid hz0; clear hz0
  have HZ1 := Lib.hid hz1; clear hz1
  have HZ2 := Lib.hid hz2; clear hz2
  obtain ⟨i1, hj, hy0, hy1, hy2⟩ := info_parts Try.infoRow
  have HJ := Lib.hid hj; clear hj
  have HY0 := Lib.hid hy0; clear hy0
  have HY1 := Lib.hid hy1; clear hy1
  have HY2 := Lib.hid hy2; clear hy2
  go_enter Try.func28, Try.ntmps28
  go_wp2
  go_loopw [4] (fun i wr => ∃ (k : Nat) (l' : List Pr), k ≤ l.length ∧ l'.length = l.length ∧ i = .int .i64 k ∧ RowL wr lo (.slice ad l.length cap) l' ∧ Tch (lo ≤ ·) w wr) (fun i _ => l.length - (intOf i).toNat)
  case atStart => exact ⟨0, l, by omega, rfl, rfl, HR.out, Tch.refl _ _⟩
  case round =>
    obtain ⟨k, l', hk, hl', rfl, hr, ht⟩ := hrel
    have Hr := Lib.hid hr; clear hr
    have Ht := Lib.hid ht; clear ht
    by_cases hlt : k < l.length
    · obtain ⟨x, hxk⟩ : ∃ x, l'[k]? = some x := ⟨_, List.getElem?_eq_getElem (by omega)⟩
      obtain ⟨g, cap', e⟩ := Hr.out.form (by omega)
      simp only [Value.slice.injEq] at e
      obtain ⟨rfl, -, rfl⟩ := e
      obtain ⟨q0, f0⟩ := owns_cell Hr.out (g := g) rfl (j := k * 2) (u := .int .i64 x.a) (by rw [Nat.mul_comm]; exact flatP_a hxk)
      obtain ⟨q1, f1⟩ := owns_cell Hr.out (g := g) rfl (j := k * 2 + 1) (u := .int .u64 x.v) (by rw [Nat.mul_comm]; exact flatP_v hxk)
      have Hxk := Lib.hid hxk; clear hxk
      have hlg := HGL.out g rfl
      go_wp2
      go_roundw
      case rel =>
        refine ⟨k + 1, _, by omega, ?_, by go_num, (Hr.out.setv Hxk.out _).seta (x := ⟨x.a, _⟩) (List.getElem?_set_self (by omega)) _, ((Ht.out.setCell (p := ⟨g, k * 2 + 1, none⟩) (.inl hlg) _).setCell (p := ⟨g, k * 2, none⟩) (.inl hlg) _)⟩
        simp [hl']
      case measure => simp [intOf]; omega
    · have : k = l.length := by omega
      subst this
      have hsz := Ht.out.size
      have Hr2 : Hid (wr.ownsRow lo 48 2 (.slice ad l.length cap) l.length (flatP l')) := Lib.hid (by have := Hr.out; unfold RowL at this; rwa [hl'] at this)
      go_wp2_with (first
        | (at_builtin; refine wpList_append_own_at _ rfl _ _ 26 rfl lo 48 i0 _ 2 16 Try.underlying26 HI.out HZ0.out HZ1.out HZ2.out rfl (by decide) (.slice ad l.length cap) l.length (flatP l') rfl (World.ownsRow.alloc Hr2.out _) ⟨wr.heap.size, 0, none⟩ 1 1 [.int .i64 3, .int .u64 9] rfl rfl (World.news_of_block (t := 48) (fr := (0, 0)) (new_block wr _)) (by simp [Value.oneCell']) (by unfold maxLen; omega) (by omega) (by simp; omega) ?_; intro v5 w5 hown5 hgrow5 hnil5 hat5; obtain ⟨g5, cap5, rfl, -, -⟩ := hown5.form (by omega); have ht5 : Tch (lo ≤ ·) w w5 := (Ht.out.alloc _).grown hgrow5 (fun k e => .inl (HGL.out k e)); have hP5 := H.out.frame ht5 (fun k hk => by have := HKK.out k hk; show ¬ lo ≤ k; omega); have hr5 : RowL w5 lo (.slice (some ⟨g5, 0, none⟩) (l.length + 1) cap5) (l' ++ [⟨3, 9⟩]) := (by unfold RowL; rw [flatP_snoc, List.length_append, hl']; exact hown5); have c50 := hP5.head.cell (i := 0) rfl; have c51 := hP5.head.cell (i := 1) rfl; have f50 := hP5.head.free 0; have f51 := hP5.head.free 1; have hs5 := ht5.size; have HP5 := Lib.hid hP5; have HT5 := Lib.hid ht5; have HR5 := Lib.hid hr5; clear hown5 hgrow5 hnil5 hat5 hP5 ht5 hr5)
        | (at_builtin; refine wpList_append_own_at _ rfl _ _ 30 rfl 0 26 i1 _ 1 24 Try.underlying30 HJ.out HY0.out HY1.out HY2.out rfl (by decide) tv n T rfl (World.ownsRow.alloc HP5.out.rt _) ⟨w5.heap.size, 0, none⟩ 1 1 [.slice (some ⟨g5, 0, none⟩) (l.length + 1) cap5] rfl rfl (World.news_of_block (t := 26) (fr := (0, 0)) (new_block w5 _)) (by simp [Value.oneCell']) (by unfold maxLen; omega) (by omega) (by simp) ?_; intro v6 w6 hown6 hgrow6 hnil6 hat6; obtain ⟨g6, cap6, rfl, -, -⟩ := hown6.form (by omega); have f60 := (head_grown (HP5.out.head.alloc _) (World.ownsRow.alloc HP5.out.rt _) hgrow6).free 0; have c60 := (head_grown (HP5.out.head.alloc _) (World.ownsRow.alloc HP5.out.rt _) hgrow6).cell (i := 0) rfl; have Hown6 := Lib.hid hown6; have Hgrow6 := Lib.hid hgrow6; have Hat6 := Lib.hid hat6; clear hown6 hgrow6 hnil6 hat6))
      have hba : Below w5.heap.size w5 (w5.alloc (.cells #[.slice (some ⟨g5, 0, none⟩) (l.length + 1) cap5] 26)) := (Below.refl _ w5).alloc (Nat.le_refl _) _
      have hPa := HP5.out.idle hba
      obtain ⟨hP6, hT6⟩ := hPa.tell Hgrow6.out Hown6.out Hat6.out
      have hr6 := ((HR5.out.same (fun g e => hba.block g (HR5.out.lt e).2)).grown hPa.rt Hgrow6.out).head (head_grown hPa.head hPa.rt Hgrow6.out) 0 (.slice (some ⟨g6, 0, none⟩) (n + 1) cap6)
      have hT : Tch (fun k => K k ∨ lo ≤ k) w (w6.setCell ⟨t, 0, none⟩ (.slice (some ⟨g6, 0, none⟩) (n + 1) cap6)) := ((HT5.out.mono (fun _ _ h => .inr h)).alloc _).trans (hT6.mono (fun _ _ h => .inl h))
      have hP7 := hP6.more (K' := fun k => K k ∨ lo ≤ k) (fun k hk => by
        rcases hk with hk | hk
        · exact .inl hk
        · exact .inr (by rw [World.size_alloc] at hk; omega))
      obtain ⟨l5, hl5, hr5⟩ : ∃ l5 : List Pr, l5.length = l.length + 1 ∧ RowL (w6.setCell ⟨t, 0, none⟩ (.slice (some ⟨g6, 0, none⟩) (n + 1) cap6)) lo (.slice (some ⟨g5, 0, none⟩) (l.length + 1) cap5) l5 := ⟨_, by simp [hl'], hr6⟩
      have hlo6 : lo ≤ (w6.setCell ⟨t, 0, none⟩ (.slice (some ⟨g6, 0, none⟩) (n + 1) cap6)).heap.size := Nat.le_trans hlo hT.size
      clear hba hPa hP6 hT6 hr6 c50 c51 f50 f51 c60 f60
      clear Hgrow6 Hown6 Hat6 HP5 HT5 HR5
      generalize w6.setCell ⟨t, 0, none⟩ (.slice (some ⟨g6, 0, none⟩) (n + 1) cap6) = W6 at *
      have HP := Lib.hid hP7; clear hP7
      have HT := Lib.hid hT; clear hT
      have HR5 := Lib.hid hr5; clear hr5
      have hB : Below W6.heap.size W6 W6.drew := below_drew1 (Below.refl _ _)
      have HK : Hid (∀ V, Below W6.heap.size W6 V → V.cell? ⟨t, 1, none⟩ = some uv) := Lib.hid (fun V hV => (HP.out.idle hV).head.cell (i := 1) rfl)
      have HTw : Hid (∀ V, Below W6.heap.size W6 V → Calls Try.prog 29 #[.slice (some ⟨g5, 0, none⟩) (l.length + 1) cap5] V (fun e V' => ∃ y cy, e = .returned (.slice (some ⟨y, 0, none⟩) (l.length + 1) cy) ∧ RowL V' W6.heap.size (.slice (some ⟨y, 0, none⟩) (l.length + 1) cy) l5 ∧ Below W6.heap.size W6 V')) := Lib.hid (fun V hV => by
        obtain ⟨ad', cp', e1, hr1, hs1⟩ := (HR5.out.same (w' := V) (fun g e => hV.block g (HR5.out.lt e).2)).rows
        rw [hl5] at e1
        cases e1
        have := twin_any V _ cap5 l5 hr1 (by omega) (fun b e => by cases e; rfl)
        rw [hl5] at this
        refine this.mono ?_
        rintro e V' ⟨y, rfl, hy, hb⟩
        obtain ⟨gy, cy, rfl⟩ := hy.form (by omega)
        rw [hl5] at hy ⊢
        exact ⟨gy, cy, rfl, owns_mono hy (fun g e => Nat.le_trans hV.size (hy.lt e).1), hV.trans (hb.mono hV.size)⟩)
      have k1 := HK.out _ hB
      go_region_law (first | (go_simp; go_at_call 29; (with_reducible refine (HTw.out _ hB).mono ?_); rintro e V ⟨y, cy, rfl, hy, hB⟩; have k1 := HK.out _ hB; have k2 := HK.out _ (hB.alloc hB.size (.cells #[.slice (some ⟨y, 0, none⟩) (l.length + 1) cy] 26))) | (refine step_append_lies _ (by rfl) _ _ _ (by rfl) 0 26 i1 _ 1 24 Try.underlying30 HJ.out HY0.out HY1.out HY2.out rfl (by omega) uv n U (by rfl) (World.ownsRow.alloc (HP.out.idle hB).ru _) ⟨V.heap.size, 0, none⟩ 1 1 [.slice (some ⟨y, 0, none⟩) (l.length + 1) cy] (by rfl) (by rfl) (World.news_of_block (cs := #[.slice (some ⟨y, 0, none⟩) (l.length + 1) cy]) (t := 26) (fr := (0, 0)) (new_block V _)) (by simp [Value.oneCell']) (by omega) (by unfold maxLen; omega) (by omega) (by simp) (V.heap.size + 1) (by simp) ?_; intro g9 cap9 w9 hown9 hgrow9 hat9 hlt9; have hh9 := head_grown ((HP.out.idle hB).head.alloc _) (World.ownsRow.alloc (HP.out.idle hB).ru _) hgrow9; have hc9 := hh9.cell (i := 1) rfl; have f9 := hh9.free 1))
      all_goals
        have hBa : Below V.heap.size V (V.alloc (.cells #[.slice (some ⟨y, 0, none⟩) (l.length + 1) cy] 26)) := (Below.refl _ V).alloc (Nat.le_refl _) _
        have hP8 := (HP.out.idle hB).idle hBa
        have hx8 := (HR5.out.same (fun g e => hB.block g (HR5.out.lt e).2)).same (fun g e => hBa.block g (Nat.lt_of_lt_of_le (HR5.out.lt e).2 hB.size))
        have hy8 := hy.same (fun g e => hBa.block g (hy.lt e).2)
        obtain ⟨hP9, hT9⟩ := (hP8.more (K' := fun k => K k ∨ lo ≤ k) (fun _ h => h)).was hx8.low hy8.low (by omega) (fun g e => .inr (hx8.lt e).1) (fun g e => .inr (Nat.le_trans hlo6 (hy8.lt e).1)) hgrow9 hown9 (by
          rcases hat9 with e | e
          · exact .inl (by rw [e]; rfl)
          · exact .inr (by rw [World.size_alloc, e]; rfl))
        have hTT : Tch (fun k => K k ∨ lo ≤ k) w (w9.setCell ⟨t, 1, none⟩ (.slice (some ⟨g9, 0, none⟩) (n + 1) cap9)) := (HT.out.trans (((Tch.of_idle hB)).alloc _)).trans hT9
        have HP9 := Lib.hid hP9; clear hP9
        have HTT := Lib.hid hTT; clear hTT
        clear hx8 hy8 hT9 hP8 hBa
        try go_wp2
        have hlv : lo ≤ (V.alloc (.cells #[.slice (some ⟨y, 0, none⟩) (l.length + 1) cy] 26)).heap.size := by have := hB.size; simp; omega
        refine ⟨rfl, .tuple #[], (by simp [results, Try.results28, go_sem]), rfl, ⟨_, _, _, _, (HP9.out.cut).more (fun k hk => ?_)⟩, HTT.out⟩
        obtain ⟨(h1 | h1) | h1, h2⟩ := hk
        · exact .inl h1
        · exact .inr ⟨h1, h2⟩
        · exact .inr ⟨Nat.le_trans hlv h1, h2⟩

end Go.Proofs.Ytfngfphoefpndaa
