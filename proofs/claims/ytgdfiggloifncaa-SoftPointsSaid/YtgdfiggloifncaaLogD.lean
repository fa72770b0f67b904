/- A log: Read, Write, Clear, New. Conditions: those stated in each theorem. -/
import Derived.Test.YtgdfiggloifncaaLogC
namespace Go.Proofs.Ytgdfiggloifncaa
open Go.RowKit Go.BigFrame Go.Maps

section
variable {w w' : World} {a : Nat} {f f' : Lg} {S : Nat → Prop}

/-- What a call leaves that may turn a log. -/
def LOut (w : World) (S : Nat → Prop) (a : Nat) (f' : Lg) (w' : World) : Prop := LgAt w' (Gr S w w') a f' ∧ Tch S w w'
theorem LOut.of_idle (h : LgAt w S a f) (hb : Below w.heap.size w w') : LOut w S a f w' := ⟨(h.below hb).more (fun _ _ e => .inl e), Tch.of_idle hb⟩
theorem LOut.refl (h : LgAt w S a f) : LOut w S a f w := .of_idle h (Below.refl _ _)

/-- What a log's block holds where its reads turned. -/
theorem LgPt.addR {pr pw : Value} {br bw : Nat} (h : LgPt w a pr br pw bw f) (hS : ∀ k, Own a pr br pw bw k → S k) {x : Pr} (k : AddOut w a 1 br pr (lcells a pr br pw bw) f.r x w') : LOut w S a { f with r := f.r ++ [x] } w' := by
  obtain ⟨pv, h1, h2, h3, h4⟩ := k
  have hn : ∀ k, (k = bw ∨ pw.ownBlock = some k) → k ≠ a ∧ k ≠ br ∧ pr.ownBlock ≠ some k := fun k hk => by
    rcases hk with rfl | e
    · refine ⟨(h.wl.map.ne h.head).symm, h.maps.symm, fun e => ?_⟩
      obtain ⟨c, hc⟩ := owns_kind h.rl.row e
      exact h.wl.map.ne hc rfl
    · obtain ⟨c, hc⟩ := owns_kind h.wl.row e
      refine ⟨fun e2 => ?_, h.rl.map.ne hc, fun e2 => h.rows k e2 e⟩
      subst e2
      have := h.head
      unfold Holds at this
      rw [hc] at this; cases this
  have hk : ∀ k, (k = bw ∨ pw.ownBlock = some k) → w'.heap[k]? = w.heap[k]? := fun k hk => h4.block k (h.lt (by rcases hk with e | e; exact .inr (.inr (.inl e)); exact .inr (.inr (.inr (.inr e))))) (fun e => by
    obtain ⟨n1, n2, n3⟩ := hn k hk
    rcases e with e | e | e
    · exact n1 e
    · exact n2 e
    · exact n3 e)
  refine ⟨⟨pv, br, pw, bw, ⟨h1, h2, h.wl.same (hk bw (.inl rfl)) (fun g e => hk g (.inr e)), h.maps, fun g e e2 => ?_⟩, fun k e => ?_⟩, h4.mono (fun k _ e => ?_)⟩
  · rcases h3 g e with e3 | ⟨e3, _⟩
    · exact h.rows g e3 e2
    · have := (owns_lt h.wl.row e2).2; omega
  · rcases e with e | e | e | e | e
    · exact .inl (hS k (.inl e))
    · exact .inl (hS k (.inr (.inl e)))
    · exact .inl (hS k (.inr (.inr (.inl e))))
    · rcases h3 k e with e3 | e3
      · exact .inl (hS k (.inr (.inr (.inr (.inl e3)))))
      · exact .inr e3
    · exact .inl (hS k (.inr (.inr (.inr (.inr e)))))
  · rcases e with e | e | e
    · exact hS k (.inl e)
    · exact hS k (.inr (.inl e))
    · exact hS k (.inr (.inr (.inr (.inl e))))
theorem LgPt.addW {pr pw : Value} {br bw : Nat} (h : LgPt w a pr br pw bw f) (hS : ∀ k, Own a pr br pw bw k → S k) {x : Pr} (k : AddOut w a 3 bw pw (lcells a pr br pw bw) f.w x w') : LOut w S a { f with w := f.w ++ [x] } w' := by
  obtain ⟨pv, h1, h2, h3, h4⟩ := k
  have hn : ∀ k, (k = br ∨ pr.ownBlock = some k) → k ≠ a ∧ k ≠ bw ∧ pw.ownBlock ≠ some k := fun k hk => by
    rcases hk with rfl | e
    · refine ⟨(h.rl.map.ne h.head).symm, h.maps, fun e => ?_⟩
      obtain ⟨c, hc⟩ := owns_kind h.wl.row e
      exact h.rl.map.ne hc rfl
    · obtain ⟨c, hc⟩ := owns_kind h.rl.row e
      refine ⟨fun e2 => ?_, h.wl.map.ne hc, fun e2 => h.rows k e e2⟩
      subst e2
      have := h.head
      unfold Holds at this
      rw [hc] at this; cases this
  have hk : ∀ k, (k = br ∨ pr.ownBlock = some k) → w'.heap[k]? = w.heap[k]? := fun k hk => h4.block k (h.lt (by rcases hk with e | e; exact .inr (.inl e); exact .inr (.inr (.inr (.inl e))))) (fun e => by
    obtain ⟨n1, n2, n3⟩ := hn k hk
    rcases e with e | e | e
    · exact n1 e
    · exact n2 e
    · exact n3 e)
  refine ⟨⟨pr, br, pv, bw, ⟨h1, h.rl.same (hk br (.inl rfl)) (fun g e => hk g (.inr e)), h2, h.maps, fun g e e2 => ?_⟩, fun k e => ?_⟩, h4.mono (fun k _ e => ?_)⟩
  · rcases h3 g e2 with e3 | ⟨e3, _⟩
    · exact h.rows g e e3
    · have := (owns_lt h.rl.row e).2; omega
  · rcases e with e | e | e | e | e
    · exact .inl (hS k (.inl e))
    · exact .inl (hS k (.inr (.inl e)))
    · exact .inl (hS k (.inr (.inr (.inl e))))
    · exact .inl (hS k (.inr (.inr (.inr (.inl e)))))
    · rcases h3 k e with e3 | e3
      · exact .inl (hS k (.inr (.inr (.inr (.inr e3)))))
      · exact .inr e3
  · rcases e with e | e | e
    · exact hS k (.inl e)
    · exact hS k (.inr (.inr (.inl e)))
    · exact hS k (.inr (.inr (.inr (.inr e))))
/-- A value turned among the writes. -/
theorem LgPt.setW {pr pw : Value} {br bw : Nat} (h : LgPt w a pr br pw bw f) (hS : ∀ k, Own a pr br pw bw k → S k) {i g : Nat} (hi : i < f.w.length) {x : Pr} (hx : f.w[i]? = some x) (hg : pw.ownBlock = some g) (v : Int) (hv : (Lit.int .u64 v).wf = true) : LOut w S a { f with w := f.w.set i ⟨x.a, v⟩ } (w.setCell ⟨g, i * 2 + 1, none⟩ (.int .u64 v)) := by
  have hb : ∀ k, k ≠ g → (w.setCell ⟨g, i * 2 + 1, none⟩ (.int .u64 v)).heap[k]? = w.heap[k]? := fun k hk => Below.heap_setCell w ⟨g, i * 2 + 1, none⟩ _ k hk
  obtain ⟨c, hc⟩ := owns_kind h.wl.row hg
  have hrow : (w.setCell ⟨g, i * 2 + 1, none⟩ (.int .u64 v)).ownsRow 0 84 2 pw (f.w.set i ⟨x.a, v⟩).length (flatP (f.w.set i ⟨x.a, v⟩)) := by
    obtain ⟨g', cap, rfl, -, -⟩ := h.wl.row.form (by omega)
    cases hg
    have := (h.wl.row.stored (i * 2 + 1) (.int .u64 v)).1
    rw [List.length_set, ← flatP_set hx, Nat.mul_comm 2 i]
    exact this
  have hag : a ≠ g := fun e => by
    subst e
    have := h.head
    unfold Holds at this
    rw [hc] at this; cases this
  refine ⟨⟨pr, br, pw, bw, ⟨h.head.same (hb a hag), h.rl.same (hb br (fun e => (h.rl.map.ne hc) e.symm)) (fun g' e => hb g' (fun e2 => h.rows g' e (e2 ▸ hg))), ⟨hrow, (h.wl.map.wset hx v).same (hb bw (fun e => (h.wl.map.ne hc) e.symm)), by simpa using h.wl.len, fun y hy => ?_⟩, h.maps, h.rows⟩, fun k e => .inl (hS k e)⟩, (Tch.refl S w).setCell (p := ⟨g, i * 2 + 1, none⟩) (.inl (hS g (.inr (.inr (.inr (.inr hg)))))) _⟩
  rcases List.mem_or_eq_of_mem_set hy with hy | rfl
  · exact h.wl.fit y hy
  · exact ⟨(h.wl.fit x (List.mem_of_getElem? hx)).1, hv⟩

set_option maxHeartbeats 1000000 in
theorem read_any (h : LgAt w S a f) (i v : Int) (hi : (Lit.int .i64 i).wf = true) (hv : (Lit.int .u64 v).wf = true) :
    Calls Try.prog 93 #[.pointer (some ⟨a, 0, none⟩), .int .i64 i, .int .u64 v] w fun e w' => e = .returned (.int .i64 (errRead f.r i)) ∧ LOut w S a (f.read i v) w' := by
  unfold Lg.read errRead readL
  have HT := Lib.hid (takes_any h i)
  unfold errT at HT
  by_cases h0 : i < 0
  · rw [if_pos h0] at HT
    rw [if_pos h0, if_pos h0]
    have HE := Lib.hid (LOut.refl h); clear h hi hv
    go_enter Try.func93, Try.ntmps93
    go_wp2_with (go_at_call 77; refine HT.out.mono ?_; rintro e w' ⟨rfl, rfl⟩)
    go_ret
    exact ⟨rfl, HE.out⟩
  rw [if_neg h0] at HT
  rw [if_neg h0, if_neg h0]
  obtain ⟨pr, br, pw, bw, hp, hS⟩ := h
  cases hq : posL f.r i with
  | some j =>
    simp only [Option.isSome_some, if_true]
    have HF := Lib.hid (find_yes (off := 1) (hp.c 2 rfl) (hp.c 1 rfl) hp.rl i hi hq)
    have HE := Lib.hid (LOut.refl (f := f) (S := S) ⟨pr, br, pw, bw, hp, hS⟩)
    clear hp hS hi hv hq
    go_enter Try.func93, Try.ntmps93
    go_wp2_with (first | (go_at_call 77; refine HT.out.mono ?_; rintro e w' ⟨rfl, rfl⟩) | (go_at_call 78; refine HF.out.mono ?_; rintro e w' ⟨⟨g, -, rfl⟩, rfl⟩))
    go_ret
    exact ⟨rfl, HE.out⟩
  | none =>
    simp only [Option.isSome_none, Bool.false_eq_true, if_false]
    have HF := Lib.hid (find_no (off := 1) (hp.c 2 rfl) hp.rl i hi hq)
    by_cases hl : 128 ≤ f.r.length
    · rw [if_pos hl, if_pos hl]
      have HA := Lib.hid (add_full (off := 1) (b := br) (hp.c 1 rfl) hp.rl ⟨i, v⟩ hl)
      have HE := Lib.hid (fun w' hb => LOut.of_idle (f := f) (S := S) (w' := w') ⟨pr, br, pw, bw, hp, hS⟩ hb)
      clear hp hS hi hv hq
      go_enter Try.func93, Try.ntmps93
      go_wp2_with (first | (go_at_call 77; refine HT.out.mono ?_; rintro e w' ⟨rfl, rfl⟩) | (go_at_call 78; refine HF.out.mono ?_; rintro e w' ⟨rfl, rfl⟩) | (go_at_call 79; refine HA.out.mono ?_; rintro e w' ⟨rfl, hb⟩))
      go_ret
      exact ⟨rfl, HE.out _ hb⟩
    · rw [if_neg hl, if_neg hl]
      have HA := Lib.hid (add_ok (off := 1) hp.head rfl rfl hp.rl ⟨i, v⟩ ⟨hi, hv⟩ hq (by omega))
      have HE := Lib.hid (fun w' hb => hp.addR (S := S) (w' := w') hS (x := ⟨i, v⟩) hb)
      clear hp hS hi hv hq
      go_enter Try.func93, Try.ntmps93
      go_wp2_with (first | (go_at_call 77; refine HT.out.mono ?_; rintro e w' ⟨rfl, rfl⟩) | (go_at_call 78; refine HF.out.mono ?_; rintro e w' ⟨rfl, rfl⟩) | (go_at_call 79; refine HA.out.mono ?_; rintro e w' ⟨rfl, hb⟩))
      go_ret
      exact ⟨rfl, HE.out _ hb⟩

def errWrite (l : List Pr) (i : Int) : Int := errRead l i
set_option maxHeartbeats 1000000 in
theorem write_any (h : LgAt w S a f) (i v : Int) (hi : (Lit.int .i64 i).wf = true) (hv : (Lit.int .u64 v).wf = true) :
    Calls Try.prog 50 #[.pointer (some ⟨a, 0, none⟩), .int .i64 i, .int .u64 v] w fun e w' => e = .returned (.int .i64 (errRead f.w i)) ∧ LOut w S a (f.write i v) w' := by
  unfold Lg.write errRead writeL
  have HT := Lib.hid (takes_any h i)
  unfold errT at HT
  by_cases h0 : i < 0
  · rw [if_pos h0] at HT
    rw [if_pos h0, if_pos h0]
    have HE := Lib.hid (LOut.refl h); clear h hi hv
    go_enter Try.func50, Try.ntmps50
    go_wp2_with (go_at_call 77; refine HT.out.mono ?_; rintro e w' ⟨rfl, rfl⟩)
    go_ret
    exact ⟨rfl, HE.out⟩
  rw [if_neg h0] at HT
  rw [if_neg h0, if_neg h0]
  obtain ⟨pr, br, pw, bw, hp, hS⟩ := h
  cases hq : posL f.w i with
  | some j =>
    simp only [Option.isSome_some, if_true]
    have HF := Lib.hid (find_yes (off := 3) (hp.c 4 rfl) (hp.c 3 rfl) hp.wl i hi hq)
    obtain ⟨x, hx, rfl⟩ := posL_at hq
    have HC : Hid (∀ g, pw.ownBlock = some g → w.cell? ⟨g, j * 2 + 1, none⟩ = some (.int .u64 x.v) ∧ w.frozen? ⟨g, j * 2 + 1, none⟩ = false) := Lib.hid (fun g hg => owns_cell hp.wl.row hg (by rw [Nat.mul_comm]; exact flatP_v hx))
    have HE := Lib.hid (fun g hg => hp.setW hS (g := g) (posL_lt hq) hx hg v hv)
    clear hp hS hi hv hq hx
    go_enter Try.func50, Try.ntmps50
    go_wp2_with (first | (go_at_call 77; refine HT.out.mono ?_; rintro e w' ⟨rfl, rfl⟩) | (go_at_call 78; refine HF.out.mono ?_; rintro e w' ⟨⟨g, hg, rfl⟩, rfl⟩; have cg := (HC.out g hg).1; have fg := (HC.out g hg).2; have HG := Lib.hid (HE.out g hg); clear hg))
    go_ret
    exact ⟨rfl, HG.out⟩
  | none =>
    simp only [Option.isSome_none, Bool.false_eq_true, if_false]
    have HF := Lib.hid (find_no (off := 3) (hp.c 4 rfl) hp.wl i hi hq)
    by_cases hl : 128 ≤ f.w.length
    · rw [if_pos hl, if_pos hl]
      have HA := Lib.hid (add_full (off := 3) (b := bw) (hp.c 3 rfl) hp.wl ⟨i, v⟩ hl)
      have HE := Lib.hid (fun w' hb => LOut.of_idle (f := f) (S := S) (w' := w') ⟨pr, br, pw, bw, hp, hS⟩ hb)
      clear hp hS hi hv hq
      go_enter Try.func50, Try.ntmps50
      go_wp2_with (first | (go_at_call 77; refine HT.out.mono ?_; rintro e w' ⟨rfl, rfl⟩) | (go_at_call 78; refine HF.out.mono ?_; rintro e w' ⟨rfl, rfl⟩) | (go_at_call 79; refine HA.out.mono ?_; rintro e w' ⟨rfl, hb⟩))
      go_ret
      exact ⟨rfl, HE.out _ hb⟩
    · rw [if_neg hl, if_neg hl]
      have HA := Lib.hid (add_ok (off := 3) hp.head rfl rfl hp.wl ⟨i, v⟩ ⟨hi, hv⟩ hq (by omega))
      have HE := Lib.hid (fun w' hb => hp.addW (S := S) (w' := w') hS (x := ⟨i, v⟩) hb)
      clear hp hS hi hv hq
      go_enter Try.func50, Try.ntmps50
      go_wp2_with (first | (go_at_call 77; refine HT.out.mono ?_; rintro e w' ⟨rfl, rfl⟩) | (go_at_call 78; refine HF.out.mono ?_; rintro e w' ⟨rfl, rfl⟩) | (go_at_call 79; refine HA.out.mono ?_; rintro e w' ⟨rfl, hb⟩))
      go_ret
      exact ⟨rfl, HE.out _ hb⟩
theorem read_none {p : Value} (hn : Calls Try.prog 65 #[p] w fun e w' => e = .returned (.bool true) ∧ w = w') (i v : Int) : Calls Try.prog 93 #[p, .int .i64 i, .int .u64 v] w fun e w' => e = .returned (.int .i64 1) ∧ w = w' := by
  have HN := Lib.hid (takes_none hn i); clear hn
  go_enter Try.func93, Try.ntmps93
  go_wp2_with (go_at_call 77; refine HN.out.mono ?_; rintro e w' ⟨rfl, rfl⟩)
  go_ret
  exact ⟨rfl, rfl⟩
theorem write_none {p : Value} (hn : Calls Try.prog 65 #[p] w fun e w' => e = .returned (.bool true) ∧ w = w') (i v : Int) : Calls Try.prog 50 #[p, .int .i64 i, .int .u64 v] w fun e w' => e = .returned (.int .i64 1) ∧ w = w' := by
  have HN := Lib.hid (takes_none hn i); clear hn
  go_enter Try.func50, Try.ntmps50
  go_wp2_with (go_at_call 77; refine HN.out.mono ?_; rintro e w' ⟨rfl, rfl⟩)
  go_ret
  exact ⟨rfl, rfl⟩
theorem clear_none {p : Value} (hn : Calls Try.prog 65 #[p] w fun e w' => e = .returned (.bool true) ∧ w = w') : Calls Try.prog 48 #[p] w fun e w' => e = .returned (.int .i64 1) ∧ w = w' := by
  have HN := Lib.hid hn; clear hn
  go_enter Try.func48, Try.ntmps48
  go_wp2_with (go_at_call 65; refine HN.out.mono ?_; rintro e w' ⟨rfl, rfl⟩)
  go_ret
  exact ⟨rfl, rfl⟩
end

end Go.Proofs.Ytgdfiggloifncaa
