/- The document's own log, in the document's own path: Read, Write. Conditions: those stated in each theorem. -/
import Derived.Test.YthepmejfgbfilaaLogQ0
import Derived.Test.YthepmejfgbfilaaSoftN
namespace Go.Proofs.Ythepmejfgbfilaa
open Go.RowKit Go.BigFrame Go.Maps

/-- The words of the document's own path. -/
structure RW where
  code : Int
  n : Int
  a : Int
  v : Int
  g : Int
  i : Int
  to : Int
  how : Int
  snap : Int
  val : Int
  live : Bool
  writing : Bool
  ended : Int
  pts : Int
def RW.cells (x : RW) (rv wv : Value) : List Value := [.int .i64 x.code, .int .u64 x.n, .int .i64 x.a, .int .u64 x.v, .int .u64 x.g, .int .i64 x.i, .int .i64 x.to, .int .i64 x.how, .int .u64 x.snap, .int .u64 x.val, rv, wv, .bool x.live, .bool x.writing, .int .i64 x.ended, .int .i64 x.pts]
/-- The document's path at q: its words, and two rows. -/
structure RfAt (w : World) (q : Nat) (x : RW) (rv wv : Value) (f : Lg) : Prop where
  head : Holds w q 31 (x.cells rv wv)
  r : RowL w 0 rv f.r
  wl : RowL w 0 wv f.w
theorem RowL.keep {w w' : World} {C : Nat → Prop} {lo : Nat} {v : Value} {l : List Pr} (h : RowL w lo v l) (ht : Tch C w w') (hC : ∀ g, v.ownBlock = some g → ¬ C g) : RowL w' lo v l := h.same (fun g e => ht.block g (h.lt e).2 (hC g e))
theorem RowL.low {w : World} {lo : Nat} {v : Value} {l : List Pr} (h : RowL w lo v l) : RowL w 0 v l := owns_mono h (fun _ _ => Nat.zero_le _)
theorem RowL.kind {w : World} {lo : Nat} {v : Value} {l : List Pr} (h : RowL w lo v l) {g : Nat} (hg : v.ownBlock = some g) {t : TypeId} {L : List Value} (hh : Holds w g t L) : t = 84 := by
  obtain ⟨c, hc⟩ := owns_kind h hg
  unfold Holds at hh; rw [hc] at hh; cases hh; rfl
theorem RowL.spot {w : World} {lo : Nat} {v : Value} {l : List Pr} (h : RowL w lo v l) : ∃ ad cap, v = .slice ad l.length cap ∧ RowsIn w ad 2 Pr.cells l ∧ ∀ b, ad = some b → b.spot = none := by
  obtain ⟨ad, cap, e, h1, h2⟩ := h.rows
  refine ⟨ad, cap, e, h1, fun b hb => ?_⟩
  rcases h2 with h2 | ⟨g, h2, _⟩
  · rw [h2] at hb; cases hb
  · rw [h2] at hb; cases hb; rfl
/-- A row stays where cells of another kind turn. -/
theorem RowL.other {w : World} {lo : Nat} {v : Value} {l : List Pr} (h : RowL w lo v l) {q : Nat} {t : TypeId} {L : List Value} (hq : Holds w q t L) (ht : t ≠ 84) : ∀ g, v.ownBlock = some g → g ≠ q := fun g e hgq => by subst hgq; exact ht (h.kind e hq)

/-- What a call on the document's log leaves. -/
def RfOut (w : World) (q : Nat) (x : RW) (rv wv : Value) (f' : Lg) (w' : World) : Prop :=
  ∃ rv' wv', RfAt w' q x rv' wv' f' ∧ Tch (· = q) w w' ∧ (rv' = rv ∨ ∀ g, rv'.ownBlock = some g → w.heap.size ≤ g) ∧ (wv' = wv ∨ ∀ g, wv'.ownBlock = some g → w.heap.size ≤ g)
theorem RfOut.same {w : World} {q : Nat} {x : RW} {rv wv : Value} {f : Lg} (h : RfAt w q x rv wv f) : RfOut w q x rv wv f w := ⟨rv, wv, h, Tch.refl _ _, .inl rfl, .inl rfl⟩

section
variable {w : World} {q : Nat} {x : RW} {rv wv : Value} {f : Lg}
theorem RfAt.frame {w' : World} {C : Nat → Prop} (h : RfAt w q x rv wv f) (ht : Tch C w w') (hq : ¬ C q) (h1 : ∀ g, rv.ownBlock = some g → ¬ C g) (h2 : ∀ g, wv.ownBlock = some g → ¬ C g) : RfAt w' q x rv wv f :=
  ⟨ht.holds hq h.head, h.r.keep ht h1, h.wl.keep ht h2⟩
theorem RfAt.below {w' : World} (h : RfAt w q x rv wv f) (hb : Below w.heap.size w w') : RfAt w' q x rv wv f := h.frame (C := fun _ => False) (Tch.of_idle hb) (fun h => h) (fun _ _ h => h) (fun _ _ h => h)

/-- The reads' row is another one. -/
theorem RfAt.setR {w1 : World} (h : RfAt w q x rv wv f) (hb : Below w.heap.size w w1) {v : Value} {l : List Pr} (hr : RowL w1 w.heap.size v l) : RfOut w q x rv wv { f with r := l } (w1.setCell ⟨q, 10, none⟩ v) := by
  have h1 := h.below hb
  refine ⟨v, wv, ⟨h1.head.set 10 v, ?_, ?_⟩, Tch.setCell (C := (· = q)) (Tch.of_idle hb) (p := ⟨q, 10, none⟩) (.inl rfl) v, .inr (fun g e => (hr.lt e).1), .inl rfl⟩
  · exact hr.low.same (fun g e => Below.heap_setCell w1 ⟨q, 10, none⟩ v g (hr.other h1.head (by decide) g e))
  · exact h1.wl.same (fun g e => Below.heap_setCell w1 ⟨q, 10, none⟩ v g (h1.wl.other h1.head (by decide) g e))
theorem RfAt.setW {w1 : World} (h : RfAt w q x rv wv f) (hb : Below w.heap.size w w1) {v : Value} {l : List Pr} (hr : RowL w1 w.heap.size v l) : RfOut w q x rv wv { f with w := l } (w1.setCell ⟨q, 11, none⟩ v) := by
  have h1 := h.below hb
  refine ⟨rv, v, ⟨h1.head.set 11 v, ?_, ?_⟩, Tch.setCell (C := (· = q)) (Tch.of_idle hb) (p := ⟨q, 11, none⟩) (.inl rfl) v, .inl rfl, .inr (fun g e => (hr.lt e).1)⟩
  · exact h1.r.same (fun g e => Below.heap_setCell w1 ⟨q, 11, none⟩ v g (h1.r.other h1.head (by decide) g e))
  · exact hr.low.same (fun g e => Below.heap_setCell w1 ⟨q, 11, none⟩ v g (hr.other h1.head (by decide) g e))

set_option maxHeartbeats 2000000 in
theorem rread_any (h : RfAt w q x rv wv f) (hl : f.r.length ≤ 128) (i v : Int) :
    Calls Try.prog 87 #[.pointer (some ⟨q, 10, none⟩), .int .i64 i, .int .u64 v] w fun e w' => e = .returned (.int .i64 (errRead f.r i)) ∧ RfOut w q x rv wv (f.read i v) w' := by
  unfold Lg.read errRead readL
  by_cases h0 : i < 0
  · rw [if_pos h0, if_pos h0]
    have HE := Lib.hid (RfOut.same h); clear h
    go_enter Try.func87, Try.ntmps87
    go_wp2
    go_ret
    exact ⟨rfl, HE.out⟩
  rw [if_neg h0, if_neg h0]
  have dn : decide (i < 0) = false := by simpa using h0
  obtain ⟨ad, cap, rfl, hr, hs⟩ := h.r.spot
  have c0 := h.head.cell (i := 10) rfl
  have HP := Lib.hid (plc_any w ad cap f.r hr (by omega) i)
  unfold plc at HP
  cases hq : posL f.r i with
  | some j =>
    simp only [Option.isSome_some, if_true]
    rw [hq] at HP
    have HE := Lib.hid (RfOut.same h); clear h hr hs
    have dj : decide ((0 : Int) ≤ (j : Int)) = true := by simp
    go_enter Try.func87, Try.ntmps87
    go_wp2_with (go_at_call 85; refine HP.out.mono ?_; rintro e w' ⟨rfl, rfl⟩)
    go_ret
    exact ⟨rfl, HE.out⟩
  | none =>
    simp only [Option.isSome_none, Bool.false_eq_true, if_false]
    rw [hq] at HP
    by_cases h128 : 128 ≤ f.r.length
    · rw [if_pos h128, if_pos h128]
      have HE := Lib.hid (RfOut.same h); clear h hr hs
      have d1 : decide ((128 : Int) ≤ (f.r.length : Int)) = true := by simp; omega
      go_enter Try.func87, Try.ntmps87
      go_wp2_with (go_at_call 85; refine HP.out.mono ?_; rintro e w' ⟨rfl, rfl⟩)
      go_ret
      exact ⟨rfl, HE.out⟩
    · rw [if_neg h128, if_neg h128]
      have d1 : decide ((128 : Int) ≤ (f.r.length : Int)) = false := by simp; omega
      have HT := Lib.hid (twin_any w ad cap f.r hr (by omega) hs)
      have hql := h.head.lt
      have H := Lib.hid h; clear h hr hs
      obtain ⟨i0, hi, hz0, hz1, hz2⟩ := info_parts Try.infoPair
      have HI := Lib.hid hi; clear hi
      have HZ0 := Lib.hid hz0; clear hz0
      have HZ1 := Lib.hid hz1; clear hz1
      have HZ2 := Lib.hid hz2; clear hz2
      go_enter Try.func87, Try.ntmps87
      go_wp2_with (go_at_call 85; refine HP.out.mono ?_; rintro e w' ⟨rfl, rfl⟩)
      refine HT.out.mono ?_
      rintro e w1 ⟨v1, rfl, hr1, hb1⟩
      have hs1 := hb1.size
      have hq1 : q < w1.heap.size := by omega
      have Hb1 := Lib.hid hb1; clear hb1
      have Hr1 := Lib.hid hr1; clear hr1
      go_wp2_with (at_builtin; refine wpList_append_own_at _ rfl _ _ 27 rfl w.heap.size 84 i0 _ 2 16 Try.underlying27 HI.out HZ0.out HZ1.out HZ2.out rfl (by decide) v1 f.r.length (flatP f.r) rfl (World.ownsRow.alloc Hr1.out _) ⟨w1.heap.size, 0, none⟩ 1 1 [.int .i64 i, .int .u64 v] rfl rfl (World.news_of_block (t := 84) (fr := (0, 0)) (new_block w1 _)) (by simp [Value.oneCell']) (by unfold maxLen; omega) (by omega) (by simp; omega) ?_; intro v5 w5 hown5 hgrow5 hnil5 hat5; obtain ⟨g5, cap5, rfl, -, -⟩ := hown5.form (by omega); have hb5 : Below w.heap.size w w5 := (Hb1.out.alloc Hb1.out.size _).grown hgrow5 (Nat.le_trans Hb1.out.size (by simp)) (fun k e => (Hr1.out.lt e).1); have hh5 := H.out.head.below hb5; have k0 := hh5.cell (i := 10) rfl; have f0 := hh5.free 10; have Hown5 := Lib.hid hown5; have Hb5 := Lib.hid hb5; clear hown5 hgrow5 hnil5 hat5 hb5 hh5)
      go_ret
      have hrow : RowL w5 w.heap.size (.slice (some ⟨g5, 0, none⟩) (f.r.length + 1) cap5) (f.r ++ [⟨i, v⟩]) := by
        unfold RowL
        rw [flatP_snoc, List.length_append]
        exact Hown5.out
      exact ⟨rfl, H.out.setR Hb5.out hrow⟩

set_option maxHeartbeats 2000000 in
theorem rwrite_any (h : RfAt w q x rv wv f) (hl : f.w.length ≤ 128) (i v : Int) :
    Calls Try.prog 59 #[.pointer (some ⟨q, 10, none⟩), .int .i64 i, .int .u64 v] w fun e w' => e = .returned (.int .i64 (errRead f.w i)) ∧ RfOut w q x rv wv (f.write i v) w' := by
  unfold Lg.write errRead writeL
  by_cases h0 : i < 0
  · rw [if_pos h0, if_pos h0]
    have HE := Lib.hid (RfOut.same h); clear h
    go_enter Try.func59, Try.ntmps59
    go_wp2
    go_ret
    exact ⟨rfl, HE.out⟩
  rw [if_neg h0, if_neg h0]
  have dn : decide (i < 0) = false := by simpa using h0
  obtain ⟨ad, cap, rfl, hr, hs⟩ := h.wl.spot
  have c1 := h.head.cell (i := 11) rfl
  have hql := h.head.lt
  have HT := Lib.hid (twin_any w ad cap f.w hr (by omega) hs)
  have H := Lib.hid h; clear h hr hs
  cases hq : posL f.w i with
  | some j =>
    simp only [Option.isSome_some, if_true]
    go_enter Try.func59, Try.ntmps59
    go_wp2_with fail
    refine HT.out.mono ?_
    rintro e w1 ⟨v1, rfl, hr1, hb1⟩
    obtain ⟨ad1, cap1, rfl, hr, hs⟩ := hr1.spot
    have hs1 := hb1.size
    have hq1 : q < w1.heap.size := by omega
    have hh1 := H.out.head.below hb1
    have k1 := hh1.cell (i := 11) rfl
    have g1 := hh1.free 11
    have Hb1 := Lib.hid hb1; clear hb1
    have Hr1 := Lib.hid hr1; clear hr1
    have HP := Lib.hid (plc_any w1 ad1 cap1 f.w hr (by omega) i)
    unfold plc at HP
    clear c1 hh1 hr hs
    rw [hq] at HP
    have dj : decide ((0 : Int) ≤ (j : Int)) = true := by simp
    obtain ⟨z, hx, rfl⟩ := posL_at hq
    have hj := posL_lt hq
    obtain ⟨g, cap', e⟩ := Hr1.out.form (by omega)
    simp only [Value.slice.injEq] at e
    obtain ⟨rfl, -, rfl⟩ := e
    have q1 := (Hr1.out.at hx).2
    have q2 := (owns_cell Hr1.out (g := g) rfl (j := j * 2 + 1) (u := .int .u64 z.v) (by rw [Nat.mul_comm]; exact flatP_v hx)).2
    have hgq : q ≠ g := fun e => (Hr1.out.other (H.out.head.below Hb1.out) (by decide) g rfl) e.symm
    have hst := Hr1.out.setv hx v
    have hb2 : Below w.heap.size w (w1.setCell ⟨g, j * 2 + 1, none⟩ (.int .u64 v)) := Hb1.out.setCell (p := ⟨g, j * 2 + 1, none⟩) (Hr1.out.lt rfl).1 _
    have HE := Lib.hid (H.out.setW hb2 hst); clear hb2 hst hx hq
    go_wp2_with (go_at_call 85; refine HP.out.mono ?_; rintro e w' ⟨rfl, rfl⟩)
    go_ret
    exact ⟨rfl, HE.out⟩
  | none =>
    simp only [Option.isSome_none, Bool.false_eq_true, if_false]
    by_cases h128 : 128 ≤ f.w.length
    · rw [if_pos h128, if_pos h128]
      go_enter Try.func59, Try.ntmps59
      go_wp2_with fail
      refine HT.out.mono ?_
      rintro e w1 ⟨v1, rfl, hr1, hb1⟩
      obtain ⟨ad1, cap1, rfl, hr, hs⟩ := hr1.spot
      have hs1 := hb1.size
      have hq1 : q < w1.heap.size := by omega
      have hh1 := H.out.head.below hb1
      have k1 := hh1.cell (i := 11) rfl
      have g1 := hh1.free 11
      have Hb1 := Lib.hid hb1; clear hb1
      have Hr1 := Lib.hid hr1; clear hr1
      have HP := Lib.hid (plc_any w1 ad1 cap1 f.w hr (by omega) i)
      unfold plc at HP
      clear c1 hh1 hr hs
      rw [hq] at HP
      have d1 : decide ((128 : Int) ≤ (f.w.length : Int)) = true := by simp; omega
      have HE : Hid (RfOut w q x rv (.slice ad f.w.length cap) f w1) := Lib.hid ⟨_, _, H.out.below Hb1.out, Tch.of_idle Hb1.out, .inl rfl, .inl rfl⟩
      go_wp2_with (go_at_call 85; refine HP.out.mono ?_; rintro e w' ⟨rfl, rfl⟩)
      go_ret
      exact ⟨rfl, HE.out⟩
    · rw [if_neg h128, if_neg h128]
      go_enter Try.func59, Try.ntmps59
      go_wp2_with fail
      refine HT.out.mono ?_
      rintro e w1 ⟨v1, rfl, hr1, hb1⟩
      obtain ⟨ad1, cap1, rfl, hr, hs⟩ := hr1.spot
      have hs1 := hb1.size
      have hq1 : q < w1.heap.size := by omega
      have hh1 := H.out.head.below hb1
      have k1 := hh1.cell (i := 11) rfl
      have g1 := hh1.free 11
      have Hb1 := Lib.hid hb1; clear hb1
      have Hr1 := Lib.hid hr1; clear hr1
      have HP := Lib.hid (plc_any w1 ad1 cap1 f.w hr (by omega) i)
      unfold plc at HP
      clear c1 hh1 hr hs
      rw [hq] at HP
      have d1 : decide ((128 : Int) ≤ (f.w.length : Int)) = false := by simp; omega
      obtain ⟨i0, hi, hz0, hz1, hz2⟩ := info_parts Try.infoPair
      have HI := Lib.hid hi; clear hi
      have HZ0 := Lib.hid hz0; clear hz0
      have HZ1 := Lib.hid hz1; clear hz1
      have HZ2 := Lib.hid hz2; clear hz2
      go_wp2_with (first | (go_at_call 85; refine HP.out.mono ?_; rintro e w' ⟨rfl, rfl⟩) | (at_builtin; refine wpList_append_own_at _ rfl _ _ 27 rfl w.heap.size 84 i0 _ 2 16 Try.underlying27 HI.out HZ0.out HZ1.out HZ2.out rfl (by decide) (.slice ad1 f.w.length cap1) f.w.length (flatP f.w) rfl (World.ownsRow.alloc Hr1.out _) ⟨w1.heap.size, 0, none⟩ 1 1 [.int .i64 i, .int .u64 v] rfl rfl (World.news_of_block (t := 84) (fr := (0, 0)) (new_block w1 _)) (by simp [Value.oneCell']) (by unfold maxLen; omega) (by omega) (by simp; omega) ?_; intro v5 w5 hown5 hgrow5 hnil5 hat5; obtain ⟨g5, cap5, rfl, -, -⟩ := hown5.form (by omega); have hb5 : Below w.heap.size w w5 := (Hb1.out.alloc Hb1.out.size _).grown hgrow5 (Nat.le_trans Hb1.out.size (by simp)) (fun k e => (Hr1.out.lt e).1); have hh5 := H.out.head.below hb5; have k5 := hh5.cell (i := 11) rfl; have f5 := hh5.free 11; have Hown5 := Lib.hid hown5; have Hb5 := Lib.hid hb5; clear hown5 hgrow5 hnil5 hat5 hb5 hh5))
      go_ret
      have hrow : RowL w5 w.heap.size (.slice (some ⟨g5, 0, none⟩) (f.w.length + 1) cap5) (f.w ++ [⟨i, v⟩]) := by
        unfold RowL
        rw [flatP_snoc, List.length_append]
        exact Hown5.out
      exact ⟨rfl, H.out.setW Hb5.out hrow⟩
end

end Go.Proofs.Ythepmejfgbfilaa
