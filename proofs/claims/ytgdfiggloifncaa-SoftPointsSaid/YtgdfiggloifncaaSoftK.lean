/- Paths and memories among parts; finish, place, begins. Conditions: those stated in each theorem. -/
import Derived.Test.YtgdfiggloifncaaSoftJ
namespace Go.Proofs.Ytgdfiggloifncaa
open Go.RowKit Go.BigFrame Go.Maps Go.ChangeMaps

theorem MmAt.word {w : World} {b c : Nat} {m : Int → Int} (h : MmAt w b c m) {a : Int} (ha : I64 a) : W64 (m a) := by
  obtain ⟨D, h1, h3⟩ := h
  obtain ⟨z, -, hat, hw⟩ := h1.lookup_int Try.keyI Try.underlying33 Try.underlying26 (Try.zeroU w) (keyOf_int_mk Try.underlying3 ha)
  rw [h3.2] at hat
  cases hat
  exact hw
section
variable {w0 w w' : World} {l l' : List Part} {i j p b c : Nat} {x y : PV} {m : Int → Int} {P Q M : Part}
theorem set_get (hi : i < l.length) : (l.set i P)[i]? = some P := by simp [hi]
theorem set_get' (hij : i ≠ j) : (l.set j M)[i]? = l[i]? := by rw [List.getElem?_set]; rw [if_neg (fun e => hij e.symm)]
theorem two_i (hij : i ≠ j) (hi : i < l.length) : ((l.set i P).set j M)[i]? = some P := by rw [set_get' hij, set_get hi]
theorem two_j (hj : j < l.length) : ((l.set i P).set j M)[j]? = some M := by rw [set_get (by simpa using hj)]
theorem two_si (hij : i ≠ j) : ((l.set i P).set j M).set i Q = (l.set i Q).set j M := by rw [List.set_comm _ _ hij.symm, List.set_set]
theorem two_sj : ((l.set i P).set j M).set j Q = (l.set i P).set j Q := by rw [List.set_set]
theorem give_a (h : Aparts w0 w l) (hi : l[i]? = some (pathP p x)) (h0 : 0 ≤ x.pts) (h9 : x.pts ≤ 1000000) (n : Int) (ok : Bool) (hn : W64 n) (hl : l.set i (pathP p (x.give n ok)) = l') : Calls Try.prog 14 #[.pointer (some ⟨p, 0, none⟩), .int .u64 n, .bool ok] w fun e w' => e = .returned (.int .i64 (x.errG)) ∧ Aparts w0 w' l' :=
  h.call (R := fun e => e = .returned (.int .i64 (x.errG))) hi hl (fun _ hT => (give_any hT h0 h9 n ok hn))
theorem begin_a (h : Aparts w0 w l) (hi : l[i]? = some (pathP p x)) (hl : l.set i (pathP p (x.begin)) = l') : Calls Try.prog 15 #[.pointer (some ⟨p, 0, none⟩)] w fun e w' => e = .returned (.int .i64 (x.errB)) ∧ Aparts w0 w' l' :=
  h.call (R := fun e => e = .returned (.int .i64 (x.errB))) hi hl (fun _ hT => (sbegin hT))
theorem load_a (h : Aparts w0 w l) (hi : l[i]? = some (pathP p x)) (a : Int) (ha : I64 a) (hl : l.set i (pathP p (x.load a)) = l') : Calls Try.prog 13 #[.pointer (some ⟨p, 0, none⟩), .int .i64 a] w fun e w' => e = .returned (.int .i64 (x.errA a)) ∧ Aparts w0 w' l' :=
  h.call (R := fun e => e = .returned (.int .i64 (x.errA a))) hi hl (fun _ hT => (sload hT a ha))
theorem store_a (h : Aparts w0 w l) (hi : l[i]? = some (pathP p x)) (a y : Int) (ha : I64 a) (hy : W64 y) (hl : l.set i (pathP p (x.store a y)) = l') : Calls Try.prog 17 #[.pointer (some ⟨p, 0, none⟩), .int .i64 a, .int .u64 y] w fun e w' => e = .returned (.int .i64 (x.errA a)) ∧ Aparts w0 w' l' :=
  h.call (R := fun e => e = .returned (.int .i64 (x.errA a))) hi hl (fun _ hT => (sstore hT a y ha hy))
theorem commit_a (h : Aparts w0 w l) (hi : l[i]? = some (pathP p x)) (hl : l.set i (pathP p (x.commit)) = l') : Calls Try.prog 21 #[.pointer (some ⟨p, 0, none⟩)] w fun e w' => e = .returned (.int .i64 (x.shut)) ∧ Aparts w0 w' l' :=
  h.call (R := fun e => e = .returned (.int .i64 (x.shut))) hi hl (fun _ hT => (scommit hT))
theorem quit_a (h : Aparts w0 w l) (hi : l[i]? = some (pathP p x)) (hl : l.set i (pathP p (x.quit)) = l') : Calls Try.prog 22 #[.pointer (some ⟨p, 0, none⟩)] w fun e w' => e = .returned (.int .i64 (x.shut)) ∧ Aparts w0 w' l' :=
  h.call (R := fun e => e = .returned (.int .i64 (x.shut))) hi hl (fun _ hT => (squit hT))
theorem busy_a (h : Aparts w0 w l) (hi : l[i]? = some (pathP p x)) : Calls Try.prog 23 #[.pointer (some ⟨p, 0, none⟩)] w fun e w' => e = .returned (.bool x.busy) ∧ w = w' := by
  obtain ⟨T, h1, -⟩ := h.get hi
  exact sbusy h1
theorem live_a (h : Aparts w0 w l) (hi : l[i]? = some (pathP p x)) : Calls Try.prog 24 #[.pointer (some ⟨p, 0, none⟩)] w fun e w' => e = .returned (.bool x.live) ∧ w = w' := by
  obtain ⟨T, h1, -⟩ := h.get hi
  exact slive h1
theorem writing_a (h : Aparts w0 w l) (hi : l[i]? = some (pathP p x)) : Calls Try.prog 27 #[.pointer (some ⟨p, 0, none⟩)] w fun e w' => e = .returned (.bool x.writing) ∧ w = w' := by
  obtain ⟨T, h1, -⟩ := h.get hi
  exact swriting h1
theorem value_a (h : Aparts w0 w l) (hi : l[i]? = some (pathP p x)) : Calls Try.prog 25 #[.pointer (some ⟨p, 0, none⟩)] w fun e w' => e = .returned (.int .u64 x.val) ∧ w = w' := by
  obtain ⟨T, h1, -⟩ := h.get hi
  exact svalue h1
theorem ended_a (h : Aparts w0 w l) (hi : l[i]? = some (pathP p x)) : Calls Try.prog 20 #[.pointer (some ⟨p, 0, none⟩)] w fun e w' => e = .returned (.int .i64 x.ended) ∧ w = w' := by
  obtain ⟨T, h1, -⟩ := h.get hi
  exact sended h1
theorem points_a (h : Aparts w0 w l) (hi : l[i]? = some (pathP p x)) : Calls Try.prog 26 #[.pointer (some ⟨p, 0, none⟩)] w fun e w' => e = .returned (.int .i64 x.pts) ∧ w = w' := by
  obtain ⟨T, h1, -⟩ := h.get hi
  exact spoints h1
theorem want_a (h : Aparts w0 w l) (hi : l[i]? = some (pathP p x)) : Calls Try.prog 18 #[.pointer (some ⟨p, 0, none⟩)] w fun e w' => e = .returned (.tuple #[.agg x.req.cells.toArray, .bool x.busy]) ∧ Aparts w0 w' l := by
  obtain ⟨T, h1, -⟩ := h.get hi
  exact (swant h1).mono fun e w' ⟨e1, k⟩ => ⟨e1, h.idle k⟩
theorem reads_a (h : Aparts w0 w l) (hi : l[i]? = some (pathP p x)) : Calls Try.prog 28 #[.pointer (some ⟨p, 0, none⟩)] w fun e w' => ∃ v, e = .returned v ∧ RowL w' w.heap.size v x.log.r ∧ Below w.heap.size w w' ∧ Aparts w0 w' l := by
  obtain ⟨T, h1, -⟩ := h.get hi
  exact (sreads h1).mono fun e w' ⟨v, e1, k, hb⟩ => ⟨v, e1, k, hb, h.idle hb⟩
theorem writes_a (h : Aparts w0 w l) (hi : l[i]? = some (pathP p x)) : Calls Try.prog 29 #[.pointer (some ⟨p, 0, none⟩)] w fun e w' => ∃ v, e = .returned v ∧ RowL w' w.heap.size v x.log.w ∧ Below w.heap.size w w' ∧ Aparts w0 w' l := by
  obtain ⟨T, h1, -⟩ := h.get hi
  exact (swrites h1).mono fun e w' ⟨v, e1, k, hb⟩ => ⟨v, e1, k, hb, h.idle hb⟩
theorem answer_a (h : Aparts w0 w l) (hi : l[i]? = some (memP b c m)) (hc : c ≤ 1000000) (r : Rq) (ha : I64 r.addr) (hv : W64 r.value) (hl : l.set i (memP b (c + 1) (memV m r)) = l') : Calls Try.prog 19 #[.map (some b), .agg r.cells.toArray] w fun e w' => e = .returned (.tuple #[.int .u64 (m r.addr), .bool (okV m r)]) ∧ Aparts w0 w' l' :=
  h.call (R := fun e => e = .returned (.tuple #[.int .u64 (m r.addr), .bool (okV m r)])) hi hl (fun _ hT => (answer_any hT.2 hc r ha hv).mono fun e w' ⟨e1, k1, k2⟩ => ⟨e1, ⟨.inl hT.1, k1⟩, k2.mono (fun k _ e => by subst e; exact hT.1)⟩)
theorem word_a (h : Aparts w0 w l) (hi : l[i]? = some (memP b c m)) {a : Int} (ha : I64 a) : W64 (m a) := by
  obtain ⟨T, h1, -⟩ := h.get hi
  exact h1.2.word ha
theorem fit_a (h : Aparts w0 w l) (hi : l[i]? = some (pathP p x)) : FitL x.log.r ∧ FitL x.log.w ∧ x.log.r.length ≤ 128 ∧ x.log.w.length ≤ 128 := by
  obtain ⟨T, h1, -⟩ := h.get hi
  exact SAt.fit h1
theorem new_a (h : Aparts w0 w l) : Calls Try.prog 10 #[] w fun e w' => ∃ p, e = .returned (.pointer (some ⟨p, 0, none⟩)) ∧ Aparts w0 w' (l ++ [pathP p PV.zero]) :=
  (snew w).mono fun e w' ⟨p, e1, k, hb⟩ => ⟨p, e1, h.push hb k⟩
end

/-! ### finish -/
def stepV (s : PV × (Int → Int)) : PV × (Int → Int) := (s.1.give (s.2 s.1.req.addr) (okV s.2 s.1.req), memV s.2 s.1.req)
def finV : Nat → PV × (Int → Int) → PV × (Int → Int)
  | 0, s => s
  | n + 1, s => if (finV n s).1.busy then stepV (finV n s) else finV n s
theorem finV_stop {s : PV × (Int → Int)} {k : Nat} (h : (finV k s).1.busy = false) : ∀ n, finV (k + n) s = finV k s
  | 0 => rfl
  | n + 1 => by
    have := finV_stop h n
    rw [show k + (n + 1) = (k + n) + 1 from rfl]
    simp only [finV]
    rw [this, h]
    simp
theorem finV_next {s : PV × (Int → Int)} {k : Nat} (h : (finV k s).1.busy = true) : finV (k + 1) s = stepV (finV k s) := by simp only [finV]; rw [h]; simp
/-- A path and its memory that may be. -/
def OkS (s : PV × (Int → Int)) : Prop := s.1.ok ∧ ∀ a, I64 a → W64 (s.2 a)
theorem upd_ok {m : Int → Int} (h : ∀ a, I64 a → W64 (m a)) {a v : Int} (hv : W64 v) : ∀ b, I64 b → W64 (upd m a v b) := fun b hb => by
  unfold upd
  split
  · exact hv
  · exact h b hb
theorem stepV_ok {s : PV × (Int → Int)} (h : OkS s) : OkS (stepV s) := by
  have hr := PV.req_ok h.1
  refine ⟨PV.give_ok h.1 (h.2 _ hr.1) _, ?_⟩
  unfold stepV memV
  simp only
  split
  · exact upd_ok h.2 hr.2.1
  · exact h.2
theorem finV_ok {s : PV × (Int → Int)} (h : OkS s) : ∀ n, OkS (finV n s)
  | 0 => h
  | n + 1 => by
    simp only [finV]
    split
    · exact stepV_ok (finV_ok h n)
    · exact finV_ok h n
theorem finV_pts (s : PV × (Int → Int)) : ∀ n : Nat, s.1.pts ≤ (finV n s).1.pts ∧ (finV n s).1.pts ≤ s.1.pts + n
  | 0 => by simp [finV]
  | n + 1 => by
    have h := finV_pts s n
    have h2 := PV.give_pts (finV n s).1 ((finV n s).2 (finV n s).1.req.addr) (okV (finV n s).2 (finV n s).1.req)
    simp only [finV]
    split
    · simp only [stepV]; omega
    · omega

section
variable {w0 w w' : World} {l l' : List Part} {i j p b c : Nat} {x y : PV} {m : Int → Int} {P Q M : Part}
set_option maxRecDepth 100000 in
set_option maxHeartbeats 2000000 in
theorem finish_a (h : Aparts w0 w ((l.set i (pathP p x)).set j (memP b c m))) (hij : i ≠ j) (hi : i < l.length) (hj : j < l.length) (hok : OkS (x, m)) (h0 : 0 ≤ x.pts) (h9 : x.pts ≤ 900000) (hc : c ≤ 900000) :
    Calls Try.prog 16 #[.pointer (some ⟨p, 0, none⟩), .map (some b)] w fun e w' => e = .returned (.bool (!(finV 3000 (x, m)).1.busy)) ∧ ∃ c', c' ≤ c + 3000 ∧ Aparts w0 w' ((l.set i (pathP p (finV 3000 (x, m)).1)).set j (memP b c' (finV 3000 (x, m)).2)) := by
  have H := Lib.hid h; clear h
  have HO := Lib.hid hok; clear hok
  go_enter Try.func16, Try.ntmps16
  go_wp2
  go_loopw [5] (fun q wr => ∃ k c' : Nat, k ≤ 3000 ∧ c' ≤ c + k ∧ q = .int .i64 k ∧ Aparts w0 wr ((l.set i (pathP p (finV k (x, m)).1)).set j (memP b c' (finV k (x, m)).2))) (fun q _ => 3000 - (intOf q).toNat)
  case atStart => exact ⟨0, c, by omega, by omega, rfl, H.out⟩
  case round =>
    obtain ⟨k, c', hk, hcc, rfl, hs⟩ := hrel
    have HS := Lib.hid hs; clear hs H
    have HB := Lib.hid (busy_a HS.out (two_i hij hi))
    have hp := finV_pts (x, m) k
    have hko := finV_ok HO.out k
    have hN := fun hb => finV_next (s := (x, m)) (k := k) hb
    have hT := fun hb => finV_stop (s := (x, m)) (k := k) hb (3000 - k)
    rw [show k + (3000 - k) = 3000 from by omega] at hT
    have HN := Lib.hid hN
    have HT := Lib.hid hT
    clear hN hT
    simp only at hp
    generalize hz : finV k (x, m) = z at *
    have Hz := Lib.hid hz; clear hz
    obtain ⟨y, n⟩ := z
    simp only at *
    by_cases hlt : k < 3000
    · have d1 : decide ((k : Int) < 3000) = true := by simp; omega
      cases hb : y.busy with
      | true =>
        rw [hb] at HB
        have hr := PV.req_ok hko.1
        have hw := hko.2 _ hr.1
        have HW := Lib.hid (want_a HS.out (two_i hij hi))
        rw [hb] at HW
        have HNx := Lib.hid (HN.out hb)
        have HC : Hid (∀ V, Aparts w0 V ((l.set i (pathP p y)).set j (memP b c' n)) → Calls Try.prog 19 #[.map (some b), .agg y.req.cells.toArray] V fun e w' => e = .returned (.tuple #[.int .u64 (n y.req.addr), .bool (okV n y.req)]) ∧ Aparts w0 w' ((l.set i (pathP p y)).set j (memP b (c' + 1) (memV n y.req)))) := Lib.hid (fun V hV => answer_a hV (two_j hj) (by omega) y.req hr.1 hr.2.1 two_sj)
        have HG : Hid (∀ V M, Aparts w0 V ((l.set i (pathP p y)).set j M) → Calls Try.prog 14 #[.pointer (some ⟨p, 0, none⟩), .int .u64 (n y.req.addr), .bool (okV n y.req)] V fun e w' => e = .returned (.int .i64 y.errG) ∧ Aparts w0 w' ((l.set i (pathP p (y.give (n y.req.addr) (okV n y.req)))).set j M)) := Lib.hid (fun V M hV => give_a hV (two_i hij hi) (by omega) (by omega) _ _ hw (two_si hij))
        clear HN HT hr hw hp
        simp only [Rq.cells] at *
        go_wp2_with (first | (go_at_call 23; refine HB.out.mono ?_; rintro e w' ⟨rfl, rfl⟩) | (go_at_call 18; refine HW.out.mono ?_; rintro e w2 ⟨rfl, h2⟩; have H2 := Lib.hid (h2.idle ((Below.refl _ w2).alloc (Nat.le_refl _) (.cells (Rq.cells y.req).toArray 48))); clear h2) | (go_at_call 19; refine (HC.out _ H2.out).mono ?_; rintro e w3 ⟨rfl, h3⟩; have H3 := Lib.hid h3; clear h3) | (go_at_call 14; refine (HG.out _ _ H3.out).mono ?_; rintro e w4 ⟨rfl, h4⟩; have H4 := Lib.hid h4; clear h4))
        go_roundw
        case rel => exact ⟨k + 1, c' + 1, by omega, by omega, by go_num, by rw [HNx.out]; exact H4.out⟩
        case measure => simp [intOf]; omega
      | false =>
        rw [hb] at HB
        have HTx := Lib.hid (HT.out hb)
        go_wp2_with (go_at_call 23; refine HB.out.mono ?_; rintro e w' ⟨rfl, rfl⟩)
        go_ret
        refine ⟨?_, c', by omega, ?_⟩
        · rw [HTx.out, hb]; rfl
        · rw [HTx.out]; exact HS.out
    · have hk3 : k = 3000 := by omega
      subst hk3
      go_wp2_with (go_at_call 23; refine HB.out.mono ?_; rintro e w' ⟨rfl, rfl⟩)
      go_ret
      refine ⟨?_, c', by omega, ?_⟩
      · rw [Hz.out]; rfl
      · rw [Hz.out]; exact HS.out
theorem mem_a (h : Aparts w0 w l) (hi : l[j]? = some (memP b c m)) : MmAt w b c m := by
  obtain ⟨T, h1, -⟩ := h.get hi
  exact h1.2
end

end Go.Proofs.Ytgdfiggloifncaa
