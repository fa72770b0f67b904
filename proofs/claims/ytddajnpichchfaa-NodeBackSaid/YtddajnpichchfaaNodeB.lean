/- A node: lines, messages, marks, aborts. Conditions: those stated in each theorem. -/
import Derived.Test.YtddajnpichchfaaNodeA
import Derived.Laws.StructEq
import Derived.ChangeKeysEq
namespace Go.Proofs.Ytddajnpichchfaa
open Go.RowKit Go.BigFrame

/-! ### Two messages are equal just if all of their parts are -/
theorem eqItems_step (d i : Nat) (is : List Nat) (xs ys : Array Value) (a b : Int) (w : World) (h1 : (part 34 xs (i * 1)).run Try.prog w = .ok (.int .u64 a) w) (h2 : (part 34 ys (i * 1)).run Try.prog w = .ok (.int .u64 b) w) :
    (Op.eqItems (d + 1) 34 1 xs ys (i :: is)).run Try.prog w = if a == b then (Op.eqItems (d + 1) 34 1 xs ys is).run Try.prog w else .ok false w := by
  simp only [Op.eqItems, Sem.run_bind, h1, h2, Result.andThen_ok, run_equalIn_int w d 34 .u64 .u64 a b Try.underlying34]
  cases a == b <;> simp

theorem eq_lines (x y : L8) (d : Nat) (w : World) :
    (Op.equalIn (d + 2) 36 (.agg x.cells.toArray) (.agg y.cells.toArray)).run Try.prog w = .ok (decide (x = y)) w := by
  obtain ⟨x0, x1, x2, x3, x4, x5, x6, x7⟩ := x
  obtain ⟨y0, y1, y2, y3, y4, y5, y6, y7⟩ := y
  simp only [L8.cells]
  rw [run_equalIn_array w (d + 1) _ _ Try.underlying36 (show Try.prog.info? 34 = some (Try.prog.info? 34).get! from by kernel_rfl), show Try.prog.cellsOf 34 = 1 from by kernel_rfl, show List.range 8 = [0, 1, 2, 3, 4, 5, 6, 7] from rfl]
  rw [eqItems_step d 0 _ _ _ x0 y0 w (by kernel_rfl) (by kernel_rfl), eqItems_step d 1 _ _ _ x1 y1 w (by kernel_rfl) (by kernel_rfl), eqItems_step d 2 _ _ _ x2 y2 w (by kernel_rfl) (by kernel_rfl),
    eqItems_step d 3 _ _ _ x3 y3 w (by kernel_rfl) (by kernel_rfl), eqItems_step d 4 _ _ _ x4 y4 w (by kernel_rfl) (by kernel_rfl), eqItems_step d 5 _ _ _ x5 y5 w (by kernel_rfl) (by kernel_rfl),
    eqItems_step d 6 _ _ _ x6 y6 w (by kernel_rfl) (by kernel_rfl), eqItems_step d 7 _ _ _ x7 y7 w (by kernel_rfl) (by kernel_rfl)]
  have h : decide ((⟨x0, x1, x2, x3, x4, x5, x6, x7⟩ : L8) = ⟨y0, y1, y2, y3, y4, y5, y6, y7⟩) = (x0 == y0 && x1 == y1 && x2 == y2 && x3 == y3 && x4 == y4 && x5 == y5 && x6 == y6 && x7 == y7) := by
    rw [Bool.eq_iff_iff]; simp [and_assoc]
  rw [h]
  cases x0 == y0 <;> cases x1 == y1 <;> cases x2 == y2 <;> cases x3 == y3 <;> cases x4 == y4 <;> cases x5 == y5 <;> cases x6 == y6 <;> cases x7 == y7 <;> simp [Op.eqItems]

theorem eqFields_step (d : Nat) (f : Field) (fs : List Field) (xs ys : Array Value) (a b : Value) (r : Bool) (w : World) (hn : f.name ≠ "_") (h1 : (part f.type xs f.offset).run Try.prog w = .ok a w) (h2 : (part f.type ys f.offset).run Try.prog w = .ok b w) (h3 : (Op.equalIn d f.type a b).run Try.prog w = .ok r w) :
    (Op.eqFields d xs ys (f :: fs)).run Try.prog w = if r then (Op.eqFields d xs ys fs).run Try.prog w else .ok false w := by
  simp only [Op.eqFields, if_pos hn, Sem.run_bind, h1, h2, h3, Result.andThen_ok]
  cases r <;> simp

set_option maxRecDepth 100000 in
theorem eq_msgs' (x y : MsgV) (d : Nat) (w : World) : (Op.equalIn (d + 3) 52 (.agg x.cells.toArray) (.agg y.cells.toArray)).run Try.prog w = .ok (decide (x = y)) w := by
  obtain ⟨x1, x2, x3, x4⟩ := x
  obtain ⟨y1, y2, y3, y4⟩ := y
  rw [run_equalIn_agg w (d + 2) 52 _ _ (by kernel_rfl) Try.stoodInHeld52]
  rw [show (Try.prog.fieldsOf 52).toList = [{ name := "Kind", type := 3, offset := 0, embedded := false, tag := "", pkgPath := "", byteOffset := 0 },
        { name := "Core", type := 3, offset := 1, embedded := false, tag := "", pkgPath := "", byteOffset := 8 },
        { name := "Line", type := 3, offset := 2, embedded := false, tag := "", pkgPath := "", byteOffset := 16 },
        { name := "Data", type := 36, offset := 3, embedded := false, tag := "", pkgPath := "", byteOffset := 24 }] from by kernel_rfl]
  rw [eqFields_step (d + 2) _ _ _ _ (.int .i64 x1) (.int .i64 y1) (x1 == y1) w (by simp) (by kernel_rfl) (by kernel_rfl) (run_equalIn_int w (d + 1) 3 .i64 .i64 x1 y1 Try.underlying3),
    eqFields_step (d + 2) _ _ _ _ (.int .i64 x2) (.int .i64 y2) (x2 == y2) w (by simp) (by kernel_rfl) (by kernel_rfl) (run_equalIn_int w (d + 1) 3 .i64 .i64 x2 y2 Try.underlying3),
    eqFields_step (d + 2) _ _ _ _ (.int .i64 x3) (.int .i64 y3) (x3 == y3) w (by simp) (by kernel_rfl) (by kernel_rfl) (run_equalIn_int w (d + 1) 3 .i64 .i64 x3 y3 Try.underlying3),
    eqFields_step (d + 2) _ _ _ _ (.agg x4.cells.toArray) (.agg y4.cells.toArray) _ w (by simp) (by kernel_rfl) (by kernel_rfl) (eq_lines x4 y4 d w)]
  have h : decide ((⟨x1, x2, x3, x4⟩ : MsgV) = ⟨y1, y2, y3, y4⟩) = (x1 == y1 && x2 == y2 && x3 == y3 && decide (x4 = y4)) := by
    rw [Bool.eq_iff_iff]; simp [and_assoc]
  rw [h]
  cases x1 == y1 <;> cases x2 == y2 <;> cases x3 == y3 <;> cases decide (x4 = y4) <;> simp [Op.eqFields]

theorem eq_msgs (x y : MsgV) (w : World) : (Op.equalIn 10000 52 (.agg x.cells.toArray) (.agg y.cells.toArray)).run Try.prog w = .ok (decide (x = y)) w := eq_msgs' x y 9997 w
@[go_sem ↓ high] theorem eq_msg_zero (x : MsgV) (w : World) : (Op.equalIn 10000 52 (.agg x.cells.toArray) (.agg #[.int .i64 0, .int .i64 0, .int .i64 0, .int .u64 0, .int .u64 0, .int .u64 0, .int .u64 0, .int .u64 0, .int .u64 0, .int .u64 0, .int .u64 0])).run Try.prog w = .ok (decide (x = MsgV.zero)) w := eq_msgs x MsgV.zero w
@[go_sem ↓ high] theorem eq_msg_any (x y : MsgV) (w : World) : (Op.equalIn 10000 52 (.agg x.cells.toArray) (.agg y.cells.toArray)).run Try.prog w = .ok (decide (x = y)) w := eq_msgs x y w

theorem results_c {fn : Func} {a : Tmp} {ty : TypeId} (h : fn.results = #[.cell a ty]) {tmps : Array Value} {P : Program} {w : World} {ad : Addr} {v : Value} (ha : tmps.getD a undef = .pointer (some ad)) (hv : (loadVar ty ad).run P w = .ok v w) :
    (results fn tmps).run P w = .ok v w := by
  unfold results
  rw [h]
  rw [Array.getD_eq_getD_getElem?] at ha
  simp [ha, asAddr, hv]
theorem Holds.range0 {w : World} {b : Nat} {t : TypeId} {L : List Value} (h : Holds w b t L) : w.rangeAt b 0 L := fun i v hv => by rw [Nat.zero_add]; exact h.cell hv
theorem Holds.there' {w : World} {b : Nat} {t : TypeId} {L : List Value} (h : Holds w b t L) (o n : Nat) (hn : o + n ≤ L.length) : w.there b o n := fun j hj => ⟨by rw [h.cell (List.getElem?_eq_getElem (show o + j < L.length by omega))]; rfl, h.free _⟩

section
variable {w : World} {lo a p S : Nat} {bs : List Nat} {ways : Nat} {bv : Value} {n : Nd}
theorem NodeAt.outRow (h : NodeAt w lo a p S bs ways bv n) : w.rangeAt a 3 n.out.cells := fun i v hv => by
  have hi : i < 11 := (List.getElem?_eq_some_iff.1 hv).1
  refine h.head.cell (i := 3 + i) ?_
  rw [← hv]
  match i, hi with
  | 0, _ | 1, _ | 2, _ | 3, _ | 4, _ | 5, _ | 6, _ | 7, _ | 8, _ | 9, _ | 10, _ => rfl

set_option maxHeartbeats 400000 in
theorem lineOf_any (h : NodeAt w lo a p S bs ways bv n) (k : Int) (hk : k ≤ 9223372036854775807) :
    Calls Try.prog 56 #[.pointer (some ⟨a, 0, none⟩), .int .i64 k] w fun e w' => e = .returned (.tuple #[.int .i64 (n.lineOf k).1, .int .i64 (n.lineOf k).2]) ∧ w = w' := by
  unfold Nd.lineOf
  by_cases h0 : 0 ≤ k
  · have hd : decide (0 ≤ k) = true := by simpa using h0
    have H := Lib.hid (isLine_any h (k / 8))
    rw [hd, Bool.true_and]
    generalize n.isLine (k / 8) = q at *
    clear h hd
    have hd : decide (k < 0) = false := by simp; omega
    go_enter Try.func56, Try.ntmps56
    go_wp2_with fail
    refine H.out.mono ?_
    rintro e w' ⟨rfl, rfl⟩
    cases q
    · go_wp2
      go_ret2
      exact ⟨rfl, rfl⟩
    · go_wp2
      go_ret2
      exact ⟨rfl, rfl⟩
  · have hd : decide (0 ≤ k) = false := by simpa using h0
    rw [hd, Bool.false_and]
    clear h
    go_enter Try.func56, Try.ntmps56
    go_wp2
    go_ret2
    exact ⟨rfl, rfl⟩

set_option maxRecDepth 100000 in
set_option maxHeartbeats 1000000 in
theorem message_any (h : NodeAt w lo a p S bs ways bv n) (kind line : Int) :
    Calls Try.prog 85 #[.pointer (some ⟨a, 0, none⟩), .int .i64 kind, .int .i64 line] w fun e w' => e = .returned (.agg (n.msg kind line).cells.toArray) ∧ Below w.heap.size w w' := by
  have c0 := h.c 0 rfl
  have hl := h.head.lt
  unfold Nd.msg
  obtain ⟨W, eW, bW, hn, hr, -⟩ := mbox w ⟨kind, n.core, line, L8.zero⟩
  have EW := Lib.hid eW; clear eW
  have Hn := Lib.hid hn; clear hn
  have Hb := Lib.hid bW; clear bW
  have Hld := Lib.hid (Try.load52 _ hr); clear hr
  generalize n.core = c at *
  clear h
  go_enter Try.func85, Try.ntmps85
  go_wp2_with (refine wpList_store_mid rfl 52 (.tmp 6) (.tmp 13) rfl w.heap.size 0 (MsgV.cells ⟨kind, c, line, L8.zero⟩).toArray rfl rfl ?_ Try.size52 (oneMsg _) ?_; exact Hn.out; change wpList _ _ _ _ _ ((w.alloc (.cells MsgV.zero.cells.toArray 52)).setCells w.heap.size 0 (MsgV.cells ⟨kind, c, line, L8.zero⟩)); rw [← EW.out])
  exact bodyPost_ret (results_c rfl rfl Hld.out) rfl ⟨rfl, Hb.out⟩

set_option maxHeartbeats 400000 in
theorem isOut_any (h : NodeAt w lo a p S bs ways bv n) : Calls Try.prog 66 #[.pointer (some ⟨a, 0, none⟩)] w fun e w' => e = .returned (.bool n.isOut) ∧ w = w' := by
  have Hr := Lib.hid h.outRow
  unfold Nd.isOut
  generalize n.out = m at *
  clear h
  go_enter Try.func66, Try.ntmps66
  go_wp2_with (refine wpList_load_mid rfl 52 (.tmp 5) rfl a 3 rfl m.cells _ ?_ Try.underlying52 rfl Try.size52 ?_; exact Hr.out)
  go_ret
  exact ⟨by simp, rfl⟩

set_option maxHeartbeats 400000 in
theorem nmarked_any (e0 : Ent) (w : World) : Calls Try.prog 63 #[.agg e0.cells.toArray] w fun e w' => e = .returned (.bool e0.mk') ∧ Below w.heap.size w w' := by
  unfold Ent.mk'
  have hb : Below w.heap.size w (w.alloc (.cells e0.cells.toArray 42)) := (Below.refl _ w).alloc (Nat.le_refl _) _
  have Hb := Lib.hid hb; clear hb
  obtain ⟨ln, st, rd, wr, d, old, us⟩ := e0
  simp only [Ent.cells] at *
  cases rd
  · go_enter Try.func63, Try.ntmps63
    go_wp2
    go_ret
    exact ⟨rfl, Hb.out⟩
  · go_enter Try.func63, Try.ntmps63
    go_wp2
    go_ret
    exact ⟨rfl, Hb.out⟩

set_option maxHeartbeats 400000 in
theorem mark_ok (h : NodeAt w lo a p S bs ways bv n) (line : Int) (wr : Bool) :
    Calls Try.prog 59 #[.pointer (some ⟨a, 0, none⟩), .int .i64 line, .bool wr] w fun e w' => e = .returned (.tuple #[]) ∧ NodeAt w' lo a p S bs ways bv (n.mark line wr) ∧ Tch (Own a p bs bv) w w' := by
  have c15 := h.c 15 rfl
  have c2 := h.c 2 rfl
  unfold Nd.mark
  by_cases hl : n.live = true
  · rw [hl] at c15
    rw [if_pos hl]
    have hm := mark_any h.cache line wr
    have hu := markL_u n.ss n.u line wr
    obtain ⟨x, hx⟩ := markL_val n.ss n.u line wr
    have Hm := Lib.hid (show Calls Try.prog 38 #[.pointer (some ⟨p, 0, none⟩), .int .i64 line, .bool wr] w (fun e w' => e = .returned (.int .i64 x) ∧ NodeAt w' lo a p S bs ways bv { n with ss := (markL n.ss n.u line wr).1 } ∧ Tch (Own a p bs bv) w w') from hm.mono (fun e w' hd => by
      obtain ⟨h1, h2, h3⟩ := hd
      rw [hu] at h2
      exact ⟨h1.trans (by rw [hx]), h.turn h2 h3, tch_own h3⟩))
    clear hm hu hx h hl
    generalize (markL n.ss n.u line wr).1 = ss' at *
    go_enter Try.func59, Try.ntmps59
    go_wp2_with fail
    refine Hm.out.mono ?_
    rintro e w' ⟨rfl, h2⟩
    have H2 := Lib.hid h2; clear h2
    go_wp2
    exact ⟨rfl, .tuple #[], (by simp [results, Try.results59, go_sem]), rfl, H2.out⟩
  · have hl' : n.live = false := by simpa using hl
    rw [hl'] at c15
    rw [if_neg hl]
    have H := Lib.hid h; clear h hl hl'
    go_enter Try.func59, Try.ntmps59
    go_wp2
    exact ⟨rfl, .tuple #[], (by simp [results, Try.results59, go_sem]), rfl, H.out, Tch.refl _ _⟩

set_option maxHeartbeats 400000 in
theorem abort_ok (h : NodeAt w lo a p S bs ways bv n) (code : Int) :
    Calls Try.prog 64 #[.pointer (some ⟨a, 0, none⟩), .int .i64 code] w fun e w' => e = .returned (.tuple #[]) ∧ NodeAt w' lo a p S bs ways bv (n.abort code) ∧ Tch (Own a p bs bv) w w' := by
  have c2 := h.c 2 rfl
  have Hd := Lib.hid (discard_st h.cache)
  have H := Lib.hid h; clear h
  unfold Nd.abort
  go_enter Try.func64, Try.ntmps64
  go_wp2_with fail
  refine Hd.out.mono ?_
  rintro e w1 ⟨rfl, hc, hT⟩
  have h1 := H.out.turn hc hT
  have c15 := h1.c 15 rfl
  have c16 := h1.c 16 rfl
  have f15 := h1.head.free 15
  have f16 := h1.head.free 16
  have h3 := (h1.set 15 (.bool false) { n with ss := turnAll Ent.clear (turnAll Ent.back n.ss), live := false } rfl rfl rfl rfl).set 16 (.int .i64 code) { n with ss := turnAll Ent.clear (turnAll Ent.back n.ss), live := false, code := code } rfl rfl rfl rfl
  have hT3 : Tch (Own a p bs bv) w ((w1.setCell ⟨a, 15, none⟩ (.bool false)).setCell ⟨a, 16, none⟩ (.int .i64 code)) := ((tch_own hT).setCell (p := ⟨a, 15, none⟩) (.inl (.inl rfl)) _).setCell (p := ⟨a, 16, none⟩) (.inl (.inl rfl)) _
  have H3 := Lib.hid (And.intro h3 hT3)
  clear hc hT h1 h3 hT3
  go_wp2
  exact ⟨rfl, .tuple #[], (by simp [results, Try.results64, go_sem]), rfl, H3.out⟩

set_option maxHeartbeats 400000 in
theorem lose_ok (h : NodeAt w lo a p S bs ways bv n) (line : Int) :
    Calls Try.prog 108 #[.pointer (some ⟨a, 0, none⟩), .int .i64 line] w fun e w' => e = .returned (.tuple #[]) ∧ NodeAt w' lo a p S bs ways bv (n.lose line) ∧ Tch (Own a p bs bv) w w' := by
  unfold Nd.lose
  by_cases hl : line = 0
  · subst hl
    rw [if_pos rfl]
    have Hd := Lib.hid (abort_ok h 2); clear h
    go_enter Try.func108, Try.ntmps108
    go_wp2_with fail
    refine Hd.out.mono ?_
    rintro e w1 ⟨rfl, h1⟩
    have H1 := Lib.hid h1; clear h1
    go_wp2
    exact ⟨rfl, .tuple #[], (by simp [results, Try.results108, go_sem]), rfl, H1.out⟩
  · rw [if_neg hl]
    have hl' : (line == 0) = false := by simpa using hl
    have Hd := Lib.hid (abort_ok h 1); clear h hl
    go_enter Try.func108, Try.ntmps108
    go_wp2_with fail
    refine Hd.out.mono ?_
    rintro e w1 ⟨rfl, h1⟩
    have H1 := Lib.hid h1; clear h1
    go_wp2
    exact ⟨rfl, .tuple #[], (by simp [results, Try.results108, go_sem]), rfl, H1.out⟩

set_option maxHeartbeats 400000 in
theorem commit_ok (h : NodeAt w lo a p S bs ways bv n) :
    Calls Try.prog 23 #[.pointer (some ⟨a, 0, none⟩)] w fun e w' => e = .returned (.int .i64 n.commit.2) ∧ NodeAt w' lo a p S bs ways bv n.commit.1 ∧ Tch (Own a p bs bv) w w' := by
  have c15 := h.c 15 rfl
  have f15 := h.head.free 15
  unfold Nd.commit
  by_cases hl : n.live = true
  · rw [hl] at c15
    rw [if_pos hl]
    have h1 := h.set 15 (.bool false) { n with live := false } rfl rfl rfl rfl
    have hT1 : Tch (Own a p bs bv) w (w.setCell ⟨a, 15, none⟩ (.bool false)) := (Tch.refl _ w).setCell (p := ⟨a, 15, none⟩) (.inl (.inl rfl)) _
    have c2 := h1.c 2 rfl
    have Hd := Lib.hid (commit_st h1.cache)
    have H1 := Lib.hid (And.intro h1 hT1)
    clear h h1 hT1 hl
    go_enter Try.func23, Try.ntmps23
    go_wp2_with fail
    refine Hd.out.mono ?_
    rintro e w1 ⟨rfl, hc, hT⟩
    have H3 := Lib.hid (And.intro (H1.out.1.turn hc hT) (H1.out.2.trans (tch_own hT)))
    clear hc hT
    go_wp2
    go_ret
    exact ⟨rfl, H3.out⟩
  · have hl' : n.live = false := by simpa using hl
    rw [hl'] at c15
    rw [if_neg hl]
    have H := Lib.hid h; clear h hl hl'
    go_enter Try.func23, Try.ntmps23
    go_wp2
    go_ret
    exact ⟨rfl, H.out, Tch.refl _ _⟩

set_option maxHeartbeats 400000 in
theorem abortC_ok (h : NodeAt w lo a p S bs ways bv n) (code : Int) :
    Calls Try.prog 22 #[.pointer (some ⟨a, 0, none⟩), .int .i64 code] w fun e w' => e = .returned (.int .i64 (n.abortC code).2) ∧ NodeAt w' lo a p S bs ways bv (n.abortC code).1 ∧ Tch (Own a p bs bv) w w' := by
  have c15 := h.c 15 rfl
  unfold Nd.abortC
  by_cases hl : n.live = true
  · rw [hl] at c15
    rw [if_pos hl]
    by_cases h1 : code < 1
    · rw [if_pos (Or.inl h1)]
      have H := Lib.hid h; clear h hl
      go_enter Try.func22, Try.ntmps22
      go_wp2
      go_ret
      exact ⟨rfl, H.out, Tch.refl _ _⟩
    · by_cases h7 : 7 < code
      · rw [if_pos (Or.inr h7)]
        have H := Lib.hid h; clear h hl
        go_enter Try.func22, Try.ntmps22
        go_wp2
        go_ret
        exact ⟨rfl, H.out, Tch.refl _ _⟩
      · rw [if_neg (by omega)]
        have H := Lib.hid (abort_ok h code); clear h hl
        go_enter Try.func22, Try.ntmps22
        go_wp2_with fail
        refine H.out.mono ?_
        rintro e w1 ⟨rfl, h1⟩
        have H1 := Lib.hid h1; clear h1
        go_wp2
        go_ret
        exact ⟨rfl, H1.out⟩
  · have hl' : n.live = false := by simpa using hl
    rw [hl'] at c15
    rw [if_neg hl]
    have H := Lib.hid h; clear h hl hl'
    go_enter Try.func22, Try.ntmps22
    go_wp2
    go_ret
    exact ⟨rfl, H.out, Tch.refl _ _⟩
end

end Go.Proofs.Ytddajnpichchfaa
