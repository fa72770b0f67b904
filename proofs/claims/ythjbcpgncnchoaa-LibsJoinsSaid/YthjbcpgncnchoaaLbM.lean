/- A library's code is written: names get their places. Conditions: those stated in each theorem. -/
import Derived.Test.YthjbcpgncnchoaaLbL
namespace Go.Proofs.Ythjbcpgncnchoaa
open Go.RowKit Go.BigFrame Go.Maps

/-! ### Names get their places, plainly -/
def patch1 (pl : Sp) (c : List In) (g : Gn) : List In := c.modify g.1.toNat (fun i => { i with imm := (pl g.2).getD 0 })
def patchL (pl : Sp) (c : List In) (l : List Gn) : List In := l.foldl (patch1 pl) c
def WV.out (x : WV) : List In := patchL x.pl x.code x.go
theorem patch1_len (pl : Sp) (c : List In) (g : Gn) : (patch1 pl c g).length = c.length := by simp [patch1]
theorem patchL_len (pl : Sp) : ∀ (l : List Gn) (c : List In), (patchL pl c l).length = c.length
  | [], _ => rfl
  | g :: r, c => by
    have := patchL_len pl r (patch1 pl c g)
    rw [patch1_len] at this
    exact this
theorem patchL_snoc (pl : Sp) (c : List In) (l : List Gn) (g : Gn) : patchL pl c (l ++ [g]) = patch1 pl (patchL pl c l) g := by simp [patchL]
theorem flatI_at : ∀ (l : List In) (k : Nat) (x : In), l[k]? = some x → ∀ (j : Nat) (v : Value), x.cells[j]? = some v → (flatI l)[k * 5 + j]? = some v
  | [], k, x, h, _, _, _ => by simp at h
  | y :: r, 0, x, h, j, v, hj => by
    simp at h; subst h
    have hlt : j < y.cells.length := (List.getElem?_eq_some_iff.1 hj).1
    unfold flatI
    rw [List.flatMap_cons, Nat.zero_mul, Nat.zero_add, List.getElem?_append_left hlt]; exact hj
  | y :: r, k + 1, x, h, j, v, hj => by
    have := flatI_at r k x (by simpa using h) j v hj
    unfold flatI at this ⊢
    rw [List.flatMap_cons, List.getElem?_append_right (by simp [In.cells]; omega)]
    rw [← this]; congr 1; simp [In.cells]; omega
theorem flatI_imm (v : Int) : ∀ (l : List In) (k : Nat), k < l.length → flatI (l.modify k (fun i => { i with imm := v })) = (flatI l).set (k * 5 + 4) (.int .i64 v)
  | [], k, h => by simp at h
  | y :: r, 0, h => by
    obtain ⟨a, b, c, d, e⟩ := y
    simp [flatI, In.cells]
  | y :: r, k + 1, h => by
    have := flatI_imm v r k (by simpa using h)
    obtain ⟨a, b, c, d, e⟩ := y
    unfold flatI at this ⊢
    rw [List.modify_succ_cons, List.flatMap_cons, this, List.flatMap_cons]
    rw [List.set_append_right _ _ (by simp [In.cells]; omega)]
    congr 2
    simp [In.cells]; omega
theorem flatG_at : ∀ (l : List Gn) (k : Nat) (g : Gn), l[k]? = some g → (flatG l)[k * 2]? = some (.int .i64 g.1) ∧ (flatG l)[k * 2 + 1]? = some g.2.val
  | [], k, g, h => by simp at h
  | y :: r, 0, g, h => by simp at h; subst h; exact ⟨rfl, rfl⟩
  | y :: r, k + 1, g, h => by
    have := flatG_at r k g (by simpa using h)
    refine ⟨?_, ?_⟩
    · rw [← this.1, show (k + 1) * 2 = k * 2 + 2 by omega]; rfl
    · rw [← this.2, show (k + 1) * 2 + 1 = k * 2 + 1 + 2 by omega]; rfl

/-- What goes somewhere goes from where there is an instruction. -/
def WV.Goes (x : WV) : Prop := ∀ g ∈ x.go, (0 ≤ g.1 ∧ g.1 < (x.code.length : Int)) ∧ g.2.length ≤ 100

section
variable {w w0 : World} {B N b : Nat} {P : Pl} {x : WV}
theorem WPt.idle {cv gv : Value} {mb : Nat} {w' : World} (h : WPt w B P N b x cv gv mb) (hb : Below w.heap.size w w') : WPt w' B P N b x cv gv mb :=
  ⟨h.head.below hb, owns_same h.code (fun g e => hb.block g (owns_lt h.code e).2), owns_same h.goes (fun g e => hb.block g (owns_lt h.goes e).2), h.map.same (hb.block mb h.map.lt), h.lob, h.lom, h.loc, h.log, h.ln, h.gn⟩
/-- One name's place is laid. -/
theorem lay_at {gv : Value} {mb g cap n : Nat} {V : World} (h : WPt V B P N b x (.slice (some ⟨g, 0, none⟩) n cap) gv mb) (hnn : x.code.length = n) (m : Nat) (s : Nm) (hk : m < x.code.length) :
    WPt (V.setCell ⟨g, m * 5 + 4, none⟩ (.int .i64 ((x.pl s).getD 0))) B P N b { x with code := patch1 x.pl x.code ((m : Int), s) } (.slice (some ⟨g, 0, none⟩) n cap) gv mb ∧ Below B V (V.setCell ⟨g, m * 5 + 4, none⟩ (.int .i64 ((x.pl s).getD 0))) := by
  subst hnn
  have hn : ∀ k, k ≠ g → (V.setCell ⟨g, m * 5 + 4, none⟩ (.int .i64 ((x.pl s).getD 0))).heap[k]? = V.heap[k]? := fun k hk => Below.heap_setCell V ⟨g, m * 5 + 4, none⟩ _ k hk
  obtain ⟨d, hd⟩ := owns_kind h.code (k := g) rfl
  refine ⟨⟨h.head.same (hn b (fun e => ?_)), ?_, owns_same h.goes (fun g' e => hn g' (fun e2 => ?_)), h.map.same (hn mb (fun e => ?_)), h.lob, h.lom, h.loc, h.log, ?_, h.gn⟩, (Below.refl _ V).setCell (h.loc g rfl) _⟩
  · subst e
    have := h.head
    unfold Holds at this; rw [hd] at this; cases this
  · have := (h.code.stored (m * 5 + 4) (.int .i64 ((x.pl s).getD 0))).1
    simp only [patch1, Int.toNat_natCast, flatI_imm _ _ _ hk, List.length_modify]
    exact this
  · subst e2
    obtain ⟨d2, hd2⟩ := owns_kind h.goes e
    rw [hd] at hd2; cases hd2
  · subst e
    exact h.map.ne hd rfl
  · simp only [patch1, List.length_modify]; exact h.ln

/-- A code that a function's value writes. -/
structure Wr (P : Pl) (w : World) (K : Nat) (F : WV → WV) (g : FuncId) (fs cs : Array Value) : Prop where
  en : En g
  does : ∀ (W : World) (b : Nat), Below w.heap.size w W → WO w.heap.size P 0 W W b WV.new → Calls Try.prog g (fs ++ #[.pointer (some ⟨b, 0, none⟩)] ++ cs) W fun e w' => e = .returned (.tuple #[]) ∧ WO w.heap.size P K W w' b (F WV.new)

set_option maxRecDepth 100000 in
set_option maxHeartbeats 2000000 in
theorem written_no (P : Pl) (hP : P.Any) (hm : P.mayBe = false) (fn : Fn) (fs cs : Array Value) (w : World) : Calls Try.prog 41 #[P.val, .func fn fs cs] w fun e w' => e = .returned (.tuple #[.slice none 0 0, .int .i64 130]) ∧ Below w.heap.size w w' := by
  have hb := (box4 w P)
  have c0 := hb.cell (i := 0) rfl
  have c1 := hb.cell (i := 1) rfl
  have c2 := hb.cell (i := 2) rfl
  have c3 := hb.cell (i := 3) rfl
  have HB := Lib.hid ((Below.refl _ w).alloc (Nat.le_refl _) (.cells #[.int .i64 P.base, .int .i64 P.roots, .int .i64 P.width, .int .i64 P.many] 68))
  have HM := Lib.hid (fun W => mayBe_any P hP W)
  rw [hm] at HM
  clear hb hm
  go_enter Try.func41, Try.ntmps41
  unfold Pl.val
  go_wp2_with (go_at_call 62; (with_reducible refine (HM.out _).mono ?_); rintro e V ⟨rfl, hb2⟩; have H2 := Lib.hid hb2; clear hb2)
  refine bodyPost_ret (results_tmp2 rfl _ _ _) rfl ⟨rfl, HB.out.trans (H2.out.mono HB.out.size)⟩

theorem WV.new_at {w W : World} (hb : Below w.heap.size w W) (P : Pl) : WO w.heap.size P 0 ((W.alloc (.map #[] 0)).alloc (.cells #[.int .i64 P.base, .int .i64 P.roots, .int .i64 P.width, .int .i64 P.many, .slice none 0 0, .map (some W.heap.size), .slice none 0 0] 93)) ((W.alloc (.map #[] 0)).alloc (.cells #[.int .i64 P.base, .int .i64 P.roots, .int .i64 P.width, .int .i64 P.many, .slice none 0 0, .map (some W.heap.size), .slice none 0 0] 93)) (W.heap.size + 1) WV.new := by
  refine WO.refl ⟨.slice none 0 0, .slice none 0 0, W.heap.size, newAt (by simp) 93 _, ⟨rfl, .inl ⟨rfl, rfl⟩⟩, ⟨rfl, .inl ⟨rfl, rfl⟩⟩, (SpAt.made W).same (Below.heap_alloc _ _ _ (by simp)), by have := hb.size; omega, hb.size, fun g e => (by cases e), fun g e => (by cases e), Nat.le_refl _, Nat.le_refl _⟩

set_option maxRecDepth 100000 in
set_option maxHeartbeats 4000000 in
theorem written_yes (P : Pl) (hP : P.Any) (hm : P.mayBe = true) {K : Nat} {F : WV → WV} {g : FuncId} {fs cs : Array Value} (w : World) (hF : Wr P w K F g fs cs) (hK : K ≤ 60000) (hG : (F WV.new).Goes) : Calls Try.prog 41 #[P.val, .func (.func g) fs cs] w fun e w' => ∃ v, e = .returned (.tuple #[v, .int .i64 0]) ∧ w'.ownsRow w.heap.size 40 5 v (F WV.new).out.length (flatI (F WV.new).out) ∧ Below w.heap.size w w' := by
  have hb := (box4 w P)
  have c0 := hb.cell (i := 0) rfl
  have c1 := hb.cell (i := 1) rfl
  have c2 := hb.cell (i := 2) rfl
  have c3 := hb.cell (i := 3) rfl
  have HB := Lib.hid ((Below.refl _ w).alloc (Nat.le_refl _) (.cells #[.int .i64 P.base, .int .i64 P.roots, .int .i64 P.width, .int .i64 P.many] 68))
  have HM := Lib.hid (fun W => mayBe_any P hP W)
  rw [hm] at HM
  have HW := Lib.hid hF; clear hF
  have HG := Lib.hid hG; clear hG
  have HKK := Lib.hid hK; clear hK
  have hmm := @run_makeMap Try.prog
  clear hm
  go_enter Try.func41, Try.ntmps41
  unfold Pl.val
  go_wp2_with (first | (go_at_call 62; (with_reducible refine (HM.out _).mono ?_); rintro e V ⟨rfl, hb2⟩; have c0 := (hb.below hb2).cell (i := 0) rfl; have c1 := (hb.below hb2).cell (i := 1) rfl; have c2 := (hb.below hb2).cell (i := 2) rfl; have c3 := (hb.below hb2).cell (i := 3) rfl; have H2 := Lib.hid (HB.out.trans (hb2.mono HB.out.size)); clear hb2) | (refine wpList_callV rfl (by rfl) (by rfl) HW.out.en _ (by simp [Act.eval]) (HW.out.does _ _ ?_ (WV.new_at H2.out P)) ?_; exact (H2.out.alloc H2.out.size _).alloc (by have := H2.out.size; simp; omega) _; intro W2 h; refine Hid.out ?_))
  refine Lib.hid ?_
  have HL := Lib.hid (((H2.out.alloc H2.out.size (.map #[] 0)).alloc (by have := H2.out.size; simp; omega) (.cells #[.int .i64 P.base, .int .i64 P.roots, .int .i64 P.width, .int .i64 P.many, .slice none 0 0, .map (some V.heap.size), .slice none 0 0] 93)).trans h.below)
  obtain ⟨cv, gv, mb, hpt⟩ := h.at_
  clear h HB HM H2 HW
  generalize V.heap.size + 1 = b at *
  obtain ⟨x, hx⟩ : ∃ x, F WV.new = x := ⟨_, rfl⟩
  rw [hx] at hpt HG
  have Hx := Lib.hid hx; clear hx
  obtain ⟨ad, cap, rfl⟩ := row_form hpt.code
  obtain ⟨ad2, cap2, rfl⟩ := row_form hpt.goes
  have k6 := hpt.head.cell (i := 6) rfl
  have hgl : x.go.length ≤ 60000 := Nat.le_trans hpt.gn HKK.out
  have HP := Lib.hid hpt; clear hpt
  go_wp2_with fail
  go_loopw [24] (fun i wr => ∃ k : Nat, k ≤ x.go.length ∧ i = .int .i64 k ∧ Below w.heap.size w wr ∧ WPt wr w.heap.size P K b { x with code := patchL x.pl x.code (x.go.take k) } (.slice ad x.code.length cap) (.slice ad2 x.go.length cap2) mb) (fun i _ => x.go.length - (intOf i).toNat)
  case atStart => exact ⟨0, by omega, by simp, HL.out, HP.out⟩
  case round =>
    obtain ⟨k, hk, rfl, hbw, hpt⟩ := hrel
    have Hbw := Lib.hid hbw; clear hbw
    by_cases hlt : k < x.go.length
    · obtain ⟨q, hq⟩ : ∃ q, x.go[k]? = some q := ⟨x.go[k], List.getElem?_eq_getElem hlt⟩
      have hqm : q ∈ x.go := List.mem_of_getElem? hq
      obtain ⟨⟨hq0, hq1⟩, hq2⟩ := HG.out q hqm
      clear hqm
      obtain ⟨qf, qn⟩ := q
      simp only at hq0 hq1 hq2
      obtain ⟨m, rfl⟩ : ∃ m : Nat, qf = m := ⟨qf.toNat, by omega⟩
      have hm : m < x.code.length := by omega
      obtain ⟨gg, rfl⟩ : ∃ gg, ad2 = some ⟨gg, 0, none⟩ := by
        rcases owns_form hpt.goes with ⟨_, h0, _⟩ | ⟨g', c', e, _⟩
        · simp only at h0; omega
        · simp only [Value.slice.injEq] at e; exact ⟨g', e.1⟩
      obtain ⟨g, rfl⟩ : ∃ g, ad = some ⟨g, 0, none⟩ := by
        rcases owns_form hpt.code with ⟨_, h0, _⟩ | ⟨g', c', e, _⟩
        · simp only [patchL_len] at h0; omega
        · simp only [Value.slice.injEq] at e; exact ⟨g', e.1⟩
      have r0 := (owns_cell hpt.goes (g := gg) rfl (flatG_at _ _ _ hq).1).1
      have r1 := (owns_cell hpt.goes (g := gg) rfl (flatG_at _ _ _ hq).2).1
      simp only [Nm.val] at r1
      have hcode := patchL_len x.pl (x.go.take k) x.code
      have hbk : (0 : Int) ≤ k ∧ (k : Int) < x.go.length := by omega
      have hbm : (0 : Int) ≤ m ∧ (m : Int) < x.code.length := by omega
      have HQ := Lib.hid hpt; clear hpt
      go_wp2_with fail
      have hbx : Holds (wr.alloc (.cells #[.int .i64 m, .string ⟨qn.toArray⟩] 95)) wr.heap.size 95 [.int .i64 m, .string ⟨qn.toArray⟩] := Holds.new wr 95 [.int .i64 m, .string ⟨qn.toArray⟩]
      have hpt := HQ.out.idle ((Below.refl _ wr).alloc (Nat.le_refl _) (.cells #[.int .i64 m, .string ⟨qn.toArray⟩] 95))
      have hbl := Hbw.out.alloc Hbw.out.size (.cells #[.int .i64 m, .string ⟨qn.toArray⟩] 95)
      clear r0 r1 HQ Hbw
      generalize wr.alloc (.cells #[.int .i64 m, .string ⟨qn.toArray⟩] 95) = W at *
      have b0 := hbx.cell (i := 0) rfl
      have b1 := hbx.cell (i := 1) rfl
      have k4 := hpt.head.cell (i := 4) rfl
      have k5 := hpt.head.cell (i := 5) rfl
      have hlk := fun n => SpAt.run (hpt.map.same (w' := W.drewN n) rfl) (s := qn) hq2
      simp only [Nm.val] at hlk
      have hlk1 := SpAt.run (hpt.map.same (w' := W.drew) rfl) (s := qn) hq2
      simp only [Nm.val] at hlk1
      obtain ⟨y, hy⟩ : ∃ y, (patchL x.pl x.code (x.go.take k))[m]? = some y := ⟨_, List.getElem?_eq_getElem (by omega)⟩
      have hst := owns_cell hpt.code (g := g) rfl (flatI_at _ _ _ hy 4 _ rfl)
      have hst0 := hst.1
      have hst1 := hst.2
      have hlay := lay_at hpt hcode m qn (by show m < (patchL x.pl x.code (x.go.take k)).length; omega)
      clear hst hbx
      have HL2 := Lib.hid hlay; clear hlay
      have Hbl := Lib.hid hbl; clear hbl
      have HQ := Lib.hid hpt; clear hpt
      go_still_tail 15, (by kernel_rfl)
      change wpList _ _ _ _ _ W.drew
      go_wp2
      go_roundw
      case rel =>
        refine ⟨k + 1, by omega, by go_num, below_drew1 (Hbl.out.trans HL2.out.2), ?_⟩
        have h9 := HL2.out.1.idle (below_drew1 (Below.refl _ _))
        have h8 : patchL x.pl x.code (x.go.take (k + 1)) = patch1 x.pl (patchL x.pl x.code (x.go.take k)) ((m : Int), qn) := by
          rw [List.take_add_one, hq]; exact patchL_snoc _ _ _ _
        rw [h8]
        exact h9
      case measure => simp [intOf]; omega
    · obtain rfl : k = x.go.length := by omega
      have k4 := hpt.head.cell (i := 4) rfl
      have HQ := Lib.hid hpt; clear hpt
      go_wp2_with fail
      refine bodyPost_ret (results_tmp2 rfl _ _ _) rfl ⟨_, rfl, ?_, Hbw.out⟩
      have h1 := owns_mono HQ.out.code (lo' := w.heap.size) HQ.out.loc
      simp only [List.take_length] at h1
      rw [Hx.out]
      exact h1
end

end Go.Proofs.Ythjbcpgncnchoaa
