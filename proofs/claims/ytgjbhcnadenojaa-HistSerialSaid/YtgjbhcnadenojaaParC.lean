/- hist's laws: ev, alive, over; rows of events. Conditions: those stated in each theorem. -/
import Derived.Test.YtgjbhcnadenojaaParB
import Derived.Test.YtgjbhcnadenojaaHisZ
import Derived.Laws.AppendOwnNone
namespace Go.Proofs.Ytgjbhcnadenojaa
open Go.RowKit Go.BigFrame Go.Maps

theorem judge_any {a b : Option Addr} {cap cap2 : Nat} {h : List Ev} {first : List Int} (w : World) (hr : RowsIn w a 9 Ev.cells h) (hl : h.length ≤ 900) (hf : ∀ e ∈ h, e.fit) (hr2 : RowsIn w b 1 ucell first) :
    Calls Try.prog 17 #[.slice a h.length cap, .slice b first.length cap2] w fun z w' => z = .returned (.tuple #[.int .i64 (judgeP h first).1, .bool (judgeP h first).2.1, .int .i64 (judgeP h first).2.2]) ∧ Below w.heap.size w w' :=
  (callsIn_wide.1 (judge_in w hr hl hf hr2)).mono fun _ _ ⟨_, h1, h2, h3⟩ => ⟨by rw [h1, h2]; rfl, h3⟩
theorem final_any {a b : Option Addr} {cap cap2 : Nat} {h : List Ev} {first : List Int} (w : World) (hr : RowsIn w a 9 Ev.cells h) (hl : h.length ≤ 900) (hf : ∀ e ∈ h, e.fit) (hr2 : RowsIn w b 1 ucell first) (words : Int) :
    Calls Try.prog 18 #[.slice a h.length cap, .slice b first.length cap2, .int .i64 words] w fun z w' => ∃ v, z = .returned (.tuple #[v, .int .i64 (finalP h first words).2]) ∧ RowU w' w.heap.size v (finalP h first words).1 ∧ Below w.heap.size w w' :=
  callsIn_wide.1 (final_in w hr hl hf hr2 words)

/-! ### Rows of events -/
def flatE (l : List Ev) : List Value := l.flatMap Ev.cells
theorem flatE_length (l : List Ev) : (flatE l).length = l.length * 9 := by
  induction l with
  | nil => rfl
  | cons x l ih => simp only [flatE, List.flatMap_cons, List.length_append, List.length_cons] at *; simp only [Ev.cells, List.length_cons, List.length_nil]; omega
theorem flatE_at {l : List Ev} {i : Nat} {x : Ev} (h : l[i]? = some x) {j : Nat} {v : Value} (hv : x.cells[j]? = some v) : (flatE l)[i * 9 + j]? = some v := by
  have hj : j < 9 := (List.getElem?_eq_some_iff.1 hv).1
  induction l generalizing i with
  | nil => simp at h
  | cons y l ih =>
    cases i with
    | zero => simp at h; subst h; simp only [flatE, List.flatMap_cons]; rw [List.getElem?_append_left (by rw [Nat.zero_mul, Nat.zero_add]; exact hj), Nat.zero_mul, Nat.zero_add]; exact hv
    | succ i =>
      simp at h
      have := ih h
      simp only [flatE, List.flatMap_cons]
      rw [List.getElem?_append_right (by simp [Ev.cells]; omega), show (i + 1) * 9 + j - y.cells.length = i * 9 + j from by simp [Ev.cells]; omega]
      exact this
theorem flatE_append (a b : List Ev) : flatE (a ++ b) = flatE a ++ flatE b := by simp [flatE]
theorem flatE_one (l : List Ev) : ∀ u ∈ flatE l, u.oneCell' = true := by
  intro u hu
  unfold flatE at hu
  obtain ⟨x, _, hx⟩ := List.mem_flatMap.1 hu
  simp only [Ev.cells, List.mem_cons, List.not_mem_nil, or_false] at hx
  rcases hx with rfl | rfl | rfl | rfl | rfl | rfl | rfl | rfl | rfl <;> rfl
theorem ev_cell (x : Ev) {j : Nat} (h : j < 9) : ∃ v, x.cells[j]? = some v := ⟨_, List.getElem?_eq_getElem (show j < x.cells.length from h)⟩
theorem rowsE_own {w : World} {lo : Nat} {v : Value} {l : List Ev} (h : w.ownsRow lo 61 9 v l.length (flatE l)) : ∃ a cap, v = .slice a l.length cap ∧ RowsIn w a 9 Ev.cells l := by
  rcases owns_form h with ⟨rfl, h2, h3⟩ | ⟨g, cap, rfl, h2⟩
  · have hn : l = [] := List.eq_nil_of_length_eq_zero h2
    exact ⟨none, 0, by rw [h2], .inl hn⟩
  · exact ⟨_, cap, rfl, .inr ⟨g, 0, rfl, (owns_lt h rfl).2, fun k x hx j u hj => by
      rw [Nat.zero_add]
      exact (owns_cell h rfl (flatE_at hx hj)).1⟩⟩
theorem rowsU_own {w : World} {lo : Nat} {v : Value} {l : List Int} (h : RowU w lo v l) : ∃ a cap, v = .slice a l.length cap ∧ RowsIn w a 1 ucell l := by
  unfold RowU at h
  rcases owns_form h with ⟨rfl, h2, h3⟩ | ⟨g, cap, rfl, h2⟩
  · have hn : l = [] := List.eq_nil_of_length_eq_zero h2
    exact ⟨none, 0, by rw [h2], .inl hn⟩
  · exact ⟨_, cap, rfl, .inr ⟨g, 0, rfl, (owns_lt h rfl).2, fun k x hx j u hj => by
      rw [Nat.zero_add, Nat.mul_one]
      match j with
      | 0 =>
        simp only [ucell, List.getElem?_cons_zero, Option.some.injEq] at hj
        subst hj
        exact (owns_cell h rfl (by simp [hx])).1
      | j + 1 => simp [ucell] at hj⟩⟩
theorem rows_newsE {w : World} {ad : Addr} {l : List Ev} (h : RowsIn w (some ad) 9 Ev.cells l) : ∀ j u, (flatE l)[j]? = some u → w.cell? (ad.add j) = some u := by
  intro j u hj
  have hlt : j < l.length * 9 := by rw [← flatE_length]; exact (List.getElem?_eq_some_iff.1 hj).1
  have hk : j / 9 < l.length := by omega
  obtain ⟨x, hx⟩ : ∃ x, l[j / 9]? = some x := ⟨l[j / 9], List.getElem?_eq_getElem hk⟩
  obtain ⟨q, c, e, hq, hr⟩ := h.row hx
  cases e
  have hm : j % 9 < 9 := Nat.mod_lt _ (by omega)
  obtain ⟨v, hc⟩ := ev_cell x hm
  have h1 := flatE_at hx hc
  rw [show j / 9 * 9 + j % 9 = j by omega, hj] at h1
  cases h1
  have := hr _ _ hc
  rw [show c + j / 9 * 9 + j % 9 = c + j by omega] at this
  unfold Addr.add
  split
  · rename_i h0; subst h0; exact this
  · exact this
theorem Try.infoEv : (Try.prog.info? 61).map (fun i => (i.zero, i.size, i.bytes)) = some (some (.agg #[.int .i64 0, .int .i64 0, .int .i64 0, .int .i64 0, .int .i64 0, .int .i64 0, .int .i64 0, .int .u64 0, .int .i64 0]), 9, 72) := by kernel_rfl
/-- append(v, l...), whether l is nil or not. -/
theorem wpList_append_hist {w : World} {ops : Array Oper} {rest : List Oper} {o : Oper} {a : Act} {Q : Exit → Act → World → Prop} (hgd : o.guard = none) (s x : Operand) (ho : o.op = .call { callee := .builtin .append, args := #[s, x], argTypes := #[22, 22] })
    (base : Nat) (v : Value) (n : Nat) (xs : List Value) (hs : a.eval s = v) (hown : w.ownsRow base 61 9 v n xs) {sa : Option Addr} {cap : Nat} {l : List Ev} (hx : a.eval x = .slice sa l.length cap) (hr : RowsIn w sa 9 Ev.cells l) (hnil : sa = none → cap = 0) (hn : n ≤ 100000) (hl : l.length ≤ 100000) (hb : base ≤ w.heap.size)
    (h : ∀ v' w', w'.ownsRow base 61 9 v' (n + l.length) (xs ++ flatE l) → w.grownBy w' v.ownBlock → (v'.ownBlock = v.ownBlock ∨ v'.ownBlock = some w.heap.size) → wpList Try.prog ops Q rest (a.put o.dst v') w') : wpList Try.prog ops Q (o :: rest) a w := by
  obtain ⟨i0, hi0, hz0, hz1, hz2⟩ := info_parts Try.infoEv
  cases sa with
  | none =>
    have hl0 : l = [] := by
      rcases hr with hr | ⟨q, o, e, _⟩
      · exact hr
      · cases e
    subst hl0
    rw [hnil rfl] at hx
    refine wpList_append_own_none hgd s x 22 ho base 61 i0 9 Try.underlying22 hi0 v n xs hs hown hx ?_
    exact h v w (by simpa [flatE] using hown) ⟨rfl, rfl, rfl, Nat.le_refl _, fun _ _ _ => rfl⟩ (.inl rfl)
  | some ad =>
    refine wpList_append_own_at _ hgd s x 22 ho base 61 i0 _ 9 72 Try.underlying22 hi0 hz0 hz1 hz2 rfl (by decide) v n xs hs hown ad l.length cap (flatE l) hx (flatE_length l) (rows_newsE hr) (flatE_one l) (by unfold maxLen; omega) (by omega) hb ?_
    intro v' w' h1 h2 h3 h4
    exact h v' w' h1 h2 h4
theorem ownsE_zero (w : World) : (w.alloc (.cells #[] 61)).ownsRow w.heap.size 61 9 (.slice (some ⟨w.heap.size, 0, none⟩) 0 0) 0 [] :=
  ⟨rfl, .inr ⟨w.heap.size, 0, #[], rfl, Nat.le_refl _, new_block w _, Nat.le_refl _, by unfold maxLen; omega, rfl, rfl⟩⟩

/-! ### ev, alive -/
def evP (k co ad v : Int) : Ev := ⟨k, 0, co, 0, 0, 1 + 2 * co, ad, v, 0⟩
set_option maxHeartbeats 1000000 in
theorem ev_any (k co ad v : Int) (hc : 0 ≤ co ∧ co ≤ 10) (w : World) : Calls Try.prog 22 #[.int .i64 k, .int .i64 co, .int .i64 ad, .int .u64 v] w fun z w' => z = .returned (.agg #[.int .i64 k, .int .i64 0, .int .i64 co, .int .i64 0, .int .i64 0, .int .i64 (1 + 2 * co), .int .i64 ad, .int .u64 v, .int .i64 0]) ∧ Below w.heap.size w w' := by
  have w1 : IntKind.i64.wrap (2 * co) = 2 * co := by rw [IntKind.wrap_i64]; omega
  have w2 : IntKind.i64.wrap (1 + 2 * co) = 1 + 2 * co := by rw [IntKind.wrap_i64]; omega
  go_enter Try.func22, Try.ntmps22
  go_wp2
  refine bodyPost_ret (results_c rfl rfl (run_loadVar_mid _ w.heap.size 0 61 [.int .i64 k, .int .i64 0, .int .i64 co, .int .i64 0, .int .i64 0, .int .i64 (1 + 2 * co), .int .i64 ad, .int .u64 v, .int .i64 0] _ ((Holds.new w 61 [.int .i64 k, .int .i64 0, .int .i64 co, .int .i64 0, .int .i64 0, .int .i64 (1 + 2 * co), .int .i64 ad, .int .u64 v, .int .i64 0]).range (o := 0) (fun i v hi => by rw [Nat.zero_add]; exact hi)) Try.underlying61 rfl Try.sizeEv)) rfl ⟨rfl, (Below.refl _ w).alloc (Nat.le_refl _) _⟩

def aliveH : List Ev := [⟨1, 0, 0, 0, 0, 1, 0, 0, 0⟩, ⟨2, 0, 0, 0, 0, 1, 8, 0, 0⟩, ⟨3, 0, 0, 0, 0, 1, 8, 5, 0⟩, ⟨5, 0, 0, 0, 0, 1, 0, 0, 0⟩, ⟨7, 0, 1, 0, 0, 3, 8, 5, 0⟩]
theorem alive_p : judgeP aliveH [] = (0, true, 0) := by decide +kernel
theorem alive_fit : ∀ e ∈ aliveH, e.fit := by
  intro e he
  simp only [aliveH, List.mem_cons, List.not_mem_nil, or_false] at he
  rcases he with rfl | rfl | rfl | rfl | rfl <;> exact ⟨by decide, by decide, by decide⟩
/-- A block of events. -/
theorem rowsE_block {w : World} {b : Nat} {l : List Ev} (h : Holds w b 61 (flatE l)) : RowsIn w (some ⟨b, 0, none⟩) 9 Ev.cells l :=
  .inr ⟨b, 0, rfl, h.lt, fun k x hx j u hj => by rw [Nat.zero_add]; exact h.cell (flatE_at hx hj)⟩
set_option maxRecDepth 100000 in
set_option maxHeartbeats 2000000 in
theorem alive_any (w : World) : Calls Try.prog 23 #[] w fun z w' => z = .returned (.bool true) ∧ Below w.heap.size w w' := by
  have HB := Lib.hid (Below.refl w.heap.size w)
  go_enter Try.func23, Try.ntmps23
  go_wp2_with (first | (go_at_call 22; refine (ev_any _ _ _ _ ⟨by decide, by decide⟩ _).mono ?_; rintro z w' ⟨rfl, hb⟩; have HB := Lib.hid (HB.out.trans (hb.mono HB.out.size)); clear hb) | fail)
  have hj := judge_any (h := aliveH) (first := []) (a := some ⟨w'.heap.size, 0, none⟩) (b := none) (cap := 5) (cap2 := 0) _ (rowsE_block (Holds.new w' 61 (flatE aliveH))) (by decide) alive_fit (.inl rfl)
  rw [alive_p] at hj
  refine hj.mono ?_
  rintro z w2 ⟨rfl, hb2⟩
  have HB2 := Lib.hid ((HB.out.alloc HB.out.size _).trans (hb2.mono (HB.out.alloc HB.out.size _).size))
  clear hj hb2
  go_wp2
  go_ret
  exact ⟨rfl, HB2.out⟩

/-! ### over -/
def overP (h : List Ev) : Bool := match readH h with | none => false | some s => s.ks.all fun x => !decide (x.to_ < 0)
set_option maxRecDepth 100000 in
set_option maxHeartbeats 2000000 in
theorem over_any {a : Option Addr} {cap : Nat} {h : List Ev} (w : World) (hr : RowsIn w a 9 Ev.cells h) (hl : h.length ≤ 900) (hf : ∀ e ∈ h, e.fit) :
    Calls Try.prog 25 #[.slice a h.length cap] w fun z w' => z = .returned (.bool (overP h)) ∧ Below w.heap.size w w' := by
  have HS := Lib.hid (split_any (cap := cap) w hr hl hf); clear hr hf
  go_enter Try.func25, Try.ntmps25
  go_wp2_with fail
  refine HS.out.mono ?_
  rintro z w2 (⟨hn, rfl, hb⟩ | ⟨c, w1, v, hrd, hri, hap, hb, rfl, hrow⟩)
  · have ho : overP h = false := by unfold overP; rw [hn]
    have HB := Lib.hid hb; clear hb hn HS
    go_wp2
    go_loopw [5] (fun i wr => i = .int .i64 0 ∧ wr = w2) (fun _ _ => 0)
    case atStart => exact ⟨rfl, rfl⟩
    case round =>
      obtain ⟨rfl, rfl⟩ := hrel
      go_wp2
      go_ret
      exact ⟨by rw [ho]; rfl, HB.out⟩
  · have ho : overP h = c.l.all fun x => !decide (x.k.to_ < 0) := by unfold overP; rw [hrd]; simp only [SC.rd, List.all_map]; rfl
    have hcl : c.l.length ≤ 900 := by have := hri.ksn; simp only [SC.rd, List.length_map] at this; omega
    have HB := Lib.hid (hap.below.trans (hb.mono hap.below.size))
    have HR := Lib.hid hrow
    obtain ⟨ad, cp, rfl⟩ : ∃ ad cp, v = .slice ad c.l.length cp := by
      rcases owns_form hrow with ⟨h1, h2, _⟩ | ⟨g, cap, h1, _⟩
      · exact ⟨none, 0, by rw [h1, h2]⟩
      · exact ⟨_, _, h1⟩
    have HO := Lib.hid ho
    clear hrd hri hap hb hrow ho HS
    go_wp2
    go_loopw [5] (fun i wr => ∃ k : Nat, k ≤ c.l.length ∧ i = .int .i64 k ∧ wr = w2 ∧ (c.l.take k).all (fun x => !decide (x.k.to_ < 0)) = true) (fun i _ => c.l.length - (intOf i).toNat)
    case atStart => exact ⟨0, Nat.zero_le _, rfl, rfl, rfl⟩
    case round =>
      obtain ⟨k, hk, rfl, rfl, hall⟩ := hrel
      have Hall := Lib.hid hall; clear hall
      by_cases hlt : k < c.l.length
      · obtain ⟨x, hx⟩ : ∃ x, c.l[k]? = some x := ⟨_, List.getElem?_eq_getElem hlt⟩
        obtain ⟨g, cap', e, -, -⟩ := HR.out.form (by omega)
        simp only [Value.slice.injEq] at e
        obtain ⟨rfl, -, rfl⟩ := e
        have c6 := (owns_cell HR.out (g := g) rfl (flatA_at hx (j := 6) (v := .int .i64 x.k.to_) rfl)).1
        have hkl : (0 : Int) ≤ k ∧ (k : Int) < c.l.length := by omega
        have HX := Lib.hid hx; clear hx
        by_cases ht : x.k.to_ < 0
        · have hno : overP h = false := by
            rw [HO.out, List.all_eq_false]
            exact ⟨x, List.mem_of_getElem? HX.out, by simpa using ht⟩
          go_wp2
          go_ret
          exact ⟨by rw [hno]; rfl, HB.out⟩
        · have d : decide (x.k.to_ < 0) = false := by simpa using ht
          go_wp2
          go_roundw
          case rel => exact ⟨k + 1, by omega, by go_num, trivial, by rw [List.take_add_one, List.all_append, Hall.out, HX.out]; simp; omega⟩
          case measure => simp [intOf]; omega
      · obtain rfl : k = c.l.length := by omega
        have hyes : overP h = true := by rw [HO.out]; have := Hall.out; rwa [List.take_length] at this
        go_wp2
        go_ret
        exact ⟨by rw [hyes]; rfl, HB.out⟩

end Go.Proofs.Ytgjbhcnadenojaa
