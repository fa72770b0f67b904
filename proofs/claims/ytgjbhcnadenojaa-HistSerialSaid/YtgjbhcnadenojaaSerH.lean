/- HistSerial's walk. Conditions: those stated in each theorem. -/
import Derived.Test.YtgjbhcnadenojaaSerF
import Derived.Test.YtgjbhcnadenojaaSerG
namespace Go.Proofs.Ytgjbhcnadenojaa
open Go.RowKit Go.BigFrame Go.Maps

theorem rows_newsU {w : World} {ad : Addr} {l : List Int} (h : RowsIn w (some ad) 1 ucell l) : ∀ j u, (l.map (Value.int .u64))[j]? = some u → w.cell? (ad.add j) = some u := by
  intro j u hj
  rw [List.getElem?_map] at hj
  obtain ⟨x, hx, rfl⟩ := Option.map_eq_some_iff.1 hj
  obtain ⟨q, c, e, hq, hr⟩ := h.row hx
  cases e
  have := hr 0 (.int .u64 x) rfl
  rw [show c + j * 1 + 0 = c + j by omega] at this
  unfold Addr.add
  split
  · rename_i h0; subst h0; exact this
  · exact this
/-- append(v, l...) of words, whether l is nil or not. -/
theorem wpList_append_wordsU {w : World} {ops : Array Oper} {rest : List Oper} {o : Oper} {a : Act} {Q : Exit → Act → World → Prop} (hgd : o.guard = none) (s x : Operand) (ho : o.op = .call { callee := .builtin .append, args := #[s, x], argTypes := #[51, 51] })
    (base : Nat) (v : Value) (n : Nat) (xs : List Value) (hs : a.eval s = v) (hown : w.ownsRow base 46 1 v n xs) {sa : Option Addr} {cap : Nat} {l : List Int} (hx : a.eval x = .slice sa l.length cap) (hr : RowsIn w sa 1 ucell l) (hnil : sa = none → cap = 0) (hn : n ≤ 100000) (hl : l.length ≤ 100000) (hb : base ≤ w.heap.size)
    (h : ∀ v' w', w'.ownsRow base 46 1 v' (n + l.length) (xs ++ l.map (.int .u64)) → w.grownBy w' v.ownBlock → (v'.ownBlock = v.ownBlock ∨ v'.ownBlock = some w.heap.size) → wpList Try.prog ops Q rest (a.put o.dst v') w') : wpList Try.prog ops Q (o :: rest) a w := by
  obtain ⟨i0, hi0, hz0, hz1, hz2⟩ := info_parts Try.infoU
  cases sa with
  | none =>
    have hl0 : l = [] := by
      rcases hr with hr | ⟨q, o, e, _⟩
      · exact hr
      · cases e
    subst hl0
    rw [hnil rfl] at hx
    refine wpList_append_own_none hgd s x 51 ho base 46 i0 1 Try.underlying51 hi0 v n xs hs hown hx ?_
    exact h v w (by simpa using hown) ⟨rfl, rfl, rfl, Nat.le_refl _, fun _ _ _ => rfl⟩ (.inl rfl)
  | some ad =>
    refine wpList_append_own_at _ hgd s x 51 ho base 46 i0 _ 1 8 Try.underlying51 hi0 hz0 hz1 hz2 rfl (by decide) v n xs hs hown ad l.length cap (l.map (.int .u64)) hx (by simp) (rows_newsU hr) (wordU_one l) (by unfold maxLen; omega) (by omega) hb ?_
    intro v' w' h1 h2 h3 h4
    exact h v' w' h1 h2 h4
theorem flatE_set : ∀ (l : List Ev) (i : Nat) (e : Ev) (v : Int), l[i]? = some e → flatE (l.set i { e with va := v }) = (flatE l).set (i * 9 + 7) (.int .u64 v)
  | [], _, _, _, h => by simp at h
  | x :: r, 0, e, v, h => by simp at h; subst h; rfl
  | x :: r, i + 1, e, v, h => by
    simp at h
    have ih := flatE_set r i e v h
    simp only [flatE, List.set_cons_succ, List.flatMap_cons] at ih ⊢
    rw [ih, List.set_append_right _ _ (by simp [Ev.cells]; omega)]
    congr 2
    simp [Ev.cells]; omega
theorem owns_putN {w : World} {lo : Nat} {e : TypeId} {size g n cap : Nat} {xs : List Value} (h : w.ownsRow lo e size (.slice (some ⟨g, 0, none⟩) n cap) n xs) (k : Nat) (u : Value) :
    (w.setCell ⟨g, k, none⟩ u).ownsRow lo e size (.slice (some ⟨g, 0, none⟩) n cap) n (xs.set k u) := by
  obtain ⟨h1, h2⟩ := h
  refine ⟨by rw [List.length_set]; exact h1, ?_⟩
  rcases h2 with ⟨h, _⟩ | ⟨g', cap', cur, hv, h3, h4, h5, h6, h7, h8⟩
  · cases h
  · cases hv
    refine .inr ⟨g, cap, cur.setIfInBounds k u, rfl, h3, ?_, h5, h6, by simpa using h7, ?_⟩
    · simp only [World.setCell, Array.getElem?_modify, if_true, h4, Option.map_some]
      simp
    · rw [← h8, Array.toList_setIfInBounds, List.take_set]

set_option maxRecDepth 100000 in
set_option maxHeartbeats 4000000 in
theorem seriallaw_any {a b : Option Addr} {ca cb : Nat} {xs : List BkV} {first : List Int} (turned : Int) (w : World) (hx : BksIn w a xs) (hr : RowsIn w b 1 ucell first) (hnil : b = none → cb = 0) (hu : UW first) (hfb : ∀ x ∈ xs, x.b.Fit) :
    Calls Try.prog 6 #[.slice a xs.length ca, .slice b first.length cb, .int .i64 turned] w fun e w' => e = .returned (.bool true) ∧ Below w.heap.size w w' := by
  have Hx := Lib.hid hx; clear hx
  have Hr := Lib.hid hr; clear hr
  have Hnil := Lib.hid hnil; clear hnil
  have Hu := Lib.hid hu; clear hu
  have Hfb := Lib.hid hfb; clear hfb
  go_enter Try.func6, Try.ntmps6
  go_wp2_with (first | (go_at_call 23; refine (alive_any _).mono ?_; rintro z w1 ⟨rfl, hb1⟩; have HB1 := Lib.hid hb1; clear hb1; refine Hid.out ?_) | fail)
  refine Lib.hid ?_
  by_cases g1 : 12 < xs.length
  · have d1 : decide (12 < (xs.length : Int)) = true := by simp; omega
    go_wp2_with fail
    go_ret
    exact ⟨rfl, HB1.out⟩
  have d1 : decide (12 < (xs.length : Int)) = false := by simp; omega
  by_cases g2 : 60 < first.length
  · have d2 : decide (60 < (first.length : Int)) = true := by simp; omega
    go_wp2_with fail
    go_ret
    exact ⟨rfl, HB1.out⟩
  have d2 : decide (60 < (first.length : Int)) = false := by simp; omega
  have hba : Below w.heap.size w (w1.alloc (.cells #[] 46)) := HB1.out.alloc HB1.out.size _
  have HBa := Lib.hid hba; clear hba
  go_wp2_with (at_builtin; go_loud (refine wpList_append_wordsU rfl (.tmp 32) (.tmp 33) rfl w1.heap.size (.slice (some ⟨w1.heap.size, 0, none⟩) 0 0) 0 [] rfl (ownsU_zero w1) rfl (Hr.out.below HBa.out) Hnil.out (by omega) (by omega) (by simp) ?_); intro v2 w2 hown2 hgrow2 hat2; refine Hid.out ?_)
  refine Lib.hid ?_
  rw [List.nil_append, Nat.zero_add] at hown2
  have hb2 : Below w.heap.size w w2 := HBa.out.grown hgrow2 HBa.out.size (fun g hg => by cases hg; exact HB1.out.size)
  have HB2 := Lib.hid hb2
  obtain ⟨g, cap, rfl, hwg⟩ : ∃ g cap, v2 = .slice (some ⟨g, 0, none⟩) first.length cap ∧ w.heap.size ≤ g := by
    rcases owns_form hown2 with ⟨rfl, _, _⟩ | ⟨g2, cap2, rfl, hg2⟩
    · rcases hat2 with h | h <;> cases h
    · exact ⟨g2, cap2, rfl, Nat.le_trans HB1.out.size (owns_lt hown2 hg2).1⟩
  have HSR := Lib.hid (serial_any (ca := ca) w w2 Hx.out HB2.out hwg hown2 (by omega) (by omega))
  clear hb2 hown2 hgrow2 hat2
  go_wp2_with (first | (go_at_call 24; refine HSR.out.mono ?_; rintro z w3 ⟨rfl | ⟨hok, v3, rfl, hrow, hwr⟩, hT3⟩ <;> refine Hid.out ?_) | fail)
  · refine Lib.hid ?_
    have HB3 := Lib.hid (HB2.out.trans (hT3.below HB2.out.size (fun k e => by omega)))
    clear hT3
    go_wp2_with fail
    go_ret
    exact ⟨rfl, HB3.out⟩
  · refine Lib.hid ?_
    have HB3 := Lib.hid (HB2.out.trans (hT3.below HB2.out.size (fun k e => by omega)))
    clear hT3
    obtain ⟨bs, hbs⟩ : ∃ bs, xs.map BkV.b = bs := ⟨_, rfl⟩
    rw [hbs] at hrow hwr
    have hbk : ∀ x ∈ bs, x.Ok first.length ∧ x.Fit := fun x hx => by
      rw [← hbs] at hx
      obtain ⟨y, hy, rfl⟩ := List.mem_map.1 hx
      exact ⟨(hok y hy).1, Hfb.out y hy⟩
    have HBK := Lib.hid hbk
    obtain ⟨hj, hf, hfit⟩ := ser_judge hbk Hu.out (by omega)
    have hbl : bs.length = xs.length := by rw [← hbs, List.length_map]
    have hlen : (serH [] first bs).length ≤ 516 := by
      have := serH_len bs [] first (fun x hx => (by
        rw [← hbs] at hx
        obtain ⟨y, hy, rfl⟩ := List.mem_map.1 hx
        exact (hok y hy).2))
      omega
    have HBAD := Lib.hid (fun (i : Nat) (e : Ev) (v : Int) hi hk hno hv hvf => ser_judge_bad (i := i) (e := e) (v := v) hbk Hu.out (by omega) hi hk hno hv hvf)
    have hwl : (serW first bs).length = first.length := serW_len bs first
    obtain ⟨H, hH⟩ : ∃ H, serH [] first bs = H := ⟨_, rfl⟩
    obtain ⟨W, hW⟩ : ∃ W, serW first bs = W := ⟨_, rfl⟩
    rw [hH] at hj hf hfit hlen HBAD hrow
    rw [hW] at hf hwl hwr
    have Hrow := Lib.hid hrow
    have Hwr := Lib.hid hwr
    have HF := Lib.hid hfit
    clear hH hW hbs hbl HBK hbk hok hwr
    obtain ⟨a3, cap3, rfl, hr3⟩ := rowsE_own hrow
    have J1 := judge_any (cap := cap3) (cap2 := cb) w3 hr3 (by omega) HF.out (Hr.out.below HB3.out)
    rw [hj] at J1
    have HJ1 := Lib.hid J1
    have HR3 := Lib.hid hr3
    clear J1 hj hr3 hrow hfit
    go_wp2_with (first | (go_at_call 17; with_reducible refine HJ1.out.mono ?_; rintro z w4 ⟨rfl, hb4⟩; refine Hid.out ?_) | fail)
    refine Lib.hid ?_
    have HC4 := Lib.hid hb4
    have J2 := final_any (cap := cap3) (cap2 := cb) w4 (HR3.out.below hb4) (by omega) HF.out (Hr.out.below (HB3.out.trans (hb4.mono HB3.out.size))) (first.length : Int)
    rw [hf] at J2
    unfold RowU at J2
    simp only [hwl] at J2
    have HJ2 := Lib.hid J2
    clear J2 hf HJ1 hb4
    go_wp2_with (first | (go_at_call 18; with_reducible refine HJ2.out.mono ?_; rintro z w5 ⟨v5, rfl, hrow5, hb5⟩; refine Hid.out ?_) | fail)
    refine Lib.hid ?_
    have HC5 := Lib.hid (HC4.out.trans (hb5.mono HC4.out.size))
    have Hrow5 := Lib.hid hrow5
    clear HJ2 hb5 hrow5 HC4
    obtain ⟨a5, cap5, rfl⟩ : ∃ a5 cap5, v5 = .slice a5 first.length cap5 := by
      rcases owns_form Hrow5.out with ⟨h1, h2, _⟩ | ⟨g5, cap5, h1, _⟩
      · exact ⟨none, 0, by rw [h1, h2]⟩
      · exact ⟨_, _, h1⟩
    go_wp2_with fail
    go_loopw [16] (fun u16 wr => ∃ k : Nat, k ≤ first.length ∧ u16 = .int .i64 k ∧ Below w5.heap.size w5 wr) (fun i _ => first.length - (intOf i).toNat)
    case atStart => exact ⟨0, by omega, rfl, Below.refl _ _⟩
    case round =>
      obtain ⟨k, hk, rfl, hbw⟩ := hrel
      have Hbw := Lib.hid hbw; clear hbw
      by_cases hlt : k < first.length
      · obtain ⟨x, hx⟩ : ∃ x, W[k]? = some x := ⟨W[k]'(by omega), List.getElem?_eq_getElem (by omega)⟩
        have o1 := owns_same Hrow5.out (w' := wr) (fun g e => Hbw.out.block g (owns_lt Hrow5.out e).2)
        have o2 := owns_same Hwr.out (w' := wr) (fun g e => (Hbw.out.block g (Nat.lt_of_lt_of_le (owns_lt Hwr.out e).2 HC5.out.size)).trans (HC5.out.block g (owns_lt Hwr.out e).2))
        rcases owns_form o1 with ⟨h1, h0, -⟩ | ⟨g5, c5, h1, -⟩
        · omega
        cases h1
        have hxv : (W.map (Value.int .u64))[k]? = some (.int .u64 x) := by rw [List.getElem?_map, hx]; rfl
        have r0 := (owns_cell o1 (g := g5) rfl hxv).1
        have s0 := (owns_cell o2 (g := g) rfl hxv).1
        have hbk : (0 : Int) ≤ k ∧ (k : Int) < first.length := by omega
        clear hx hxv o1 o2
        go_wp2_with fail
        go_quiet (fail)
        go_wp2
        go_roundw
        case rel => exact ⟨k + 1, by omega, by go_num, below_drewN Hbw.out _⟩
        case measure => simp [intOf]; omega
      · obtain rfl : k = first.length := by omega
        have HC := Lib.hid (HC5.out.trans (Hbw.out.mono HC5.out.size))
        clear Hbw HC5 Hrow5 Hwr
        by_cases t1 : turned < 0
        · have q1 : decide (turned < 0) = true := by simp; omega
          go_wp2_with fail
          go_ret
          exact ⟨rfl, HB3.out.trans (HC.out.mono HB3.out.size)⟩
        have q1 : decide (turned < 0) = false := by simp; omega
        by_cases t2 : (H.length : Int) ≤ turned
        · have q2 : decide ((H.length : Int) ≤ turned) = true := by simp; omega
          have q3 : decide (turned < (H.length : Int)) = false := by simp; omega
          go_wp2_with fail
          go_ret
          exact ⟨rfl, HB3.out.trans (HC.out.mono HB3.out.size)⟩
        have q2 : decide ((H.length : Int) ≤ turned) = false := by simp; omega
        have q3 : decide (turned < (H.length : Int)) = true := by simp; omega
        obtain ⟨T, rfl⟩ : ∃ T : Nat, turned = T := ⟨turned.toNat, by omega⟩
        obtain ⟨e, he⟩ : ∃ e, H[T]? = some e := ⟨H[T]'(by omega), List.getElem?_eq_getElem (by omega)⟩
        rcases owns_form Hrow.out with ⟨h1, h0, -⟩ | ⟨g3, c3, h1, -⟩
        · omega
        cases h1
        have He := Lib.hid he; clear he
        have hbt : (0 : Int) ≤ T ∧ (T : Int) < H.length := by omega
        have hrw := owns_same Hrow.out (w' := wr) (fun g e => HC.out.block g (owns_lt Hrow.out e).2)
        have k0 := (owns_cell hrw (g := g3) rfl (flatE_at He.out (j := 0) rfl)).1
        simp only [Nat.add_zero] at k0
        clear hrw
        by_cases t3 : e.k = 2
        · have q4 : (e.k == 2) = true := by simpa using t3
          have Hk2 := Lib.hid t3
          rw [t3] at k0
          have hw1 : IntKind.i64.wrap ((T : Int) - 1) = (T : Int) - 1 := by rw [IntKind.wrap_i64]; omega
          go_wp2_with fail
          go_loopw [17] (fun u17 wr => ∃ k : Nat, u17 = .int .i64 ((k : Int) - 1) ∧ Back H T e.ad k ∧ Below w3.heap.size w3 wr) (fun i _ => (intOf i + 1).toNat)
          case atStart => exact ⟨T, rfl, Back.start _ _ _, HC.out⟩
          case round =>
            clear HC k0
            obtain ⟨k, rfl, hB, hbw⟩ := hrel
            have HC := Lib.hid hbw; clear hbw
            have Hback := Lib.hid hB
            have hkT := hB.1
            clear hB
            have Hrw := Lib.hid (owns_same Hrow.out (w' := wr) (fun g e => HC.out.block g (owns_lt Hrow.out e).2))
            cases k with
            | zero =>
              rw [show (((0 : Nat) : Int) - 1) = -1 from rfl]
              have hno : NoSt H T e.ad := Hback.out.zero
              have hnv := next_va (show (Lit.int .u64 e.va).wf = true from (HF.out e (List.mem_of_getElem? He.out)).2.2)
              obtain ⟨v, hve⟩ : ∃ v, IntKind.u64.wrap (e.va + 1) = v := ⟨_, rfl⟩
              rw [hve] at hnv
              obtain ⟨jj, hjj, hfit2⟩ := HBAD.out T e v He.out Hk2.out hno hnv.1 hnv.2
              have HJJ := Lib.hid hjj
              have HF2 := Lib.hid hfit2
              clear hno hnv hjj hfit2
              have hrw7 := owns_same Hrow.out (w' := wr) (fun g e => HC.out.block g (owns_lt Hrow.out e).2)
              have k7 := (owns_cell hrw7 (g := g3) rfl (flatE_at He.out (j := 7) rfl)).1
              have k7f := (owns_cell hrw7 (g := g3) rfl (flatE_at He.out (j := 7) rfl)).2
              have lg3 := (owns_lt hrw7 (g := g3) rfl)
              have hput := owns_putN hrw7 (T * 9 + 7) (.int .u64 v)
              rw [← flatE_set H T e v He.out] at hput
              have HPUT := Lib.hid hput
              clear hput hrw7
              have hbt : (0 : Int) ≤ T ∧ (T : Int) < H.length := by omega
              have hbB : Below w.heap.size w (wr.setCell ⟨g3, T * 9 + 7, none⟩ (.int .u64 v)) := (HB3.out.trans (HC.out.mono HB3.out.size)).setCell (by have := HB2.out.size; simp; omega) _
              have HBB := Lib.hid hbB; clear hbB
              go_upto_region 25 with (fail)
              generalize wr.setCell ⟨g3, T * 9 + 7, none⟩ (.int .u64 v) = w7 at *
              have hl2 : (H.set T { e with va := v }).length = H.length := List.length_set
              obtain ⟨H2, hH2⟩ : ∃ H2, H.set T { e with va := v } = H2 := ⟨_, rfl⟩
              rw [hH2] at HPUT HJJ HF2 hl2
              obtain ⟨a9, cap9, hv9, hr9⟩ := rowsE_own (l := H2) (by rw [hl2]; exact HPUT.out)
              have J3 := judge_any (cap := cap9) (cap2 := cb) w7 hr9 (by omega) HF2.out (Hr.out.below HBB.out)
              rw [HJJ.out, ← hv9] at J3
              have HJ3 := Lib.hid J3; clear J3 hr9 hv9
              go_wp2_with (first | (go_at_call 17; with_reducible refine HJ3.out.mono ?_; rintro z w8 ⟨rfl, hb8⟩; have HB8 := Lib.hid (HBB.out.trans (hb8.mono HBB.out.size)); clear hb8) | fail)
              go_ret
              exact ⟨rfl, HB8.out⟩
            | succ k =>
              have hv17 : (((k + 1 : Nat) : Int) - 1) = (k : Int) := by omega
              rw [hv17]
              clear hv17
              obtain ⟨f, hf⟩ : ∃ f, H[k]? = some f := ⟨H[k]'(by omega), List.getElem?_eq_getElem (by omega)⟩
              have Hf := Lib.hid hf; clear hf
              have hbk : (0 : Int) ≤ k ∧ (k : Int) < H.length := by omega
              have q6 : decide ((0 : Int) ≤ (k : Int)) = true := by simp
              have c0 := (owns_cell Hrw.out (g := g3) rfl (flatE_at Hf.out (j := 0) rfl)).1
              simp only [Nat.add_zero] at c0
              have hw2 : IntKind.i64.wrap ((k : Int) - 1) = (k : Int) - 1 := by rw [IntKind.wrap_i64]; omega
              by_cases f1 : f.k = 1
              · rw [f1] at c0
                have hno : NoSt H T e.ad := Hback.out.begins Hf.out f1
                have hnv := next_va (show (Lit.int .u64 e.va).wf = true from (HF.out e (List.mem_of_getElem? He.out)).2.2)
                obtain ⟨v, hve⟩ : ∃ v, IntKind.u64.wrap (e.va + 1) = v := ⟨_, rfl⟩
                rw [hve] at hnv
                obtain ⟨jj, hjj, hfit2⟩ := HBAD.out T e v He.out Hk2.out hno hnv.1 hnv.2
                have HJJ := Lib.hid hjj
                have HF2 := Lib.hid hfit2
                clear hno hnv hjj hfit2
                have hrw7 := owns_same Hrow.out (w' := wr) (fun g e => HC.out.block g (owns_lt Hrow.out e).2)
                have k7 := (owns_cell hrw7 (g := g3) rfl (flatE_at He.out (j := 7) rfl)).1
                have k7f := (owns_cell hrw7 (g := g3) rfl (flatE_at He.out (j := 7) rfl)).2
                have lg3 := (owns_lt hrw7 (g := g3) rfl)
                have hput := owns_putN hrw7 (T * 9 + 7) (.int .u64 v)
                rw [← flatE_set H T e v He.out] at hput
                have HPUT := Lib.hid hput
                clear hput hrw7
                have hbt : (0 : Int) ≤ T ∧ (T : Int) < H.length := by omega
                have hbB : Below w.heap.size w (wr.setCell ⟨g3, T * 9 + 7, none⟩ (.int .u64 v)) := (HB3.out.trans (HC.out.mono HB3.out.size)).setCell (by have := HB2.out.size; simp; omega) _
                have HBB := Lib.hid hbB; clear hbB
                go_upto_region 25 with (fail)
                generalize wr.setCell ⟨g3, T * 9 + 7, none⟩ (.int .u64 v) = w7 at *
                have hl2 : (H.set T { e with va := v }).length = H.length := List.length_set
                obtain ⟨H2, hH2⟩ : ∃ H2, H.set T { e with va := v } = H2 := ⟨_, rfl⟩
                rw [hH2] at HPUT HJJ HF2 hl2
                obtain ⟨a9, cap9, hv9, hr9⟩ := rowsE_own (l := H2) (by rw [hl2]; exact HPUT.out)
                have J3 := judge_any (cap := cap9) (cap2 := cb) w7 hr9 (by omega) HF2.out (Hr.out.below HBB.out)
                rw [HJJ.out, ← hv9] at J3
                have HJ3 := Lib.hid J3; clear J3 hr9 hv9
                go_wp2_with (first | (go_at_call 17; with_reducible refine HJ3.out.mono ?_; rintro z w8 ⟨rfl, hb8⟩; have HB8 := Lib.hid (HBB.out.trans (hb8.mono HBB.out.size)); clear hb8) | fail)
                go_ret
                exact ⟨rfl, HB8.out⟩
              have q7 : (f.k == 1) = false := by simpa using f1
              by_cases f3 : f.k = 3
              · rw [f3] at c0
                clear q7
                have c6 := (owns_cell Hrw.out (g := g3) rfl (flatE_at Hf.out (j := 6) rfl)).1
                have k6 := (owns_cell Hrw.out (g := g3) rfl (flatE_at He.out (j := 6) rfl)).1
                by_cases f6 : f.ad = e.ad
                · have q8 : (f.ad == e.ad) = true := by simpa using f6
                  rw [f6] at c6
                  clear q8
                  go_wp2_with fail
                  go_quiet (fail)
                  go_wp2
                  go_ret
                  exact ⟨rfl, below_drewN (HB3.out.trans (HC.out.mono HB3.out.size)) _⟩
                · have q8 : (f.ad == e.ad) = false := by simpa using f6
                  have Hf1 := Lib.hid f1
                  have Hf6 := Lib.hid f6
                  clear f1 f6
                  go_wp2_with fail
                  go_quiet (fail)
                  go_wp2
                  go_roundw
                  case rel => exact ⟨k, rfl, Hback.out.step Hf.out Hf1.out (fun h => Hf6.out h.2), below_drewN HC.out _⟩
                  case measure => simp [intOf]
              · have q8 : (f.k == 3) = false := by simpa using f3
                have Hf1 := Lib.hid f1
                have Hf3 := Lib.hid f3
                clear f1 f3
                go_wp2_with fail
                go_quiet (fail)
                go_wp2
                go_roundw
                case rel => exact ⟨k, rfl, Hback.out.step Hf.out Hf1.out (fun h => Hf3.out h.1), below_drewN HC.out _⟩
                case measure => simp [intOf]
        · have q4 : (e.k == 2) = false := by simpa using t3
          go_wp2_with fail
          go_ret
          exact ⟨rfl, HB3.out.trans (HC.out.mono HB3.out.size)⟩

end Go.Proofs.Ytgjbhcnadenojaa
