/- The document's own Join. Conditions: those stated in each theorem. -/
import Derived.Test.YthjbcpgncnchoaaJnA
import Derived.Test.YthjbcpgncnchoaaEncD
namespace Go.Proofs.Ythjbcpgncnchoaa
open Go.RowKit Go.BigFrame

/-- The first ones of an own row, as a list. -/
theorem rows_own {w : World} {lo g n cap : Nat} {l : List In} {more : List Value} (h : w.ownsRow lo 40 5 (.slice (some ⟨g, 0, none⟩) n cap) n (flatI l ++ more)) : RowsIn w (some ⟨g, 0, none⟩) 5 In.cells l := by
  refine .inr ⟨g, 0, rfl, (owns_lt h rfl).2, fun k x hx j v hj => ?_⟩
  rw [Nat.zero_add]
  refine (owns_cell h (g := g) rfl ?_).1
  rw [List.getElem?_append_left]
  · exact flatI_at l k x hx j v hj
  · have h1 := (List.getElem?_eq_some_iff.1 (flatI_at l k x hx j v hj)).1
    exact h1
/-- An own row, as a list. -/
theorem rows_all {w : World} {lo n cap : Nat} {ad : Option Addr} {l : List In} (h : w.ownsRow lo 40 5 (.slice ad n cap) n (flatI l)) : RowsIn w ad 5 In.cells l := by
  rcases owns_form h with ⟨_, _, h2⟩ | ⟨g, cap', e, _⟩
  · refine .inl ?_
    have := flatI_len l
    rw [h2] at this
    exact List.eq_nil_of_length_eq_zero (by simp at this; omega)
  · cases e
    exact rows_own (more := []) (by simpa using h)
/-- The cells that came in. -/
theorem rows_news {w : World} {a : Option Addr} {l : List In} (h : RowsIn w a 5 In.cells l) (ad : Addr) (ha : a = some ad) : ∀ j u, (flatI l)[j]? = some u → w.cell? (ad.add j) = some u := by
  intro j u hj
  have hlt : j < l.length * 5 := by rw [← flatI_len]; exact (List.getElem?_eq_some_iff.1 hj).1
  have hk : j / 5 < l.length := by omega
  obtain ⟨x, hx⟩ : ∃ x, l[j / 5]? = some x := ⟨l[j / 5], List.getElem?_eq_getElem hk⟩
  obtain ⟨q, c, e, hq, hr⟩ := h.row hx
  rw [ha] at e
  cases e
  have hm : j % 5 < 5 := Nat.mod_lt _ (by omega)
  have hc := In.cell_get x hm
  have h1 := flatI_at l _ x hx _ _ hc
  rw [show j / 5 * 5 + j % 5 = j by omega, hj] at h1
  cases h1
  have := hr _ _ hc
  rw [show c + j / 5 * 5 + j % 5 = c + j by omega] at this
  unfold Addr.add
  split
  · rename_i h0; subst h0; exact this
  · exact this
theorem flatI_one (l : List In) : ∀ u ∈ flatI l, u.oneCell' = true := by
  intro u hu
  unfold flatI at hu
  obtain ⟨x, _, hx⟩ := List.mem_flatMap.1 hu
  simp only [In.cells, List.mem_cons, List.not_mem_nil, or_false] at hx
  rcases hx with rfl | rfl | rfl | rfl | rfl <;> rfl

set_option maxRecDepth 100000 in
set_option maxHeartbeats 4000000 in
theorem rjoin_any (a : Option Addr) (ca : Nat) (ls : List (List In)) (w : World) (hp : PartsIn w a ls) (hn : ls.length ≤ 1000) (hl : ∀ l ∈ ls, l.length ≤ 2000) (ht : ∀ k, (joinP (ls.take k)).length ≤ 2000 * k) :
    Calls Try.prog 17 #[.slice a ls.length ca] w fun e w' => ∃ v, e = .returned v ∧ w'.ownsRow w.heap.size 40 5 v (joinP ls).length (flatI (joinP ls)) ∧ Below w.heap.size w w' := by
  have HP := Lib.hid hp; clear hp
  have HL := Lib.hid hl; clear hl
  have HT := Lib.hid ht; clear ht
  obtain ⟨i0, hi0, hz0, hz1, hz2⟩ := info_parts Try.infoIn
  have Hi := Lib.hid hi0; clear hi0
  have Hz0 := Lib.hid hz0; clear hz0
  have Hz1 := Lib.hid hz1; clear hz1
  have Hz2 := Lib.hid hz2; clear hz2
  go_enter Try.func17, Try.ntmps17
  go_wp2_with fail
  go_loopw [3, 4, 5, 6, 7] (fun u3 u4 _ _ _ wr => ∃ (k : Nat), k ≤ ls.length ∧ u4 = .int .i64 k ∧ wr.ownsRow w.heap.size 40 5 u3 (joinP (ls.take k)).length (flatI (joinP (ls.take k))) ∧ Below w.heap.size w wr) (fun _ i _ _ _ _ => ls.length - (intOf i).toNat)
  case atStart => exact ⟨0, by omega, by simp, ⟨rfl, .inl ⟨rfl, rfl⟩⟩, Below.refl _ _⟩
  case round =>
    obtain ⟨k, hk, rfl, hown, hbw⟩ := hrel
    have Hbw := Lib.hid hbw; clear hbw
    obtain ⟨adA, capA, rfl⟩ := row_form hown
    have Hown := Lib.hid hown; clear hown
    by_cases hlt : k < ls.length
    · obtain ⟨l, hl⟩ : ∃ l, ls[k]? = some l := ⟨ls[k], List.getElem?_eq_getElem hlt⟩
      obtain ⟨q, c, adL, capL, rfl, hcell0, hrow⟩ := HP.out k l hl
      have hqw := World.block_lt_of_cell? _ _ hcell0
      have hbk : (0 : Int) ≤ k ∧ (k : Int) < ls.length := by omega
      have hll := HL.out l (List.mem_of_getElem? hl)
      have htk := HT.out k
      have hsn : joinP (ls.take (k + 1)) = joinA (joinP (ls.take k)) l := by rw [List.take_add_one, hl]; exact joinP_snoc _ _
      generalize joinP (ls.take k) = all at *
      have Hsn := Lib.hid hsn; clear hsn
      have Hrow := Lib.hid hrow; clear hrow
      have Hcell := Lib.hid hcell0; clear hcell0
      go_wp2_with fail
      go_loopw [3, 6, 7] (fun u3 u6 _ wr2 => ∃ (j : Nat), j ≤ l.length ∧ u6 = .int .i64 j ∧ wr2.ownsRow w.heap.size 40 5 u3 (all ++ (l.take j).map (shiftI all.length)).length (flatI (all ++ (l.take j).map (shiftI all.length))) ∧ Below w.heap.size w wr2) (fun _ i _ _ => l.length - (intOf i).toNat)
      case atStart => exact ⟨0, by omega, by simp, by simpa using Hown.out, Hbw.out⟩
      case round =>
        clear Hown Hbw
        obtain ⟨j, hj, rfl, hown, hbw⟩ := hrel
        have hrow := Hrow.out.below hbw
        have hcell : wr.cell? ⟨q, c + k, none⟩ = some (.slice adL l.length capL) := by
          rw [World.cell?_of_block (a := ⟨q, c + k, none⟩) (hbw.block q hqw)]
          exact Hcell.out
        have hm : (all ++ (l.take j).map (shiftI all.length)).length = all.length + j := by simp; omega
        rw [hm] at hown
        obtain ⟨m, hmm⟩ : ∃ m : Nat, all.length + j = m := ⟨_, rfl⟩
        rw [hmm] at hown
        have hmb : m ≤ 3000000 := by omega
        obtain ⟨adB, capB, rfl⟩ := row_form hown
        by_cases hjl : j < l.length
        · obtain ⟨x, hx⟩ : ∃ x, l[j]? = some x := ⟨l[j], List.getElem?_eq_getElem hjl⟩
          obtain ⟨q2, c2, rfl, hq2, hcs⟩ := hrow.row hx
          have hsn2 : all ++ (l.take (j + 1)).map (shiftI all.length) = (all ++ (l.take j).map (shiftI all.length)) ++ [shiftI all.length x] := by rw [List.take_add_one, hx]; simp
          generalize all ++ (l.take j).map (shiftI all.length) = al at *
          obtain ⟨op, xa, xb, xc, imm⟩ := x
          have hbj : (0 : Int) ≤ j ∧ (j : Int) < l.length := by omega
          have r0 : wr.cell? ⟨q2, c2 + j * 5, none⟩ = some (.int .i64 op) := hcs 0 _ rfl
          have r1 : wr.cell? ⟨q2, c2 + j * 5 + 1, none⟩ = some (.int .i64 xa) := hcs 1 _ rfl
          have r2 : wr.cell? ⟨q2, c2 + j * 5 + 2, none⟩ = some (.int .i64 xb) := hcs 2 _ rfl
          have r3 : wr.cell? ⟨q2, c2 + j * 5 + 3, none⟩ = some (.int .i64 xc) := hcs 3 _ rfl
          have r4 : wr.cell? ⟨q2, c2 + j * 5 + 4, none⟩ = some (.int .i64 imm) := hcs 4 _ rfl
          clear hcs hx
          have Hsn2 := Lib.hid hsn2; clear hsn2
          have Hal := Lib.hid (show al.length = m by omega)
          have Hown := Lib.hid hown; clear hown
          have Hbw := Lib.hid hbw; clear hbw
          have hcase : (13 ≤ op ∧ op ≤ 16 ∧ goesB op = true) ∨ (13 ≤ op ∧ 16 < op ∧ goesB op = false) ∨ (op < 13 ∧ goesB op = false) := by
            unfold goesB
            rcases Int.lt_or_le op 13 with h | h
            · refine .inr (.inr ⟨h, ?_⟩)
              simp only [Bool.or_eq_false_iff, beq_eq_false_iff_ne]; omega
            · rcases Int.lt_or_le 16 op with h2 | h2
              · refine .inr (.inl ⟨h, h2, ?_⟩)
                simp only [Bool.or_eq_false_iff, beq_eq_false_iff_ne]; omega
              · refine .inl ⟨h, h2, ?_⟩
                rcases (by omega : op = 13 ∨ op = 14 ∨ op = 15 ∨ op = 16) with rfl | rfl | rfl | rfl <;> rfl
          rcases hcase with ⟨f1, f2, hg⟩ | ⟨f1, f2, hg⟩ | ⟨f1, hg⟩
          · have hsh : shiftI all.length ⟨op, xa, xb, xc, imm⟩ = ⟨op, xa, xb, xc, wrap64 (imm + all.length)⟩ := by simp only [shiftI, hg, if_true]
            have d1 : decide (13 ≤ op) = true := decide_eq_true f1
            have d2 : decide (op < 13) = false := decide_eq_false (by omega)
            have d3 : decide (op ≤ 16) = true := decide_eq_true f2
            have d4 : decide (16 < op) = false := decide_eq_false (by omega)
            clear hg
            go_wp2_with (at_builtin; go_loud (refine wpList_append_own_at _ rfl (.tmp 45) (.tmp 47) 32 rfl w.heap.size 40 i0 _ 5 40 Try.underlying32 Hi.out Hz0.out Hz1.out Hz2.out rfl (by decide) (.slice adB m capB) m (flatI al) rfl (World.ownsRow.alloc (World.ownsRow.alloc Hown.out _) _) ⟨wr.heap.size + 1, 0, none⟩ 1 1 [.int .i64 op, .int .i64 xa, .int .i64 xb, .int .i64 xc, .int .i64 (wrap64 (imm + all.length))] rfl rfl (World.news_of_block (cs := #[.int .i64 op, .int .i64 xa, .int .i64 xb, .int .i64 xc, .int .i64 (wrap64 (imm + all.length))]) (t := 40) (fr := (0, 0)) (new_block2 wr _ _)) (by simp [Value.oneCell']) (by unfold maxLen; omega) (by omega) (by have := Hbw.out.size; simp; omega) ?_); go_loud (intro v6 w6 hown6 hgrow6 _ _; have hb1 := Hbw.out.alloc Hbw.out.size (.cells #[.int .i64 op, .int .i64 xa, .int .i64 xb, .int .i64 xc, .int .i64 (wrap64 (imm + all.length))] 40); have hb2 := hb1.alloc hb1.size (.cells #[.int .i64 op, .int .i64 xa, .int .i64 xb, .int .i64 xc, .int .i64 (wrap64 (imm + all.length))] 40); have HO := Lib.hid hown6; have HB6 := Lib.hid (hb2.grown hgrow6 (by have := hb1.size; simp at this ⊢; omega) (fun g e => (owns_lt Hown.out e).1)); clear hown6 hgrow6 hb1 hb2))
            obtain ⟨adC, capC, rfl⟩ := row_form HO.out
            go_roundw
            case rel =>
              refine ⟨j + 1, by omega, by go_num, ?_, HB6.out⟩
              have h1 := HO.out
              rw [Hsn2.out, hsh, List.length_append, Hal.out, List.length_singleton, flatI_snoc]
              exact h1
            case measure => simp [intOf]; omega
          · have hsh : shiftI all.length ⟨op, xa, xb, xc, imm⟩ = ⟨op, xa, xb, xc, imm⟩ := by simp only [shiftI, hg, if_false, Bool.false_eq_true]
            have d1 : decide (13 ≤ op) = true := decide_eq_true f1
            have d2 : decide (op < 13) = false := decide_eq_false (by omega)
            have d3 : decide (op ≤ 16) = false := decide_eq_false (by omega)
            have d4 : decide (16 < op) = true := decide_eq_true f2
            clear hg
            go_wp2_with (at_builtin; go_loud (refine wpList_append_own_at _ rfl (.tmp 45) (.tmp 47) 32 rfl w.heap.size 40 i0 _ 5 40 Try.underlying32 Hi.out Hz0.out Hz1.out Hz2.out rfl (by decide) (.slice adB m capB) m (flatI al) rfl (World.ownsRow.alloc (World.ownsRow.alloc Hown.out _) _) ⟨wr.heap.size + 1, 0, none⟩ 1 1 [.int .i64 op, .int .i64 xa, .int .i64 xb, .int .i64 xc, .int .i64 imm] rfl rfl (World.news_of_block (cs := #[.int .i64 op, .int .i64 xa, .int .i64 xb, .int .i64 xc, .int .i64 imm]) (t := 40) (fr := (0, 0)) (new_block2 wr _ _)) (by simp [Value.oneCell']) (by unfold maxLen; omega) (by omega) (by have := Hbw.out.size; simp; omega) ?_); go_loud (intro v6 w6 hown6 hgrow6 _ _; have hb1 := Hbw.out.alloc Hbw.out.size (.cells #[.int .i64 op, .int .i64 xa, .int .i64 xb, .int .i64 xc, .int .i64 imm] 40); have hb2 := hb1.alloc hb1.size (.cells #[.int .i64 op, .int .i64 xa, .int .i64 xb, .int .i64 xc, .int .i64 imm] 40); have HO := Lib.hid hown6; have HB6 := Lib.hid (hb2.grown hgrow6 (by have := hb1.size; simp at this ⊢; omega) (fun g e => (owns_lt Hown.out e).1)); clear hown6 hgrow6 hb1 hb2))
            obtain ⟨adC, capC, rfl⟩ := row_form HO.out
            go_roundw
            case rel =>
              refine ⟨j + 1, by omega, by go_num, ?_, HB6.out⟩
              have h1 := HO.out
              rw [Hsn2.out, hsh, List.length_append, Hal.out, List.length_singleton, flatI_snoc]
              exact h1
            case measure => simp [intOf]; omega
          · have hsh : shiftI all.length ⟨op, xa, xb, xc, imm⟩ = ⟨op, xa, xb, xc, imm⟩ := by simp only [shiftI, hg, if_false, Bool.false_eq_true]
            have d1 : decide (13 ≤ op) = false := decide_eq_false (by omega)
            have d2 : decide (op < 13) = true := decide_eq_true f1
            clear hg
            go_wp2_with (at_builtin; go_loud (refine wpList_append_own_at _ rfl (.tmp 45) (.tmp 47) 32 rfl w.heap.size 40 i0 _ 5 40 Try.underlying32 Hi.out Hz0.out Hz1.out Hz2.out rfl (by decide) (.slice adB m capB) m (flatI al) rfl (World.ownsRow.alloc (World.ownsRow.alloc Hown.out _) _) ⟨wr.heap.size + 1, 0, none⟩ 1 1 [.int .i64 op, .int .i64 xa, .int .i64 xb, .int .i64 xc, .int .i64 imm] rfl rfl (World.news_of_block (cs := #[.int .i64 op, .int .i64 xa, .int .i64 xb, .int .i64 xc, .int .i64 imm]) (t := 40) (fr := (0, 0)) (new_block2 wr _ _)) (by simp [Value.oneCell']) (by unfold maxLen; omega) (by omega) (by have := Hbw.out.size; simp; omega) ?_); go_loud (intro v6 w6 hown6 hgrow6 _ _; have hb1 := Hbw.out.alloc Hbw.out.size (.cells #[.int .i64 op, .int .i64 xa, .int .i64 xb, .int .i64 xc, .int .i64 imm] 40); have hb2 := hb1.alloc hb1.size (.cells #[.int .i64 op, .int .i64 xa, .int .i64 xb, .int .i64 xc, .int .i64 imm] 40); have HO := Lib.hid hown6; have HB6 := Lib.hid (hb2.grown hgrow6 (by have := hb1.size; simp at this ⊢; omega) (fun g e => (owns_lt Hown.out e).1)); clear hown6 hgrow6 hb1 hb2))
            obtain ⟨adC, capC, rfl⟩ := row_form HO.out
            go_roundw
            case rel =>
              refine ⟨j + 1, by omega, by go_num, ?_, HB6.out⟩
              have h1 := HO.out
              rw [Hsn2.out, hsh, List.length_append, Hal.out, List.length_singleton, flatI_snoc]
              exact h1
            case measure => simp [intOf]; omega
        · obtain rfl : j = l.length := by omega
          have HO := Lib.hid hown; clear hown
          have HB := Lib.hid hbw; clear hbw
          clear hrow
          go_wp2_with fail
          go_roundw
          case rel =>
            refine ⟨k + 1, by omega, by go_num, ?_, HB.out⟩
            rw [Hsn.out]
            unfold joinA
            have h1 := HO.out
            rw [List.take_length] at h1 hm
            rw [hm, hmm]
            exact h1
          case measure => simp [intOf]; omega
    · obtain rfl : k = ls.length := by omega
      go_wp2_with fail
      refine bodyPost_ret (results_tmp rfl _ _ _) rfl ?_
      refine ⟨_, rfl, ?_, Hbw.out⟩
      have h1 := Hown.out
      simp only [List.take_length] at h1 ⊢
      exact h1

end Go.Proofs.Ythjbcpgncnchoaa
