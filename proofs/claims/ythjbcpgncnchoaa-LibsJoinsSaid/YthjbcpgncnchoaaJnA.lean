/- Join: codes one behind the other. Conditions: those stated in each theorem. -/
import Derived.Test.YthjbcpgncnchoaaLbM
import Derived.Deep.CutBlock
namespace Go.Proofs.Ythjbcpgncnchoaa
open Go.RowKit Go.BigFrame

def goesB (op : Int) : Bool := op == 13 || op == 14 || op == 15 || op == 16
def shiftI (n : Int) (i : In) : In := if goesB i.op then { i with imm := wrap64 (i.imm + n) } else i
def joinA (all : List In) (l : List In) : List In := all ++ l.map (shiftI all.length)
def joinP (ls : List (List In)) : List In := ls.foldl joinA []
theorem joinP_snoc (ls : List (List In)) (l : List In) : joinP (ls ++ [l]) = joinA (joinP ls) l := by simp [joinP]
/-- Lists that lie in a row of slices. -/
def PartsIn (w : World) (a : Option Addr) (ls : List (List In)) : Prop :=
  ∀ (k : Nat) (l : List In), ls[k]? = some l → ∃ q c ad cap, a = some ⟨q, c, none⟩ ∧ w.cell? ⟨q, c + k, none⟩ = some (.slice ad l.length cap) ∧ RowsIn w ad 5 In.cells l
theorem PartsIn.below {w w' : World} {a : Option Addr} {ls : List (List In)} (h : PartsIn w a ls) (hb : Below w.heap.size w w') : PartsIn w' a ls := fun k l hl => by
  obtain ⟨q, c, ad, cap, h1, h2, h3⟩ := h k l hl
  refine ⟨q, c, ad, cap, h1, ?_, h3.below hb⟩
  rw [World.cell?_of_block (a := ⟨q, c + k, none⟩) (hb.block q (World.block_lt_of_cell? _ _ h2))]
  exact h2
theorem new_block2 (w : World) (o1 o2 : Obj) : ((w.alloc o1).alloc o2).heap[w.heap.size + 1]? = some o2 := by
  have h := new_block (w.alloc o1) o2
  have h2 : (w.alloc o1).heap.size = w.heap.size + 1 := by simp
  rw [h2] at h
  exact h
set_option maxRecDepth 100000 in
theorem goes_any (op : Int) (w : World) : Calls Try.prog 40 #[.int .i64 op] w fun e w' => e = .returned (.bool (goesB op)) ∧ w' = w := by
  unfold goesB
  by_cases h1 : op = 13
  · subst h1
    go_enter Try.func40, Try.ntmps40
    go_wp2
    go_ret
    exact ⟨rfl, rfl⟩
  by_cases h2 : op = 14
  · subst h2
    go_enter Try.func40, Try.ntmps40
    go_wp2
    go_ret
    exact ⟨rfl, rfl⟩
  by_cases h3 : op = 15
  · subst h3
    go_enter Try.func40, Try.ntmps40
    go_wp2
    go_ret
    exact ⟨rfl, rfl⟩
  by_cases h4 : op = 16
  · subst h4
    go_enter Try.func40, Try.ntmps40
    go_wp2
    go_ret
    exact ⟨rfl, rfl⟩
  have f1 : (op == 13) = false := by simpa using h1
  have f2 : (op == 14) = false := by simpa using h2
  have f3 : (op == 15) = false := by simpa using h3
  have f4 : (op == 16) = false := by simpa using h4
  rw [f1, f2, f3, f4]
  go_enter Try.func40, Try.ntmps40
  go_wp2
  go_ret
  exact ⟨rfl, rfl⟩

set_option maxRecDepth 100000 in
set_option maxHeartbeats 4000000 in
theorem join_any (a : Option Addr) (ca : Nat) (ls : List (List In)) (w : World) (hp : PartsIn w a ls) (hn : ls.length ≤ 1000) (hl : ∀ l ∈ ls, l.length ≤ 2000) (ht : ∀ k, (joinP (ls.take k)).length ≤ 2000 * k) :
    Calls Try.prog 18 #[.slice a ls.length ca] w fun e w' => ∃ v, e = .returned v ∧ w'.ownsRow w.heap.size 40 5 v (joinP ls).length (flatI (joinP ls)) ∧ Below w.heap.size w w' := by
  have HP := Lib.hid hp; clear hp
  have HL := Lib.hid hl; clear hl
  have HT := Lib.hid ht; clear ht
  obtain ⟨i0, hi0, hz0, hz1, hz2⟩ := info_parts Try.infoIn
  have Hi := Lib.hid hi0; clear hi0
  have Hz0 := Lib.hid hz0; clear hz0
  have Hz1 := Lib.hid hz1; clear hz1
  have Hz2 := Lib.hid hz2; clear hz2
  go_enter Try.func18, Try.ntmps18
  go_wp2_with fail
  go_loopw [3, 11] (fun u3 u11 wr => ∃ (k : Nat), k ≤ ls.length ∧ u11 = .int .i64 k ∧ wr.ownsRow w.heap.size 40 5 u3 (joinP (ls.take k)).length (flatI (joinP (ls.take k))) ∧ Below w.heap.size w wr) (fun _ i _ => ls.length - (intOf i).toNat)
  case atStart => exact ⟨0, by omega, by simp, ⟨rfl, .inl ⟨rfl, rfl⟩⟩, Below.refl _ _⟩
  case round =>
    obtain ⟨k, hk, rfl, hown, hbw⟩ := hrel
    have Hbw := Lib.hid hbw; clear hbw
    obtain ⟨adA, capA, rfl⟩ := row_form hown
    have Hown := Lib.hid hown; clear hown
    by_cases hlt : k < ls.length
    · obtain ⟨l, hl⟩ : ∃ l, ls[k]? = some l := ⟨ls[k], List.getElem?_eq_getElem hlt⟩
      obtain ⟨q, c, adL, capL, rfl, hcell0, hrow⟩ := HP.out k l hl
      have hcell : wr.cell? ⟨q, c + k, none⟩ = some (.slice adL l.length capL) := by
        rw [World.cell?_of_block (a := ⟨q, c + k, none⟩) (Hbw.out.block q (World.block_lt_of_cell? _ _ hcell0))]
        exact hcell0
      clear hcell0
      have hbk : (0 : Int) ≤ k ∧ (k : Int) < ls.length := by omega
      have hll := HL.out l (List.mem_of_getElem? hl)
      have htk := HT.out k
      have hsn : joinP (ls.take (k + 1)) = joinA (joinP (ls.take k)) l := by rw [List.take_add_one, hl]; exact joinP_snoc _ _
      generalize joinP (ls.take k) = all at *
      have Hsn := Lib.hid hsn; clear hsn
      have Hrow := Lib.hid hrow; clear hrow
      go_wp2_with fail
      go_loopw [3, 19] (fun u3 u19 wr2 => ∃ (j : Nat), j ≤ l.length ∧ u19 = .int .i64 j ∧ wr2.ownsRow w.heap.size 40 5 u3 (all ++ (l.take j).map (shiftI all.length)).length (flatI (all ++ (l.take j).map (shiftI all.length))) ∧ Below w.heap.size w wr2) (fun _ i _ => l.length - (intOf i).toNat)
      case atStart => exact ⟨0, by omega, by simp, by simpa using Hown.out, Hbw.out⟩
      case round =>
        clear Hown Hbw
        obtain ⟨j, hj, rfl, hown, hbw⟩ := hrel
        have hrow := Hrow.out.below hbw
        have hm : (all ++ (l.take j).map (shiftI all.length)).length = all.length + j := by simp; omega
        rw [hm] at hown
        obtain ⟨m, hmm⟩ : ∃ m : Nat, all.length + j = m := ⟨_, rfl⟩
        rw [hmm] at hown
        have hmb : m ≤ 3000000 := by omega
        obtain ⟨adB, capB, rfl⟩ := row_form hown
        by_cases hjl : j < l.length
        · obtain ⟨x, hx⟩ : ∃ x, l[j]? = some x := ⟨l[j], List.getElem?_eq_getElem hjl⟩
          obtain ⟨q2, c2, rfl, hq2, hcs⟩ := hrow.row hx
          have hsn2 : all ++ (l.take (j + 1)).map (shiftI all.length) = (all ++ (l.take j).map (shiftI all.length)) ++ [shiftI all.length x] := by rw [List.take_add_one, hx]; simp
          generalize all ++ (l.take j).map (shiftI all.length) = al at *
          obtain ⟨op, xa, xb, xc, imm⟩ := x
          have hbj : (0 : Int) ≤ j ∧ (j : Int) < l.length := by omega
          have r0 : wr.cell? ⟨q2, c2 + j * 5, none⟩ = some (.int .i64 op) := hcs 0 _ rfl
          have r1 : wr.cell? ⟨q2, c2 + j * 5 + 1, none⟩ = some (.int .i64 xa) := hcs 1 _ rfl
          have r2 : wr.cell? ⟨q2, c2 + j * 5 + 2, none⟩ = some (.int .i64 xb) := hcs 2 _ rfl
          have r3 : wr.cell? ⟨q2, c2 + j * 5 + 3, none⟩ = some (.int .i64 xc) := hcs 3 _ rfl
          have r4 : wr.cell? ⟨q2, c2 + j * 5 + 4, none⟩ = some (.int .i64 imm) := hcs 4 _ rfl
          clear hcs hx
          have Hsn2 := Lib.hid hsn2; clear hsn2
          have Hal := Lib.hid (show al.length = m by omega)
          have Hown := Lib.hid hown; clear hown
          have Hbw := Lib.hid hbw; clear hbw
          have HG0 : ∀ W, Calls Try.prog 40 #[.int .i64 op] W fun e w' => e = .returned (.bool (goesB op)) ∧ w' = W := fun W => goes_any op W
          cases hg : goesB op
          · have hsh : shiftI all.length ⟨op, xa, xb, xc, imm⟩ = ⟨op, xa, xb, xc, imm⟩ := by simp only [shiftI, hg, if_false, Bool.false_eq_true]
            rw [hg] at HG0
            have HG := Lib.hid HG0; clear HG0
            go_wp2_with (first | (refine (HG.out _).mono ?_; rintro _ _ ⟨rfl, rfl⟩) | (at_builtin; go_loud (refine wpList_append_own_at _ rfl (.tmp 31) (.tmp 33) 32 rfl w.heap.size 40 i0 _ 5 40 Try.underlying32 Hi.out Hz0.out Hz1.out Hz2.out rfl (by decide) (.slice adB m capB) m (flatI al) rfl (World.ownsRow.alloc (World.ownsRow.alloc Hown.out _) _) ⟨wr.heap.size + 1, 0, none⟩ 1 1 [.int .i64 op, .int .i64 xa, .int .i64 xb, .int .i64 xc, .int .i64 imm] rfl rfl (World.news_of_block (cs := #[.int .i64 op, .int .i64 xa, .int .i64 xb, .int .i64 xc, .int .i64 imm]) (t := 40) (fr := (0, 0)) (new_block2 wr _ _)) (by simp [Value.oneCell']) (by unfold maxLen; omega) (by omega) (by have := Hbw.out.size; simp; omega) ?_); go_loud (intro v6 w6 hown6 hgrow6 _ _; have hb1 := Hbw.out.alloc Hbw.out.size (.cells #[.int .i64 op, .int .i64 xa, .int .i64 xb, .int .i64 xc, .int .i64 imm] 40); have hb2 := hb1.alloc hb1.size (.cells #[.int .i64 op, .int .i64 xa, .int .i64 xb, .int .i64 xc, .int .i64 imm] 40); have HO := Lib.hid hown6; have HB6 := Lib.hid (hb2.grown hgrow6 (by have := hb1.size; simp at this ⊢; omega) (fun g e => (owns_lt Hown.out e).1)); clear hown6 hgrow6 hb1 hb2)))
            obtain ⟨adC, capC, rfl⟩ := row_form HO.out
            go_roundw
            case rel =>
              refine ⟨j + 1, by omega, by go_num, ?_, HB6.out⟩
              have h1 := HO.out
              rw [Hsn2.out, hsh, List.length_append, Hal.out, List.length_singleton, flatI_snoc]
              exact h1
            case measure => simp [intOf]; omega
          · have hsh : shiftI all.length ⟨op, xa, xb, xc, imm⟩ = ⟨op, xa, xb, xc, wrap64 (imm + all.length)⟩ := by simp only [shiftI, hg, if_true]
            rw [hg] at HG0
            have HG := Lib.hid HG0; clear HG0
            go_wp2_with (first | (refine (HG.out _).mono ?_; rintro _ _ ⟨rfl, rfl⟩) | (at_builtin; go_loud (refine wpList_append_own_at _ rfl (.tmp 31) (.tmp 33) 32 rfl w.heap.size 40 i0 _ 5 40 Try.underlying32 Hi.out Hz0.out Hz1.out Hz2.out rfl (by decide) (.slice adB m capB) m (flatI al) rfl (World.ownsRow.alloc (World.ownsRow.alloc Hown.out _) _) ⟨wr.heap.size + 1, 0, none⟩ 1 1 [.int .i64 op, .int .i64 xa, .int .i64 xb, .int .i64 xc, .int .i64 (wrap64 (imm + all.length))] rfl rfl (World.news_of_block (cs := #[.int .i64 op, .int .i64 xa, .int .i64 xb, .int .i64 xc, .int .i64 (wrap64 (imm + all.length))]) (t := 40) (fr := (0, 0)) (new_block2 wr _ _)) (by simp [Value.oneCell']) (by unfold maxLen; omega) (by omega) (by have := Hbw.out.size; simp; omega) ?_); go_loud (intro v6 w6 hown6 hgrow6 _ _; have hb1 := Hbw.out.alloc Hbw.out.size (.cells #[.int .i64 op, .int .i64 xa, .int .i64 xb, .int .i64 xc, .int .i64 (wrap64 (imm + all.length))] 40); have hb2 := hb1.alloc hb1.size (.cells #[.int .i64 op, .int .i64 xa, .int .i64 xb, .int .i64 xc, .int .i64 (wrap64 (imm + all.length))] 40); have HO := Lib.hid hown6; have HB6 := Lib.hid (hb2.grown hgrow6 (by have := hb1.size; simp at this ⊢; omega) (fun g e => (owns_lt Hown.out e).1)); clear hown6 hgrow6 hb1 hb2)))
            obtain ⟨adC, capC, rfl⟩ := row_form HO.out
            go_roundw
            case rel =>
              refine ⟨j + 1, by omega, by go_num, ?_, HB6.out⟩
              have h1 := HO.out
              rw [Hsn2.out, hsh, List.length_append, Hal.out, List.length_singleton, flatI_snoc]
              exact h1
            case measure => simp [intOf]; omega
        · obtain rfl : j = l.length := by omega
          have HO := Lib.hid hown; clear hown
          have HB := Lib.hid hbw; clear hbw
          clear hrow
          go_wp2_with fail
          go_roundw
          case rel =>
            refine ⟨k + 1, by omega, by go_num, ?_, HB.out⟩
            rw [Hsn.out]
            unfold joinA
            have h1 := HO.out
            rw [List.take_length] at h1 hm
            rw [hm, hmm]
            exact h1
          case measure => simp [intOf]; omega
    · obtain rfl : k = ls.length := by omega
      go_wp2_with fail
      refine bodyPost_ret (results_tmp rfl _ _ _) rfl ?_
      refine ⟨_, rfl, ?_, Hbw.out⟩
      have h1 := Hown.out
      simp only [List.take_length] at h1 ⊢
      exact h1

end Go.Proofs.Ythjbcpgncnchoaa
