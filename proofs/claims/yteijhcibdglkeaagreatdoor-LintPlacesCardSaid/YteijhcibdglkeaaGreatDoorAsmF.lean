/- A line's instruction. Conditions: those stated in each theorem. -/
import Derived.Test.YteijhcibdglkeaaGreatDoorAsmE
import Derived.Laws.Concat
namespace Go.Proofs.YteijhcibdglkeaaGreatDoor
open Go.RowKit Go.BigFrame Go.Shelf Go.Maps

section
variable {P : Program} {w : World} {ops : Array Oper} {rest : List Oper} {o : Oper} {a : Act} {Q : Exit → Act → World → Prop}
/-- Two strings are joined. -/
theorem wpList_cat2 (hg : o.guard = none) (t t2 : TypeId) (x y : Operand) (hop : o.op = Op.binOp BinOp.add t x y t2) (p q : List UInt8) (hx : a.eval x = .string ⟨p.toArray⟩) (hy : a.eval y = .string ⟨q.toArray⟩) (hp : p.length ≤ 8000000) (hq : q.length ≤ 8000000)
    (h : wpList P ops Q rest (a.put o.dst (.string ⟨(p ++ q).toArray⟩)) w) : wpList P ops Q (o :: rest) a w := by
  refine wpList_plain hg fun K' hK' => ?_
  unfold Oper.wp
  have hr : (binOp BinOp.add t (.string ⟨p.toArray⟩) (.string ⟨q.toArray⟩)).run P w = .ok (.string ⟨(p ++ q).toArray⟩) w := by rw [binOp_string_add]; exact run_string_add_lists w p q (by omega) (by omega)
  simp [execOp, hop, hx, hy, hr, eqGuard, Result.andThen]
  exact hK' _ _ h
end
theorem loadInstr {w : World} {q : Nat} {L : List Value} (h : w.rangeAt q 0 L) (hL : L.length = 5) : (loadVar 43 ⟨q, 0, none⟩).run Tryz.prog w = .ok (.agg L.toArray) w :=
  run_loadVar_mid w q 0 43 L _ h Tryz.underlying43 rfl (by rw [hL]; exact Tryz.sizeInstr)
theorem oneIn5 (a b c d e : Int) : (#[Value.int .i64 a, .int .i64 b, .int .i64 c, .int .i64 d, .int .i64 e] : Array Value).all (·.oneCell') = true := by simp [Value.oneCell']

set_option maxRecDepth 100000 in
set_option maxHeartbeats 4000000 in
theorem rinstr_any {w : World} (h : Std w) {b mb : Nat} {cv lv : Value} {m : Nms} (hR : Holds w b 81 [.map (some mb), cv, lv]) (hM : NmAt w mb 2000000 m) (hP : ∀ s, placeOf m s ≤ 1000000) (s : By) (hs : s.length ≤ 900000) :
    Calls Tryz.prog 56 #[.pointer (some ⟨b, 0, none⟩), .string ⟨s.toArray⟩] w fun e w' => e = .returned (.tuple #[((instrP m s).getD In.zero).val, .bool (instrP m s).isSome]) ∧ Below w.heap.size w w' := by
  have hb0 : Below w.heap.size w (w.alloc (.cells #[.int .i64 0, .int .i64 0, .int .i64 0, .int .i64 0, .int .i64 0] 43)) := (Below.refl _ w).alloc (Nat.le_refl _) _
  have hq0 : Holds (w.alloc (.cells #[.int .i64 0, .int .i64 0, .int .i64 0, .int .i64 0, .int .i64 0] 43)) w.heap.size 43 [.int .i64 0, .int .i64 0, .int .i64 0, .int .i64 0, .int .i64 0] := Holds.new w 43 [.int .i64 0, .int .i64 0, .int .i64 0, .int .i64 0, .int .i64 0]
  have hRl := hR.lt
  have hMl := hM.lt
  have HR := Lib.hid hR; clear hR
  have HM := Lib.hid hM; clear hM
  have HP := Lib.hid hP; clear hP
  have Hs := Lib.hid hs; clear hs
  have H := Lib.hid h; clear h
  have Hl := Lib.hid (And.intro hRl hMl); clear hRl hMl
  go_enter Tryz.func56, Tryz.ntmps56
  go_wp2_with fail
  generalize w.alloc (.cells #[.int .i64 0, .int .i64 0, .int .i64 0, .int .i64 0, .int .i64 0] 43) = w1 at *
  refine (parse_std s (by have := Hs.out; omega) (H.out.below hb0)).mono ?_
  rintro e w2 ⟨rfl, hb2⟩
  have hq2 := hq0.below hb2
  have hbw2 : Below w.heap.size w w2 := hb0.trans (hb2.mono hb0.size)
  have hl2 := hq2.lt
  clear hq0 hb0 hb2
  have Hq2 := Lib.hid hq2; clear hq2
  have Hb2 := Lib.hid hbw2; clear hbw2
  have Hl2 := Lib.hid hl2; clear hl2
  cases hp : parseP s with
  | some i =>
    obtain ⟨xo, xa, xb, xc, xi⟩ := i
    have HI := Lib.hid (show instrP m s = some ⟨xo, xa, xb, xc, xi⟩ by unfold instrP; rw [hp])
    clear hp
    simp only [parseVal, In.val]
    have hq3 : Holds (w2.alloc (.cells #[.int .i64 xo, .int .i64 xa, .int .i64 xb, .int .i64 xc, .int .i64 xi] 43)) w.heap.size 43 _ := Hq2.out.alloc _
    have hb3 : Below w.heap.size w (w2.alloc (.cells #[.int .i64 xo, .int .i64 xa, .int .i64 xb, .int .i64 xc, .int .i64 xi] 43)) := Hb2.out.alloc Hb2.out.size _
    have Hq3 := Lib.hid hq3; clear hq3
    have Hb3 := Lib.hid hb3; clear hb3
    go_wp2_with (refine wpList_store_mid rfl 43 (.tmp 4) (.tmp 20) rfl w.heap.size 0 #[.int .i64 xo, .int .i64 xa, .int .i64 xb, .int .i64 xc, .int .i64 xi] rfl rfl ?_ Tryz.sizeInstr (oneIn5 _ _ _ _ _) ?_; exact Hq3.out.there (by simp))
    refine bodyPost_ret (results_ct rfl rfl (loadInstr (L := [.int .i64 xo, .int .i64 xa, .int .i64 xb, .int .i64 xc, .int .i64 xi]) (range_set (b := w.heap.size) (o := 0) _ (Hq3.out.there (by simp))) rfl) rfl) rfl ⟨by rw [HI.out]; rfl, below_cells (Nat.le_refl _) _ 0 _ Hb3.out⟩
  | none =>
    have HI := Lib.hid (show instrP m s = if lineOf m (s.drop (lastP s)) = 0 || !goesP s then none else parseP (s.take (lastP s) ++ Lib.itoa (placeOf m (s.drop (lastP s)))) by unfold instrP; rw [hp])
    clear hp
    simp only [parseVal, In.val, In.zero]
    go_wp2_with fail
    have hq3 : Holds (w2.alloc (.cells #[.int .i64 0, .int .i64 0, .int .i64 0, .int .i64 0, .int .i64 0] 43)) w.heap.size 43 _ := Hq2.out.alloc _
    have hb3 : Below w.heap.size w (w2.alloc (.cells #[.int .i64 0, .int .i64 0, .int .i64 0, .int .i64 0, .int .i64 0] 43)) := Hb2.out.alloc Hb2.out.size _
    generalize w2.alloc (.cells #[.int .i64 0, .int .i64 0, .int .i64 0, .int .i64 0, .int .i64 0] 43) = w3 at *
    refine (lastw_any s (by have := Hs.out; omega) w3).mono ?_
    rintro e w4 ⟨rfl, hb4⟩
    have hq4 := hq3.below hb4
    have hb4' : Below w.heap.size w w4 := hb3.trans (hb4.mono hb3.size)
    clear hq3 hb3 hb4
    have hR4 := HR.out.below hb4'
    have hM4 := HM.out.below hb4'
    have c0 := hR4.cell (i := 0) rfl
    have hdl : (s.drop (lastP s)).length ≤ 1000000 := by have := Hs.out; rw [List.length_drop]; omega
    have htl : (s.take (lastP s)).length ≤ 900000 := by have := Hs.out; rw [List.length_take]; omega
    have hpm := HP.out (s.drop (lastP s))
    generalize s.drop (lastP s) = nm at *
    generalize s.take (lastP s) = ah at *
    have hlk := hM4.run hdl
    unfold placeOf at hpm
    unfold lineOf placeOf at HI
    generalize (m nm).getD (0, 0) = p at *
    obtain ⟨p1, p2⟩ := p
    simp only at HI hpm
    have Hq4 := Lib.hid hq4; clear hq4
    have Hb4 := Lib.hid hb4'; clear hb4'
    have Htl := Lib.hid (And.intro htl hpm); clear htl hpm hdl
    clear hR4 hM4 HR HM
    have hq5 : Holds (w4.alloc (.cells #[.int .i64 (p1 : Int), .int .i64 (p2 : Int)] 117)) w.heap.size 43 _ := Hq4.out.alloc _
    have hb5 : Below w.heap.size w (w4.alloc (.cells #[.int .i64 (p1 : Int), .int .i64 (p2 : Int)] 117)) := Hb4.out.alloc Hb4.out.size _
    have hs5 : Holds (w4.alloc (.cells #[.int .i64 (p1 : Int), .int .i64 (p2 : Int)] 117)) w4.heap.size 117 [.int .i64 (p1 : Int), .int .i64 (p2 : Int)] := Holds.new w4 117 [.int .i64 (p1 : Int), .int .i64 (p2 : Int)]
    have Hq5 := Lib.hid hq5; clear hq5
    have Hb5 := Lib.hid hb5; clear hb5
    have Hs5 := Lib.hid hs5; clear hs5
    have hgo := fun V => goes_any s (by have := Hs.out; omega) V
    have Hgo := Lib.hid hgo; clear hgo
    go_upto_region 6 with fail
    generalize w4.alloc (.cells #[.int .i64 (p1 : Int), .int .i64 (p2 : Int)] 117) = w5 at *
    have c5 := Hs5.out.cell (i := 0) rfl
    have c6 := Hs5.out.cell (i := 1) rfl
    by_cases h1 : p1 = 0
    · subst h1
      rw [if_pos (by simp)] at HI
      go_wp2_with (refine wpList_store_mid rfl 43 (.tmp 4) (.tmp 40) rfl w.heap.size 0 #[.int .i64 0, .int .i64 0, .int .i64 0, .int .i64 0, .int .i64 0] rfl rfl ?_ Tryz.sizeInstr (oneIn5 _ _ _ _ _) ?_; exact Hq5.out.there (by simp))
      refine bodyPost_ret (results_ct rfl rfl (loadInstr (L := [.int .i64 0, .int .i64 0, .int .i64 0, .int .i64 0, .int .i64 0]) (range_set (b := w.heap.size) (o := 0) _ (Hq5.out.there (by simp))) rfl) rfl) rfl ⟨by rw [HI.out]; rfl, below_cells (Nat.le_refl _) _ 0 _ Hb5.out⟩
    · have e1 : ((p1 : Int) == 0) = false := by rw [beq_eq_false_iff_ne]; omega
      have hb1 : (p1 == 0) = false := by simpa using h1
      cases hg : goesP s with
      | false =>
        rw [if_pos (by simp [hg])] at HI
        rw [hg] at Hgo
        clear hg
        go_wp2_with fail
        refine (Hgo.out _).mono ?_
        rintro e w6 ⟨rfl, hb6⟩
        have Hq6 := Lib.hid (Hq5.out.below hb6)
        have Hb6 := Lib.hid (Hb5.out.trans (hb6.mono Hb5.out.size))
        clear hb6
        go_wp2_with (refine wpList_store_mid rfl 43 (.tmp 4) (.tmp 40) rfl w.heap.size 0 #[.int .i64 0, .int .i64 0, .int .i64 0, .int .i64 0, .int .i64 0] rfl rfl ?_ Tryz.sizeInstr (oneIn5 _ _ _ _ _) ?_; exact Hq6.out.there (by simp))
        refine bodyPost_ret (results_ct rfl rfl (loadInstr (L := [.int .i64 0, .int .i64 0, .int .i64 0, .int .i64 0, .int .i64 0]) (range_set (b := w.heap.size) (o := 0) _ (Hq6.out.there (by simp))) rfl) rfl) rfl ⟨by rw [HI.out]; rfl, below_cells (Nat.le_refl _) _ 0 _ Hb6.out⟩
      | true =>
        rw [if_neg (by simp [hg, h1])] at HI
        rw [hg] at Hgo
        clear hg
        go_upto_region 8 with (go_at_call 79; refine (Hgo.out _).mono ?_; rintro e w6 ⟨rfl, hb6⟩; have c66 := (hb6.cell (World.block_lt_of_cell? _ _ c6)).trans c6; have Hq6 := Lib.hid (Hq5.out.below hb6); have Hb6 := Lib.hid (Hb5.out.trans (hb6.mono Hb5.out.size)); clear hb6)
        clear c5 c6
        go_wp2_with fail
        refine (itoa_std (p2 : Int) (by have := Htl.out.2; unfold I64; omega) (H.out.below Hb6.out)).mono ?_
        rintro e w7 ⟨rfl, hb7⟩
        have Hq7 := Lib.hid (Hq6.out.below hb7)
        have Hb7 := Lib.hid (Hb6.out.trans (hb7.mono Hb6.out.size))
        clear hb7
        have hit : (Lib.itoa (p2 : Int)).length ≤ 21 := itoa_len _ (by have := Htl.out.2; unfold I64; omega)
        have Hit := Lib.hid hit; clear hit
        generalize Lib.itoa (p2 : Int) = it at *
        go_wp2_with (refine wpList_cat2 rfl _ _ _ _ rfl ah it rfl rfl (by have := Htl.out.1; omega) (by have := Hit.out; omega) ?_)
        refine (parse_std (ah ++ it) (by have := Htl.out.1; have := Hit.out; rw [List.length_append]; omega) (H.out.below Hb7.out)).mono ?_
        rintro e w8 ⟨rfl, hb8⟩
        have hq8 := Hq7.out.below hb8
        have hb8' := Hb7.out.trans (hb8.mono Hb7.out.size)
        clear hb8
        have Hq8 := Lib.hid hq8; clear hq8
        have Hb8 := Lib.hid hb8'; clear hb8'
        cases hp : parseP (ah ++ it) with
        | some i =>
          obtain ⟨xo, xa, xb, xc, xi⟩ := i
          rw [hp] at HI
          clear hp
          simp only [parseVal, In.val]
          have Hq9 := Lib.hid (show Holds (w8.alloc (.cells #[.int .i64 xo, .int .i64 xa, .int .i64 xb, .int .i64 xc, .int .i64 xi] 43)) w.heap.size 43 _ from Hq8.out.alloc _)
          have Hb9 := Lib.hid (show Below w.heap.size w (w8.alloc (.cells #[.int .i64 xo, .int .i64 xa, .int .i64 xb, .int .i64 xc, .int .i64 xi] 43)) from Hb8.out.alloc Hb8.out.size _)
          go_wp2_with (refine wpList_store_mid rfl 43 (.tmp 4) (.tmp 50) rfl w.heap.size 0 #[.int .i64 xo, .int .i64 xa, .int .i64 xb, .int .i64 xc, .int .i64 xi] rfl rfl ?_ Tryz.sizeInstr (oneIn5 _ _ _ _ _) ?_; exact Hq9.out.there (by simp))
          refine bodyPost_ret (results_ct rfl rfl (loadInstr (L := [.int .i64 xo, .int .i64 xa, .int .i64 xb, .int .i64 xc, .int .i64 xi]) (range_set (b := w.heap.size) (o := 0) _ (Hq9.out.there (by simp))) rfl) rfl) rfl ⟨by rw [HI.out]; rfl, below_cells (Nat.le_refl _) _ 0 _ Hb9.out⟩
        | none =>
          rw [hp] at HI
          clear hp
          simp only [parseVal, In.val, In.zero]
          have Hq9 := Lib.hid (show Holds (w8.alloc (.cells #[.int .i64 0, .int .i64 0, .int .i64 0, .int .i64 0, .int .i64 0] 43)) w.heap.size 43 _ from Hq8.out.alloc _)
          have Hb9 := Lib.hid (show Below w.heap.size w (w8.alloc (.cells #[.int .i64 0, .int .i64 0, .int .i64 0, .int .i64 0, .int .i64 0] 43)) from Hb8.out.alloc Hb8.out.size _)
          go_wp2_with (refine wpList_store_mid rfl 43 (.tmp 4) (.tmp 50) rfl w.heap.size 0 #[.int .i64 0, .int .i64 0, .int .i64 0, .int .i64 0, .int .i64 0] rfl rfl ?_ Tryz.sizeInstr (oneIn5 _ _ _ _ _) ?_; exact Hq9.out.there (by simp))
          refine bodyPost_ret (results_ct rfl rfl (loadInstr (L := [.int .i64 0, .int .i64 0, .int .i64 0, .int .i64 0, .int .i64 0]) (range_set (b := w.heap.size) (o := 0) _ (Hq9.out.there (by simp))) rfl) rfl) rfl ⟨by rw [HI.out]; rfl, below_cells (Nat.le_refl _) _ 0 _ Hb9.out⟩

end Go.Proofs.YteijhcibdglkeaaGreatDoor
