/- An instruction's line: the call. Conditions: those stated in each theorem. -/
import Derived.Test.YteijhcibdglkeaaGreatDoorTxtI
import Derived.Test.YteijhcibdglkeaaGreatDoorTxtR
import Derived.Deep.CutBlock
import Derived.Stop.RegionWithIn
import Derived.Lib.SmallJoins
namespace Go.Proofs.YteijhcibdglkeaaGreatDoor
open Go.RowKit Go.BigFrame Go.Shelf
attribute [local go_sem] Oper.semAt_some
attribute [local simp] wide_fn

theorem itoa_len (n : Int) (h : I64 n) : (Lib.itoa n).length ≤ 21 := by
  have key : ∀ u : Nat, u < 18446744073709551616 → (Lib.decDigits u).length ≤ 20 := fun u hu => by
    rw [Lib.decDigits_length]
    by_cases h1 : 1 ≤ u
    · have := Lib.numDigits_eq u h1 hu; split at this <;> omega
    · obtain rfl : u = 0 := by omega
      rw [Lib.nDigits_small (by omega)]; omega
  obtain ⟨h0, h1⟩ := h
  unfold Lib.itoa
  split
  · have := key n.natAbs (by omega)
    simp; omega
  · have := key n.toNat (by omega)
    omega
theorem word_len (r : Nat) : (word r).length ≤ 5 := by unfold word; split <;> decide
theorem places_len (m : Nat) : (placesP m).length ≤ 5 := by
  have := List.length_filter_le (hasP m) (List.range 5)
  simpa [placesP] using this

/-- The line as far as the places go. -/
def lineTo (r : Nat) (i : In) (pre : List Nat) : List UInt8 := word r ++ textNums i pre
theorem lineTo_snoc (r : Nat) (i : In) (pre : List Nat) (x : Nat) : lineTo r i (pre ++ [x]) = lineTo r i pre ++ 32 :: Lib.itoa (i.get x) := by
  simp [lineTo, textNums, List.flatMap_append]
/-- Between two rounds: the box of the line, and its row. -/
def TxI (r : Nat) (i : In) (g0 n5 : Nat) (W0 : World) (pre : List Nat) (W : World) : Prop :=
  (Tch (fun k => W0.heap.size ≤ k ∨ k = n5 ∨ k = g0) W0 W ∧ ∃ v n, Holds W n5 128 [v] ∧ RowM W g0 v n (Lib.byteCells (lineTo r i pre)) ∧ (∀ k, v.ownBlock = some k → k = g0 ∨ W0.heap.size ≤ k) ∧ n ≤ 5 + 22 * pre.length)
theorem txI_own {r : Nat} {i : In} {g0 n5 : Nat} {W0 : World} : OwnFrom W0.heap.size (TxI r i g0 n5 W0) :=
  OwnFrom.and (ownFrom_tch (Nat.le_refl _)) (fun s X Y row hs hg hr => by
    obtain ⟨v, n, h1, h2, h3, h4⟩ := hs
    refine ⟨v, n, ownFrom_holds W0.heap.size n5 _ (fun _ : List Nat => [v]) s X Y row h1 hg hr, h2.kept (fun k hk => hg.block k (h2.lt hk).2 (fun e => ?_)), h3, h4⟩
    obtain ⟨c, fz, hc⟩ := h2.kind hk
    obtain ⟨o, ho, hn⟩ := (hr k e.symm).2
    rw [hc] at ho; cases ho; cases hn)
def TxX (_ : Code) (_ : List Nat) (_ : World) : Prop := False
theorem txX_own {B : Nat} (c : Code) : OwnFrom B (TxX c) := fun _ _ _ _ hs _ _ => hs

set_option maxRecDepth 100000 in
set_option maxHeartbeats 2000000 in
theorem text_in (i : In) (w : World) (hF : FormsAt w) (hi : i.Ok) (htab : Lib.TabBelow Tryz.prog w.heap.size w "internal/strconv.uint64pow10" .u64 Lib.pow10Tab) :
    CallsIn Fence.wide 9 Tryz.prog 64 #[i.val] w fun e w' => e = .returned (.string ⟨(textP i).toArray⟩) ∧ Below w.heap.size w w' := by
  have hfo := fun W h => formOf_any i W h
  have htx : textP i = lineTo (formP i) i (placesP (mask (formP i))) := rfl
  have hr := formP_lt i
  generalize hfp : formP i = r at *
  obtain ⟨op, a, b, c, imm⟩ := i
  simp only [rowVal, In.val] at hfo
  have hb0 : Below w.heap.size w (w.alloc (.cells #[.int .i64 op, .int .i64 a, .int .i64 b, .int .i64 c, .int .i64 imm] 43)) := (Below.refl _ w).alloc (Nat.le_refl _) _
  have h0 : Holds (w.alloc (.cells #[.int .i64 op, .int .i64 a, .int .i64 b, .int .i64 c, .int .i64 imm] 43)) w.heap.size 43 [.int .i64 op, .int .i64 a, .int .i64 b, .int .i64 c, .int .i64 imm] := Holds.new w 43 [.int .i64 op, .int .i64 a, .int .i64 b, .int .i64 c, .int .i64 imm]
  have Hfo := Lib.hid hfo; clear hfo
  have Htx := Lib.hid htx; clear htx
  have Htab := Lib.hid htab; clear htab
  clear hfp
  have HI := Lib.hid hi; clear hi
  have hF0 := hF.below hb0
  have H0 := Lib.hid h0; clear h0
  have Hb0 := Lib.hid hb0; clear hb0
  have HF0 := Lib.hid hF0; clear hF0 hF
  refine callsIn_of_wp_marks Tryz.func64 rfl trivial ?_ rfl
  simp only [Tryz.ntmps64, In.val, List.size_toArray, List.length_cons, List.length_nil, Nat.reduceAdd, Nat.reduceSub, Array.replicate_succ, Array.replicate_zero, List.push_toArray, List.append_toArray, List.nil_append, List.cons_append]
  gi_wp2_with fail
  refine txt_region 9 op a b c imm r w.heap.size _ _ H0.out HF0.out Hfo.out ?_
  rintro V q3 q4 hb h3 h4 hne
  have hbV := Hb0.out.trans (hb.mono (by simp))
  have hn3 : w.heap.size < q3 := by have := h3.1; simp at this; omega
  have hn4 : w.heap.size < q4 := by have := h4.1; simp at this; omega
  replace h3 := h3.2
  replace h4 := h4.2
  clear H0 Hb0 HF0 Hfo hb
  obtain ⟨V2, hconv, hb2, hs2, hrow2⟩ : ∃ V2, (convert 9 128 (.string (wordS r))).run Tryz.prog V = .ok (.slice (some ⟨V.heap.size, 0, none⟩) (wordS r).size (grownCap V (wordS r).size 0 5)) V2 ∧ Below V.heap.size V V2 ∧ V2.heap.size = V.heap.size + 1 ∧ RowM V2 V.heap.size (.slice (some ⟨V.heap.size, 0, none⟩) (wordS r).size (grownCap V (wordS r).size 0 5)) (wordS r).size (Lib.strCells (wordS r)) := by
    have hwl : (wordS r).size ≤ 5 := word_len r
    exact ⟨_, Lib.run_convert_string_bytes V 9 128 5 (wordS r) Tryz.underlying9 Tryz.underlying128 Tryz.underlying5, Go.Joins.below_bytesWorld _ V 5 (wordS r) (Nat.le_refl _), Lib.bytesWorld_size V 5 _, bytes_M V V.heap.size (Nat.le_refl _) (wordS r) (by unfold maxLen; omega)⟩
  have c30 := h3.cell (i := 0) rfl
  have h32 := (h3.below hb2).alloc (.cells #[.slice (some ⟨V.heap.size, 0, none⟩) (wordS r).size (grownCap V (wordS r).size 0 5)] 128)
  have h42 := (h4.below hb2).alloc (.cells #[.slice (some ⟨V.heap.size, 0, none⟩) (wordS r).size (grownCap V (wordS r).size 0 5)] 128)
  have c31 := h32.cell (i := 1) rfl
  have hq4 : q4 < V2.heap.size := Nat.lt_of_lt_of_le h4.lt hb2.size
  have hq4g : q4 ≠ V.heap.size := by have := h4.lt; omega
  have H4 := Lib.hid h42; clear h42 h4 h3 h32
  have HbV := Lib.hid (hbV.trans (hb2.mono hbV.size))
  have hV := hbV.size; clear hbV hb2
  have Hs2 := Lib.hid hs2; clear hs2
  have Hrow2 := Lib.hid hrow2; clear hrow2
  gi_wp2_with (gi_at_call 25; refine (callsIn_wide.2 (places_any _ _)).mono ?_; rintro e w3 ⟨rfl, rfl⟩)
  have hbW : Below w.heap.size w ((V2.alloc (.cells #[.slice (some ⟨V.heap.size, 0, none⟩) (wordS r).size (grownCap V (wordS r).size 0 5)] 128)).alloc (.cells #[.int .i64 (mask r)] 69)) := (HbV.out.alloc HbV.out.size _).alloc (by have := HbV.out.size; simp; omega) _
  have hrow : RowM ((V2.alloc (.cells #[.slice (some ⟨V.heap.size, 0, none⟩) (wordS r).size (grownCap V (wordS r).size 0 5)] 128)).alloc (.cells #[.int .i64 (mask r)] 69)) V.heap.size (.slice (some ⟨V.heap.size, 0, none⟩) (wordS r).size (grownCap V (wordS r).size 0 5)) (wordS r).size (Lib.byteCells (word r)) := below_old (((Below.refl _ V2).alloc (Nat.le_refl _) _).alloc (by simp) _) Hrow2.out
  have hn5 : Holds ((V2.alloc (.cells #[.slice (some ⟨V.heap.size, 0, none⟩) (wordS r).size (grownCap V (wordS r).size 0 5)] 128)).alloc (.cells #[.int .i64 (mask r)] 69)) V2.heap.size 128 [.slice (some ⟨V.heap.size, 0, none⟩) (wordS r).size (grownCap V (wordS r).size 0 5)] := (Holds.new V2 128 _).alloc _
  have hBc : ((V2.alloc (.cells #[.slice (some ⟨V.heap.size, 0, none⟩) (wordS r).size (grownCap V (wordS r).size 0 5)] 128)).alloc (.cells #[.int .i64 (mask r)] 69)).cell? ⟨V2.heap.size + 1, 0, none⟩ = some (.int .i64 (mask r)) := (newAt (w := V2.alloc _) (by simp) 69 [.int .i64 (mask r)]).cell (i := 0) rfl
  have h4W := H4.out.alloc (.cells #[.int .i64 (mask r)] 69)
  have hs0 : ((V2.alloc (.cells #[.slice (some ⟨V.heap.size, 0, none⟩) (wordS r).size (grownCap V (wordS r).size 0 5)] 128)).alloc (.cells #[.int .i64 (mask r)] 69)).heap.size = V.heap.size + 3 := by have := Hs2.out; simp; omega
  have hs2 := Hs2.out
  have hwl : (wordS r).size ≤ 5 := word_len r
  generalize (wordS r).size = wl at *
  clear H4 HbV Hrow2 Hs2 hconv c30 c31
  generalize (V2.alloc (.cells #[.slice (some ⟨V.heap.size, 0, none⟩) wl (grownCap V wl 0 5)] 128)).alloc (.cells #[.int .i64 (mask r)] 69) = W0 at *
  generalize hg0 : V.heap.size = g0 at *
  generalize hn5e : V2.heap.size = n5 at *
  have Hs0 := Lib.hid hs0; clear hs0
  have HbW := Lib.hid hbW; clear hbW
  have Hrow := Lib.hid hrow; clear hrow
  have Hn5 := Lib.hid hn5; clear hn5
  have H4 := Lib.hid h4W; clear h4W
  have HBc := Lib.hid hBc; clear hBc
  clear hn3 hne hg0 hn5e
  have Hs2 := Lib.hid hs2; clear hs2
  refine each_own rfl rfl (gf := 33) (lb := #[.pointer (some ⟨n5 + 1, 0, none⟩)]) rfl trivial (enters_of Tryz.func33 (by kernel_rfl) rfl)
    (places_each _ (n5 + 1) (mask r) (mask_lt r) W0 HBc.out (KpC (fun k => W0.heap.size ≤ k ∨ k = n5 ∨ k = g0)) (fun X Y hK v hv => (World.cell?_of_block (a := ⟨n5 + 1, 0, none⟩) (hK.block _ (World.block_lt_of_cell? _ _ hv) (show ¬ (W0.heap.size ≤ n5 + 1 ∨ n5 + 1 = n5 ∨ n5 + 1 = g0) by have := Hs0.out; have := Hs2.out; omega))).trans hv)) kpC_t (kpC_b (.inl (by omega))) (fun _ => rfl)
    (TxI r ⟨op, a, b, c, imm⟩ g0 n5 W0) TxX txI_own (fun c => txX_own c) ⟨Tch.refl _ _, _, _, Hn5.out, ?row0, fun k hk => .inl (by cases hk; rfl), by omega⟩ ?round ?done ?stop
  case row0 =>
    have : lineTo r ⟨op, a, b, c, imm⟩ [] = word r := by simp [lineTo, textNums]
    rw [this]; exact Hrow.out
  case stop =>
    rintro c pre W _ h _
    exact h.elim
  case done =>
    rintro W ⟨hT, v, n, hv, hrow, hown, -⟩ hK
    have hc5 := hv.cell (i := 0) rfl
    have hstr := string_M hrow
    have hle : w.heap.size ≤ W0.heap.size := HbW.out.size
    have hbel : Below w.heap.size w W := HbW.out.trans (hT.below hle (fun k h => by have := Hs0.out; omega))
    have Hbel := Lib.hid hbel; clear hbel
    have HK := Lib.hid hK; clear hK hT hv hrow hown
    gi_wp2
    refine leaves_mark HK.out ⟨_, results_tmp rfl _ _ _, ?_, Hbel.out.trans (belowK_b (w := W0) hle W W0.heap.size _ _ (Nat.le_refl _) HK.out rfl rfl)⟩
    rw [Htx.out]; rfl
  case round =>
    rintro pre x rest W hx hl hi
    have hx5 : x < 5 := placesP_lt (m := mask r) (by rw [hx]; simp)
    have hpl : pre.length ≤ 4 := by have := places_len (mask r); rw [hx] at this; simp at this; omega
    clear hx hl
    unfold RoundOwes
    have Hi := Lib.hid hi; clear hi
    gi_wp2
    refine BodyOwes.plain txI_own (Tch.refl _ _) Hi.out (fun W2 hl hi2 => ?_)
    clear hl Hi
    obtain ⟨hT2, v, n, hv, hrow, hown, hnl⟩ := hi2
    have c5 := hv.cell (i := 0) rfl
    obtain ⟨i0, hi0, hz0, hz1, hz2⟩ := info_u8
    have HI0 := Lib.hid hi0; clear hi0
    have hs2' : W0.heap.size ≤ W2.heap.size := hT2.size
    have Hrow1 := Lib.hid hrow; clear hrow
    have Hv := Lib.hid hv; clear hv
    have HT2 := Lib.hid hT2; clear hT2
    gi_wp2_with (gi_at_builtin; refine wpListIn_append_M _ rfl _ _ 128 128 rfl g0 i0 Tryz.underlying128 HI0.out hz0 hz1 hz2 v n _ rfl (below_old ((Below.refl _ W2).alloc (Nat.le_refl _) _) Hrow1.out) (.slice (some ⟨W2.heap.size, 0, none⟩) 1 1) 1 [.int .u8 32] rfl (.inr ⟨rfl, _, _, rfl, rfl, ?c1, ?c2⟩) (by omega) (by have := Hs0.out; simp; omega) ?_)
    case c1 => intro y hy; rw [List.mem_singleton.1 hy]; rfl
    case c2 => intro j y hj; match j, hj with | 0, hj => simp at hj; subst hj; simp [Addr.add]
    intro v5 w5 hown5 hg5
    obtain ⟨g5, cap5, rfl, hb5⟩ := hown5.form
    have hs5 : W2.heap.size ≤ w5.heap.size := Nat.le_trans (by simp) hg5.1.size
    have hnn5 : n5 < W2.heap.size := Hv.out.lt
    have hno5 : ¬ some n5 = v.ownBlock := fun e => by have := hown n5 e.symm; have := Hs2.out; have := Hs0.out; omega
    have hno4 : ¬ some q4 = v.ownBlock := fun e => by have := hown q4 e.symm; have := Hs2.out; have := Hs0.out; omega
    have h4W2 : Holds W2 q4 65 [.int .i64 op, .int .i64 a, .int .i64 b, .int .i64 c, .int .i64 imm] := HT2.out.holds (fun e => by have := Hs2.out; have := Hs0.out; omega) H4.out
    have hv5 : Holds w5 n5 128 [v] := (Hv.out.alloc _).same (hg5.1.block n5 (by simp; omega) hno5)
    have h45 : Holds w5 q4 65 [.int .i64 op, .int .i64 a, .int .i64 b, .int .i64 c, .int .i64 imm] := (h4W2.alloc (.cells #[.int .u8 32] 5)).same (hg5.1.block q4 (by have := h4W2.lt; simp; omega) hno4)
    have hown5' : g5 = g0 ∨ W0.heap.size ≤ g5 := by
      rcases hg5.2 g5 hb5 with h | h
      · exact hown g5 h
      · exact .inr (by simp at h; omega)
    have hvg5 : v.ownBlock = some g5 ∨ W2.heap.size ≤ g5 := (hg5.2 g5 hb5).imp id (fun h => by simp at h; omega)
    have hT5 : Tch (fun k => v.ownBlock = some k ∨ k = n5) W2 w5 := ((Tch.refl _ W2).alloc (.cells #[.int .u8 32] 5)).grown hg5.1 (fun k e => .inl (.inl e))
    have hrow5 : RowM (w5.setCell ⟨n5, 0, none⟩ (.slice (some ⟨g5, 0, none⟩) (n + 1) cap5)) g0 (.slice (some ⟨g5, 0, none⟩) (n + 1) cap5) (n + 1) (Lib.byteCells (lineTo r ⟨op, a, b, c, imm⟩ pre) ++ [.int .u8 32]) := hown5.kept (fun g hg => by cases hg; exact Below.heap_setCell w5 ⟨n5, 0, none⟩ _ g5 (show g5 ≠ n5 by have := Hs2.out; have := Hs0.out; omega))
    have hn6 : Holds (w5.setCell ⟨n5, 0, none⟩ (.slice (some ⟨g5, 0, none⟩) (n + 1) cap5)) n5 128 [.slice (some ⟨g5, 0, none⟩) (n + 1) cap5] := hv5.set 0 _
    have h46 : Holds (w5.setCell ⟨n5, 0, none⟩ (.slice (some ⟨g5, 0, none⟩) (n + 1) cap5)) q4 65 [.int .i64 op, .int .i64 a, .int .i64 b, .int .i64 c, .int .i64 imm] := h45.other (show q4 ≠ n5 by omega) _
    have hT6 : Tch (fun k => v.ownBlock = some k ∨ k = n5) W2 (w5.setCell ⟨n5, 0, none⟩ (.slice (some ⟨g5, 0, none⟩) (n + 1) cap5)) := hT5.setCell (p := ⟨n5, 0, none⟩) (.inl (.inr rfl)) _
    have hs6 : (w5.setCell ⟨n5, 0, none⟩ (.slice (some ⟨g5, 0, none⟩) (n + 1) cap5)).heap.size = w5.heap.size := by simp
    have c55 := hv5.cell (i := 0) rfl
    have f55 := hv5.free 0
    have Hg := Lib.hid hown5'; clear hown5'
    have Hrow6 := Lib.hid hrow5; clear hrow5 hown5 hg5
    have Hn6 := Lib.hid hn6; clear hn6 hv5 h45 h4W2 c5
    have H46 := Lib.hid h46; clear h46
    have HT6 := Lib.hid hT6; clear hT6 hT5
    have Hs6 := Lib.hid hs6; clear hs6
    have Hown := Lib.hid hown; clear hown
    have Hvg := Lib.hid hvg5; clear hvg5
    clear hno5 hno4
    gi_wp2_with fail
    generalize w5.setCell ⟨n5, 0, none⟩ (.slice (some ⟨g5, 0, none⟩) (n + 1) cap5) = W6 at *
    have c60 := Hn6.out.cell (i := 0) rfl
    have c6x : W6.cell? ⟨q4, x, none⟩ = some (.int .i64 ((In.mk op a b c imm).get x)) := H46.out.cell (In.cell_get ⟨op, a, b, c, imm⟩ hx5)
    have hz6 := HI.out.get x
    have hls := lineTo_snoc r ⟨op, a, b, c, imm⟩ pre x
    have hit := itoa_len _ hz6
    generalize (In.mk op a b c imm).get x = z at *
    have hx0 : (0 : Int) ≤ x ∧ (x : Int) < 5 := by omega
    have hsz6 : W0.heap.size ≤ W6.heap.size := Nat.le_trans hs2' HT6.out.size
    have hno6 : ¬ some n5 = (Value.slice (some ⟨g5, 0, none⟩) (n + 1) cap5).ownBlock := fun e => by have e' : n5 = g5 := Option.some.inj e; have := Hg.out; have := Hs2.out; have := Hs0.out; omega
    have hD : ∀ k, (v.ownBlock = some k ∨ k = n5) → W0.heap.size ≤ k ∨ k = n5 ∨ k = g0 := fun k h => by
      rcases h with h | h
      · have := Hown.out k h; omega
      · omega
    have hbel6 : Below w.heap.size w W6 := HbW.out.trans ((HT2.out.trans (HT6.out.mono (fun k _ h => hD k h))).below HbW.out.size (fun k h => by have := Hs2.out; have := Hs0.out; have := HbW.out.size; omega))
    have htab6 : ∀ w', GrowM W6.drew w' (.slice (some ⟨g5, 0, none⟩) (n + 1) cap5) (.slice (some ⟨g5, 0, none⟩) (n + 1) cap5) → Lib.TabIs Tryz.prog w' "internal/strconv.uint64pow10" .u64 Lib.pow10Tab := fun w' hg => Htab.out w' ((below_drew1 hbel6).grown hg.1 hbel6.size (fun k hk => by have e' : g5 = k := Option.some.inj hk; have := Hg.out; have := Hs2.out; have := Hs0.out; have := HbW.out.size; omega))
    have hcall := aint_any g0 (n + 1) z hz6.1 hz6.2 (.slice (some ⟨g5, 0, none⟩) (n + 1) cap5) _ W6.drew (Hrow6.out.kept (fun _ _ => rfl)) (by have := Hs0.out; simp; omega) (by omega) htab6
    have Hcall := Lib.hid hcall; clear hcall htab6
    have Hls := Lib.hid hls; clear hls
    have Hb6 := Lib.hid hbel6; clear hbel6
    have Hno6 := Lib.hid hno6; clear hno6
    gi_region_with (gi_at_call 86; refine (CallsIn.inRound _ (callsIn_wide.2 Hcall.out)).mono ?_; rintro e w7 ⟨v7, rfl, hown7, hg7⟩; obtain ⟨g7, cap7, rfl, hb7⟩ := hown7.form; have hn7 : Holds w7 n5 128 [.slice (some ⟨g5, 0, none⟩) (n + 1) cap5] := Hn6.out.same (hg7.1.block n5 Hn6.out.lt Hno6.out); have c70 := hn7.cell (i := 0) rfl; have f70 := hn7.free 0; have Hown7 := Lib.hid hown7; clear hown7; have Hg7 := Lib.hid hg7; clear hg7; have Hn7 := Lib.hid hn7; clear hn7)
    all_goals
      gi_wp2
      have hT7 : Tch (fun k => v.ownBlock = some k ∨ k = n5) W2 (w7.setCell ⟨n5, 0, none⟩ (.slice (some ⟨g7, 0, none⟩) (n + 1 + (Lib.itoa z).length) cap7)) := (((HT6.out.drew).grown Hg7.out.1 (fun k e => by cases e; exact Hvg.out.imp .inl id)).setCell (p := ⟨n5, 0, none⟩) (.inl (.inr rfl)) _)
      have hg70 : g7 = g0 ∨ W0.heap.size ≤ g7 := by
        rcases Hg7.out.2 g7 hb7 with h | h
        · cases h; exact Hg.out
        · exact .inr (Nat.le_trans hsz6 h)
      refine ⟨hT7.keepsFrom (fun k o h hk ho => ?_), hT7.mono (fun k _ h => ?_), HT2.out.trans (hT7.mono (fun k _ h => ?_)), .slice (some ⟨g7, 0, none⟩) (n + 1 + (Lib.itoa z).length) cap7, n + 1 + (Lib.itoa z).length, Hn7.out.set 0 _, ?_, fun k hk => by cases hk; exact hg70, by rw [List.length_append, List.length_singleton]; omega⟩
      · rcases h with h | h
        · obtain ⟨c', fz, hc'⟩ := Hrow1.out.kind h
          rw [hc'] at ho; cases ho; rfl
        · have := Hs2.out; have := Hs0.out; omega
      · rcases h with h | h
        · have := Hown.out k h; omega
        · omega
      · rcases h with h | h
        · have := Hown.out k h; omega
        · omega
      · rw [Hls.out]
        have e : Lib.byteCells (lineTo r ⟨op, a, b, c, imm⟩ pre ++ 32 :: Lib.itoa z) = Lib.byteCells (lineTo r ⟨op, a, b, c, imm⟩ pre) ++ [.int .u8 32] ++ Lib.byteCells (Lib.itoa z) := by simp [Lib.byteCells]
        rw [e]
        exact Hown7.out.kept (fun g hg => by cases hg; exact Below.heap_setCell w7 ⟨n5, 0, none⟩ _ g7 (show g7 ≠ n5 by have := Hs2.out; have := Hs0.out; omega))

theorem text_any (i : In) (w : World) (hF : FormsAt w) (hi : i.Ok) (htab : Lib.TabBelow Tryz.prog w.heap.size w "internal/strconv.uint64pow10" .u64 Lib.pow10Tab) :
    Calls Tryz.prog 64 #[i.val] w fun e w' => e = .returned (.string ⟨(textP i).toArray⟩) ∧ Below w.heap.size w w' := callsIn_wide.1 (text_in i w hF hi htab)

end Go.Proofs.YteijhcibdglkeaaGreatDoor
