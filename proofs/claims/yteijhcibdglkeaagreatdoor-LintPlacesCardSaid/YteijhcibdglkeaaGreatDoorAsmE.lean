/- The names of a text, told. Conditions: those stated in each theorem. -/
import Derived.Test.YteijhcibdglkeaaGreatDoorAsmD
import Derived.Scope
namespace Go.Proofs.YteijhcibdglkeaaGreatDoor
open Go.RowKit Go.BigFrame Go.Shelf Go.Maps
attribute [local go_sem] Oper.semAt_some
attribute [local simp] wide_fn

def NmI (q2 mb : Nat) (W0 : World) (pre : List Ln) (W : World) : Prop :=
  Tch (fun k => k = mb ∨ k = q2) W0 W ∧ Holds W q2 3 [.int .i64 (namesL pre).2] ∧ NmAt W mb (19 + pre.length) (namesL pre).1
theorem nmI_own {q2 mb : Nat} {W0 : World} (hmb : mb < W0.heap.size) : OwnFrom W0.heap.size (NmI q2 mb W0) :=
  OwnFrom.and (ownFrom_tch (Nat.le_refl _)) (OwnFrom.and (ownFrom_holds _ _ _ _) (fun _ _ _ _ hs hg hr => hs.same (hg.block mb hs.lt (fun e => by have := (hr mb e.symm).1; omega))))
theorem none_own (B : Nat) (c : Code) : OwnFrom B ((fun (_ : Code) (_ : List Ln) (_ : World) => False) c) := fun _ _ _ _ h _ _ => h
theorem place_le : ∀ l : List Ln, (namesL l).2 ≤ l.length := by
  intro l
  unfold namesL
  have key : ∀ (l : List Ln) (m : Nms × Nat), (l.foldl stepN m).2 ≤ m.2 + l.length := by
    intro l
    induction l with
    | nil => intro m; simp
    | cons x r ih =>
      intro m
      have h1 := ih (stepN m x)
      have h2 : (stepN m x).2 ≤ m.2 + 1 := by
        unfold stepN
        split
        · simp
        · split <;> simp
      simp only [List.foldl_cons, List.length_cons]; omega
  simpa using key l (wordsM, 0)
theorem colon_len {l s : By} (h : colonP l = some s) : s.length ≤ l.length := by
  unfold colonP at h
  split at h
  · cases h; unfold Lib.trimSuffix; split <;> simp
  · cases h

set_option maxRecDepth 100000 in
set_option maxHeartbeats 4000000 in
theorem names_in (tx : By) (htx : tx.length ≤ 1000000) {w : World} (h : Std w) : CallsIn Fence.wide 9 Tryz.prog 38 #[.string ⟨tx.toArray⟩] w fun e w' => (∃ mb, e = .returned (.map (some mb)) ∧ w.heap.size ≤ mb ∧ NmAt w' mb 2000000 (namesP tx)) ∧ Below w.heap.size w w' := by
  have hwd := words_any h
  have Hwd := Lib.hid hwd; clear hwd
  clear h
  have Htx := Lib.hid htx; clear htx
  refine callsIn_of_wp_marks Tryz.func38 rfl trivial ?_ rfl
  simp only [Tryz.ntmps38, List.size_toArray, List.length_cons, List.length_nil, Nat.reduceAdd, Nat.reduceSub, Array.replicate_succ, Array.replicate_zero, List.push_toArray, List.append_toArray, List.nil_append, List.cons_append]
  gi_wp2_with (gi_at_call 49; refine (callsIn_wide.2 Hwd.out).mono ?_; rintro e w1 ⟨mb, rfl, hmb, hm1, hb1⟩; have Hm1 := Lib.hid (And.intro hmb hm1); clear hmb hm1; have Hb1 := Lib.hid hb1; clear hb1)
  have hbA : Below w1.heap.size w1 ((w1.alloc (.cells #[.map (some mb)] 78)).alloc (.cells #[.int .i64 0] 3)) := ((Below.refl _ w1).alloc (Nat.le_refl _) _).alloc (by simp) _
  have hqA : Holds ((w1.alloc (.cells #[.map (some mb)] 78)).alloc (.cells #[.int .i64 0] 3)) w1.heap.size 78 [.map (some mb)] := (Holds.new w1 78 [.map (some mb)]).alloc _
  have hqB : Holds ((w1.alloc (.cells #[.map (some mb)] 78)).alloc (.cells #[.int .i64 0] 3)) (w1.heap.size + 1) 3 [.int .i64 0] := by
    have := Holds.new (w1.alloc (.cells #[.map (some mb)] 78)) 3 [.int .i64 0]
    rwa [World.size_alloc] at this
  have hsA : ((w1.alloc (.cells #[.map (some mb)] 78)).alloc (.cells #[.int .i64 0] 3)).heap.size = w1.heap.size + 2 := by simp
  generalize (w1.alloc (.cells #[.map (some mb)] 78)).alloc (.cells #[.int .i64 0] 3) = wA at *
  refine (callsIn_wide.2 (lineso_any tx wA)).mono ?_
  rintro e wB ⟨rfl, hwB⟩
  have hbB : Below wA.heap.size wA wB := by rw [← hwB]; exact (Below.refl _ wA).alloc (Nat.le_refl _) _
  have hqC : Holds wB wA.heap.size 9 [.string ⟨tx.toArray⟩] := by rw [← hwB]; exact Holds.new wA 9 [.string ⟨tx.toArray⟩]
  have hsB : wB.heap.size = w1.heap.size + 3 := by rw [← hwB]; simp [hsA]
  have hqA2 := hqA.below hbB
  have hqB2 := hqB.below hbB
  have hm2 := (Hm1.out.2.below hbA).below hbB
  have hml : mb < w1.heap.size := Hm1.out.2.lt
  have hbw : Below w.heap.size w wB := Hb1.out.trans ((hbA.trans (hbB.mono hbA.size)).mono Hb1.out.size)
  clear hwB hbA hqA hqB hbB
  have HqA := Lib.hid hqA2; clear hqA2
  have HqB := Lib.hid hqB2; clear hqB2
  have HqC := Lib.hid hqC; clear hqC
  have Hm2 := Lib.hid hm2; clear hm2
  have Hbw := Lib.hid hbw; clear hbw
  have HsB := Lib.hid (And.intro hsA hsB); clear hsA hsB
  have Hml := Lib.hid hml; clear hml
  have Hmb := Lib.hid Hm1.out.1; clear Hm1
  have Hs1 := Lib.hid Hb1.out.size; clear Hb1
  generalize wA.heap.size = q3 at *
  generalize w1.heap.size = q1 at *
  gi_wp2_with fail
  refine each_own rfl rfl (gf := 52) (lb := #[.pointer (some ⟨q3, 0, none⟩)]) rfl trivial (enters_of Tryz.func52 (by kernel_rfl) rfl)
    (lines_each _ q3 tx Htx.out wB (HqC.out.cell (i := 0) rfl) (fun _ _ => True)) (fun _ _ => trivial) (fun _ _ _ _ => trivial) (fun _ => rfl)
    (NmI (q1 + 1) mb wB) (fun _ _ _ => False) (nmI_own (by have := HsB.out; have := Hml.out; omega)) (none_own _) ⟨Tch.refl _ _, HqB.out, Hm2.out⟩ ?round ?done ?stop
  case round =>
    rintro pre x rest W hx hl hi
    obtain ⟨hx1, hx2, hx3, hx4⟩ := lines_mem _ 1 tx (Nat.le_refl _) x (by rw [hx]; simp)
    have hpl : pre.length ≤ tx.length := by
      have h1 := lines_count _ 1 tx (Nat.le_refl _)
      rw [hx] at h1; simp at h1; omega
    have hps := place_le pre
    have hsn := namesL_snoc pre x
    obtain ⟨xn, xs⟩ := x
    simp only at hx1 hx2 hx3 hx4
    unfold RoundOwes
    simp only [encL]
    have Hi := Lib.hid hi; clear hi
    have Hx := Lib.hid hx; clear hx
    clear hl
    gi_wp2
    refine BodyOwes.plain (nmI_own (by have := HsB.out; have := Hml.out; omega)) trivial Hi.out (fun W2 hl hi2 => ?_)
    clear hl Hi
    obtain ⟨hT2, hq2, hn2⟩ := hi2
    have ha2 : Holds W2 q1 78 [.map (some mb)] := hT2.holds (fun e => by have := Hml.out; omega) HqA.out
    have c1 := ha2.cell (i := 0) rfl
    have c2 := hq2.cell (i := 0) rfl
    have f2 := hq2.free 0
    have hsz2 := hT2.size
    have Hsz := Lib.hid hsz2; clear hsz2
    have hcs := fun V => suffix_any xs (by have := Htx.out; omega) V
    unfold stepN at hsn
    simp only at hsn
    generalize namesL pre = st at *
    obtain ⟨m, pl⟩ := st
    simp only at hsn hn2 hps hq2 c2
    have hkk : IntKind.i64.wrap ((pl : Int) + 1) = (pl : Int) + 1 := by rw [IntKind.wrap_i64]; have := Htx.out; omega
    have Hcl : ∀ s, colonP xs = some s → s.length ≤ 1000000 := fun s hs => by have := colon_len hs; have := Htx.out; omega
    have HT2 := Lib.hid hT2; clear hT2
    have Hq2 := Lib.hid hq2; clear hq2
    have Hn2 := Lib.hid hn2; clear hn2
    have Hps := Lib.hid (And.intro hpl hps); clear hpl hps
    clear ha2 hx3 hx4
    have Hx12 := Lib.hid (And.intro hx1 hx2); clear hx1 hx2
    cases hcp : colonP xs with
    | none =>
      rw [hcp] at hcs hsn
      simp only [Option.getD_none, Option.isSome_none] at hcs hsn
      have Hcs := Lib.hid hcs; clear hcs
      have Hsn := Lib.hid hsn; clear hsn
      clear hcp Hcl c1
      gi_wp2_with fail
      refine (CallsIn.inRound _ (callsIn_wide.2 (Hcs.out _))).mono ?_
      rintro e w5 ⟨rfl, rfl⟩
      gi_wp2_with fail
      have hT5 : Tch (fun k => k = mb ∨ k = q1 + 1) w5 (w5.setCell ⟨q1 + 1, 0, none⟩ (.int .i64 (↑pl + 1))) := (Tch.refl _ _).setCell (p := ⟨q1 + 1, 0, none⟩) (.inl (.inr rfl)) _
      refine ⟨hT5.keepsFrom (fun k o h hk ho => by have := HsB.out; have := Hml.out; omega), trivial, HT2.out.trans hT5, ?_, ?_⟩
      · rw [Hsn.out]; exact Hq2.out.set 0 _
      · rw [Hsn.out]; exact (Hn2.out.same (Below.heap_setCell w5 ⟨q1 + 1, 0, none⟩ _ mb (by have := Hml.out; simp only; omega))).more (by simp)
    | some nm =>
      have hnl := Hcl nm hcp
      rw [hcp] at hcs hsn
      simp only [Option.getD_some, Option.isSome_some] at hcs hsn
      have hlk := Hn2.out.run_ok hnl
      have hnm := fun V => name_any nm hnl V
      have Hcs := Lib.hid hcs; clear hcs
      have Hnm := Lib.hid hnm; clear hnm
      have Hnl := Lib.hid hnl; clear hnl
      clear hcp Hcl hkk
      have hbN : ∀ (V : World), Below V.heap.size V (V.alloc (.cells #[.int .i64 (((m nm).getD (0, 0)).1 : Int), .int .i64 (((m nm).getD (0, 0)).2 : Int)] 117)) := fun V => (Below.refl _ V).alloc (Nat.le_refl _) _
      have HbN := Lib.hid hbN; clear hbN
      cases htk : (m nm).isSome with
      | true =>
        have hno : (m nm).isNone = false := by cases hm : m nm with
          | none => rw [hm] at htk; cases htk
          | some _ => rfl
        rw [hno] at hsn
        simp only [Bool.false_and, Bool.false_eq_true, if_false] at hsn
        rw [htk] at hlk
        have Hsn := Lib.hid hsn; clear hsn
        clear hno htk
        generalize (m nm).getD (0, 0) = p at *
        obtain ⟨p1, p2⟩ := p
        gi_wp2_with fail
        refine (CallsIn.inRound _ (callsIn_wide.2 (Hcs.out _))).mono ?_
        rintro e w5 ⟨rfl, rfl⟩
        gi_wp2_with fail
        have hT5 : Tch (fun k => k = mb ∨ k = q1 + 1) w5 _ := Tch.of_idle (HbN.out w5)
        refine ⟨hT5.keepsFrom (fun k o h hk ho => by have := HsB.out; have := Hml.out; omega), trivial, HT2.out.trans hT5, ?_, ?_⟩
        · rw [Hsn.out]; exact Hq2.out.below (HbN.out w5)
        · rw [Hsn.out]; exact (Hn2.out.below (HbN.out w5)).more (by simp)
      | false =>
        have hno : (m nm).isNone = true := by cases hm : m nm with
          | none => rfl
          | some _ => rw [hm] at htk; cases htk
        rw [hno] at hsn
        simp only [Bool.true_and] at hsn
        rw [htk] at hlk
        clear hno htk
        generalize (m nm).getD (0, 0) = p at *
        obtain ⟨p1, p2⟩ := p
        cases hin : isNm nm with
        | false =>
          rw [hin] at hsn Hnm
          simp only [Bool.false_eq_true, if_false] at hsn
          have Hsn := Lib.hid hsn; clear hsn
          clear hin
          gi_wp2_with fail
          refine (CallsIn.inRound _ (callsIn_wide.2 (Hcs.out _))).mono ?_
          rintro e w5 ⟨rfl, rfl⟩
          gi_wp2_with fail
          refine (CallsIn.inRound _ (callsIn_wide.2 (Hnm.out _))).mono ?_
          rintro e w6 ⟨rfl, rfl⟩
          gi_wp2_with fail
          have hT5 : Tch (fun k => k = mb ∨ k = q1 + 1) w5 _ := Tch.of_idle (HbN.out w5)
          refine ⟨hT5.keepsFrom (fun k o h hk ho => by have := HsB.out; have := Hml.out; omega), trivial, HT2.out.trans hT5, ?_, ?_⟩
          · rw [Hsn.out]; exact Hq2.out.below (HbN.out w5)
          · rw [Hsn.out]; exact (Hn2.out.below (HbN.out w5)).more (by simp)
        | true =>
          rw [hin] at hsn Hnm
          simp only [if_true] at hsn
          have Hsn := Lib.hid hsn; clear hsn
          clear hin
          gi_wp2_with fail
          refine (CallsIn.inRound _ (callsIn_wide.2 (Hcs.out _))).mono ?_
          rintro e w5 ⟨rfl, rfl⟩
          gi_wp2_with fail
          refine (CallsIn.inRound _ (callsIn_wide.2 (Hnm.out _))).mono ?_
          rintro e w6 ⟨rfl, rfl⟩
          have hb7 : Below w5.heap.size w5 (w5.alloc (.cells #[.int .i64 (p1 : Int), .int .i64 (p2 : Int)] 117)) := HbN.out w5
          generalize w5.alloc (.cells #[.int .i64 (p1 : Int), .int .i64 (p2 : Int)] 117) = w7 at *
          have c17 := (hb7.cell (World.block_lt_of_cell? _ _ c1)).trans c1
          have hq7 := Hq2.out.below hb7
          have c27 := hq7.cell (i := 0) rfl
          have hn7 := Hn2.out.below hb7
          have Hb7 := Lib.hid hb7; clear hb7
          have Hq7 := Lib.hid hq7; clear hq7
          have Hn7 := Lib.hid hn7; clear hn7
          gi_wp2_with (gi_at_mapUpdate; refine in_put rfl _ _ _ rfl mb (19 + pre.length) m nm (xn, pl) rfl rfl rfl Hn7.out Hnl.out (by have := Hps.out; have := Htx.out; unfold maxLen; omega) ?_; intro w8 hm8 hg8; have Hm8 := Lib.hid hm8; have Hg8 := Lib.hid hg8; clear hm8 hg8)
          have hT5 : Tch (fun k => k = mb ∨ k = q1 + 1) w5 w8 := (Tch.of_idle Hb7.out).grown Hg8.out (fun k e => .inl (.inl (by cases e; rfl)))
          refine ⟨hT5.keepsFrom (fun k o h hk ho => by have := HsB.out; have := Hml.out; omega), trivial, HT2.out.trans hT5, ?_, ?_⟩
          · rw [Hsn.out]; exact Hq7.out.same (Hg8.out.block (q1 + 1) Hq7.out.lt (fun e => by have := Hml.out; cases e; omega))
          · rw [Hsn.out, List.length_append, ← Nat.add_assoc]; exact Hm8.out
  case done =>
    rintro W hi hD
    obtain ⟨hT2, hq2, hn2⟩ := hi
    have ha2 : Holds W q1 78 [.map (some mb)] := hT2.holds (fun e => by have := Hml.out; omega) HqA.out
    have c1 := ha2.cell (i := 0) rfl
    have hcn := lines_count _ 1 tx (Nat.le_refl _)
    have hout : NmAt W mb 2000000 (namesP tx) ∧ Below w.heap.size w W := ⟨hn2.more (by have := Htx.out; omega), Hbw.out.trans (hT2.below Hbw.out.size (fun k h => by have := Hmb.out; have := Hml.out; omega))⟩
    have Hout := Lib.hid hout; clear hout
    have HDD := Lib.hid hD; clear hD
    have HsW := Lib.hid hT2.size
    clear hT2 hq2 hn2 hcn ha2
    gi_wp2_with fail
    refine leaves_mark HDD.out ⟨_, results_tmp rfl _ _ _, ⟨mb, rfl, Hmb.out, ?_⟩, ?_⟩
    · exact Hout.out.1.same (World.putObj_heap_other (by have := HsB.out; have := Hml.out; omega))
    · exact Hout.out.2.trans ((Tch.refl (fun k => wB.heap.size ≤ k) W |>.putObj (.inl (Nat.le_refl _)) _).below Hout.out.2.size (fun k h => by have := Hbw.out.size; omega))
  case stop =>
    rintro c pre W hp hf
    exact hf.elim

theorem names_any (tx : By) (htx : tx.length ≤ 1000000) {w : World} (h : Std w) : Calls Tryz.prog 38 #[.string ⟨tx.toArray⟩] w fun e w' => (∃ mb, e = .returned (.map (some mb)) ∧ w.heap.size ≤ mb ∧ NmAt w' mb 2000000 (namesP tx)) ∧ Below w.heap.size w w' := callsIn_wide.1 (names_in tx htx h)

end Go.Proofs.YteijhcibdglkeaaGreatDoor
