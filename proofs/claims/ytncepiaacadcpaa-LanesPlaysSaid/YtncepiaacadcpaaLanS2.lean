/- The document's own control: an Abort that is taken, in lane 2. Conditions: those stated in each theorem. -/
import Derived.Test.YtncepiaacadcpaaLanS1
namespace Go.Proofs.Ytncepiaacadcpaa
open Go.RowKit Go.BigFrame

set_option maxRecDepth 100000 in
set_option maxHeartbeats 4000000 in
theorem rabort_2 {w : World} {S : Nat → Prop} {q : Nat} {v : Value} {L : List Int} {f s o a1 a2 a3 : Int} (h : RfPt w S q ⟨f, s, o, 2, a1, a2, a3⟩ v L) (hg : Ct.Good ⟨f, s, o, 2, a1, a2, a3⟩) (n : Int) (hok : okCode n = true) : Calls Try.prog 27 #[.pointer (some ⟨q, 0, none⟩), .int .i64 n] w fun e w' => e = .returned (.tuple #[.int .i64 (Ct.ansA ⟨f, s, o, 2, a1, a2, a3⟩ n), .int .i64 (Ct.errA ⟨f, s, o, 2, a1, a2, a3⟩ n)]) ∧ RfOut w S q (Ct.abort ⟨f, s, o, 2, a1, a2, a3⟩ n) w' := by
  obtain ⟨ha, hb, hc⟩ := abort_ln (c := ⟨f, s, o, 2, a1, a2, a3⟩) (by simp) (by simp) hok
  rw [ha, hb, hc]
  have hl48 : L.length ≤ 47 := by
    have h0 := h.rl.len
    have h1 := hg.b1
    have h2 := hg.b2
    have h3 := hg.b3
    have h4 := hg.l2 rfl
    have h5 := hg.f1
    have h6 := hg.s1
    have h7 := hg.o1
    have h8 := hg.a11
    have h9 := hg.a21
    have h10 := hg.a31
    unfold Ct.try_ at h0
    simp only at *
    omega
  have hlt : a2 < s := hg.l2 rfl
  have ha0 : 0 ≤ a2 := hg.a20
  have hlm : s ≤ 16 := hg.s1
  have hrl : ∀ k, RL ⟨f, s, o, k, a1, a2 + 1, a3⟩ (L ++ [2]) := fun k => h.rl.snoc (k := k) (by simp) (by simp)
  have hcnt : (((L ++ [(2 : Int)]).count 2 : Nat) : Int) = a2 + 1 := (hrl 0).k2
  have hl' : (L ++ [(2 : Int)]).length ≤ 48 := by rw [List.length_append, List.length_singleton]; omega
  have HCO : Hid (∀ V v', Mid w V q ⟨f, s, o, 2, a1, a2, a3⟩ v' (L ++ [2]) → Calls Try.prog 36 #[.pointer (some ⟨q, 0, none⟩), .int .i64 2] V fun e w' => e = .returned (.int .i64 (a2 + 1)) ∧ V = w') := Lib.hid (fun V v' hV => by have := mid_count hV hl' 2; rwa [hcnt] at this)
  have HBU : Hid (∀ V v', Mid w V q ⟨f, s, o, 2, a1, a2, a3⟩ v' (L ++ [2]) → Calls Try.prog 37 #[.agg #[.int .i64 f, .int .i64 s, .int .i64 o], .int .i64 2] V fun e w' => e = .returned (.int .i64 s) ∧ Mid w w' q ⟨f, s, o, 2, a1, a2, a3⟩ v' (L ++ [2])) := Lib.hid (fun V v' hV => mid_budget hV 2 (by omega) (by omega))
  have HFI : Hid (∀ V v', Mid w V q ⟨f, s, o, 2, a1, a2, a3⟩ v' (L ++ [2]) → Calls Try.prog 35 #[.agg #[.int .i64 f, .int .i64 s, .int .i64 o], .int .i64 3] V fun e w' => e = .returned (.int .i64 ((Ct.from ⟨f, s, o, 2, a1, a2, a3⟩ 3 : Nat) : Int)) ∧ Mid w w' q ⟨f, s, o, 2, a1, a2, a3⟩ v' (L ++ [2])) := Lib.hid (fun V v' hV => mid_first hV 3 (by omega) (by omega))
  have HF3 : Hid (∀ V v', Mid w V q ⟨f, s, o, 2, a1, a2, a3⟩ v' (L ++ [2]) → Calls Try.prog 35 #[.agg #[.int .i64 f, .int .i64 s, .int .i64 o], .int .i64 3] V fun e w' => e = .returned (.int .i64 ((Ct.from ⟨f, s, o, 2, a1, a2, a3⟩ 3 : Nat) : Int)) ∧ Mid w w' q ⟨f, s, o, 2, a1, a2, a3⟩ v' (L ++ [2])) := Lib.hid (fun V v' hV => mid_first hV 3 (by omega) (by omega))
  have HRL := Lib.hid hrl; clear hrl
  have c3 : w.cell? ⟨q, 3, none⟩ = some (.int .i64 2) := h.cl 3 rfl
  have c4 := h.cl 4 rfl
  have f4 := h.head.free 4
  have hql := h.head.lt
  have d1 : decide (n < 1) = false := by simp [okCode] at hok; simp; omega
  have d8 : decide (8 < n) = false := by simp [okCode] at hok; simp; omega
  have d7 : (n == 7) = false := by simp [okCode] at hok; simp; omega
  obtain ⟨i0, hi, hz0, hz1, hz2⟩ := info_parts Try.infoI
  have HI := Lib.hid hi; clear hi
  have HZ0 := Lib.hid hz0; clear hz0
  have HZ1 := Lib.hid hz1; clear hz1
  have HZ2 := Lib.hid hz2; clear hz2
  have H := Lib.hid h
  clear hg hok ha hb hc hcnt
  rcases owns_form h.row with ⟨rfl, hL0, -⟩ | ⟨g, cap, rfl, hgo⟩
  · obtain rfl : L = [] := List.eq_nil_of_length_eq_zero hL0
    have Hb1 := Lib.hid (Below.refl w.heap.size w)
    have Hr1 := Lib.hid (World.ownsRow_nil (w := w) w.heap.size 3 1)
    clear hL0 h
    by_cases h3 : n = 3
    · subst h3
      have hfl : Hid (Ct.follow (Ct.inc ⟨f, s, o, 2, a1, a2, a3⟩) 3 = Ct.from ⟨f, s, o, 2, a1, a2, a3⟩ 3) := Lib.hid rfl
      clear d1 d8 d7
      go_enter Try.func27, Try.ntmps27
      go_wp2_with (first | (at_builtin; refine wpList_append_own_at _ rfl _ _ 31 rfl w.heap.size 3 i0 _ 1 8 Try.underlying31 HI.out HZ0.out HZ1.out HZ2.out rfl (by decide) (.slice none 0 0) 0 [] rfl (World.ownsRow.alloc Hr1.out _) ⟨w.heap.size, 0, none⟩ 1 1 [.int .i64 2] rfl rfl (World.news_of_block (t := 3) (fr := (0, 0)) (new_block w _)) (by simp [Value.oneCell']) (by unfold maxLen; omega) (by omega) (by have := Hb1.out.size; simp <;> omega) ?_; intro v5 w5 hown5 hgrow5 hnil5 hat5; obtain ⟨g5, cap5, rfl, -, -⟩ := hown5.form (by omega); have hb5 : Below w.heap.size w w5 := (Hb1.out.alloc Hb1.out.size _).grown hgrow5 (Nat.le_trans Hb1.out.size (by simp)) (fun k e => (owns_lt Hr1.out e).1); have hh5 := H.out.head.below hb5; have k4 := hh5.cell (i := 4) rfl; have r4 := hh5.free 4; have hM := Mid.of H.out hb5 (row_snoc (L := []) (x := 2) (by simp) hown5); obtain ⟨m0, m1, m2, m3⟩ := hM.cells; have HM := Lib.hid hM; clear hown5 hgrow5 hnil5 hat5 hb5 hh5 hM) | (go_at_call 35; refine (HF3.out _ _ HM.out).mono ?_; rintro e V ⟨rfl, hV⟩; have p3 := hV.head.cell (i := 3) rfl; have r3 := hV.head.free 3; have HV := Lib.hid (hV.lane (Ct.from ⟨f, s, o, 2, a1, a2, a3⟩ 3)); clear hV))
      go_ret2
      exact ⟨by rw [hfl.out]; rfl, by rw [hfl.out]; exact Mid.out (mid_with HV.out) H.out.me (HRL.out _)⟩
    have g3 : (n == 3) = false := by simpa using h3
    have hfl : Hid (Ct.follow (Ct.inc ⟨f, s, o, 2, a1, a2, a3⟩) n = (if a2 + 1 = s then Ct.from ⟨f, s, o, 2, a1, a2, a3⟩ 3 else 2)) := Lib.hid (by
      have : Ct.inc ⟨f, s, o, 2, a1, a2, a3⟩ = ⟨f, s, o, 2, a1, a2 + 1, a3⟩ := rfl
      rw [this]
      unfold Ct.follow
      rw [if_neg (fun e => h3 e.2)]
      rfl)
    clear h3
    by_cases he : a2 + 1 = s
    · have dge : decide (a2 + 1 < s) = false := by simp; omega
      have dge2 : decide (s ≤ a2 + 1) = true := by simp; omega
      have hfl2 : Hid (Ct.follow (Ct.inc ⟨f, s, o, 2, a1, a2, a3⟩) n = Ct.from ⟨f, s, o, 2, a1, a2, a3⟩ 3) := Lib.hid (by rw [hfl.out, if_pos he])
      clear he
      go_enter Try.func27, Try.ntmps27
      go_wp2_with (first | (at_builtin; refine wpList_append_own_at _ rfl _ _ 31 rfl w.heap.size 3 i0 _ 1 8 Try.underlying31 HI.out HZ0.out HZ1.out HZ2.out rfl (by decide) (.slice none 0 0) 0 [] rfl (World.ownsRow.alloc Hr1.out _) ⟨w.heap.size, 0, none⟩ 1 1 [.int .i64 2] rfl rfl (World.news_of_block (t := 3) (fr := (0, 0)) (new_block w _)) (by simp [Value.oneCell']) (by unfold maxLen; omega) (by omega) (by have := Hb1.out.size; simp <;> omega) ?_; intro v5 w5 hown5 hgrow5 hnil5 hat5; obtain ⟨g5, cap5, rfl, -, -⟩ := hown5.form (by omega); have hb5 : Below w.heap.size w w5 := (Hb1.out.alloc Hb1.out.size _).grown hgrow5 (Nat.le_trans Hb1.out.size (by simp)) (fun k e => (owns_lt Hr1.out e).1); have hh5 := H.out.head.below hb5; have k4 := hh5.cell (i := 4) rfl; have r4 := hh5.free 4; have hM := Mid.of H.out hb5 (row_snoc (L := []) (x := 2) (by simp) hown5); obtain ⟨m0, m1, m2, m3⟩ := hM.cells; have HM := Lib.hid hM; clear hown5 hgrow5 hnil5 hat5 hb5 hh5 hM))
      have HM6 := Lib.hid (HM.out.below (below_drew1 (Below.refl _ _)))
      clear HM m0 m1 m2 m3
      have hP := HM6.out
      have HK : Hid (∀ V, Mid w V q ⟨f, s, o, 2, a1, a2, a3⟩ (.slice (some ⟨g5, 0, none⟩) (0 + 1) cap5) ([] ++ [2]) → V.cell? ⟨q, 0, none⟩ = some (.int .i64 f) ∧ V.cell? ⟨q, 1, none⟩ = some (.int .i64 s) ∧ V.cell? ⟨q, 2, none⟩ = some (.int .i64 o) ∧ V.cell? ⟨q, 3, none⟩ = some (.int .i64 2)) := Lib.hid (fun V h => h.cells)
      go_region_held3 (fun V => V.cell? ⟨q, 0, none⟩ = some (.int .i64 f) ∧ V.cell? ⟨q, 1, none⟩ = some (.int .i64 s) ∧ V.cell? ⟨q, 2, none⟩ = some (.int .i64 o) ∧ V.cell? ⟨q, 3, none⟩ = some (.int .i64 2)) (first | with_reducible exact HK.out _ hP) (first | (go_at_call 36; (with_reducible refine (HCO.out _ _ hP).mono ?_); rintro e V ⟨rfl, rfl⟩) | (go_at_call 37; (with_reducible refine (HBU.out _ _ hP).mono ?_); rintro e V ⟨rfl, hP⟩))
      all_goals
        have HM := Lib.hid hP
        clear hP HM6
        go_wp2
        have hP := HM.out.below (below_drew1 (Below.refl _ _))
        clear HM
        obtain ⟨m0, m1, m2, m3⟩ := hP.cells
        have wr2 : IntKind.i64.wrap 3 = 3 := by decide
        go_region_law (go_simp; go_at_call 35; (with_reducible refine (HFI.out _ _ hP).mono ?_); rintro e V ⟨rfl, hP⟩; have p3 := hP.head.cell (i := 3) rfl; have r3 := hP.head.free 3)
        all_goals
          have HV := Lib.hid (hP.lane (Ct.from ⟨f, s, o, 2, a1, a2, a3⟩ 3))
          clear hP
          go_wp2
          go_ret2
          exact ⟨by rw [hfl2.out]; rfl, by rw [hfl2.out]; exact Mid.out (mid_with HV.out) H.out.me (HRL.out _)⟩
    · have dge : decide (a2 + 1 < s) = true := by simp; omega
      have dge2 : decide (s ≤ a2 + 1) = false := by simp; omega
      have hfl2 : Hid (Ct.follow (Ct.inc ⟨f, s, o, 2, a1, a2, a3⟩) n = 2) := Lib.hid (by rw [hfl.out, if_neg he])
      clear he
      go_enter Try.func27, Try.ntmps27
      go_wp2_with (first | (at_builtin; refine wpList_append_own_at _ rfl _ _ 31 rfl w.heap.size 3 i0 _ 1 8 Try.underlying31 HI.out HZ0.out HZ1.out HZ2.out rfl (by decide) (.slice none 0 0) 0 [] rfl (World.ownsRow.alloc Hr1.out _) ⟨w.heap.size, 0, none⟩ 1 1 [.int .i64 2] rfl rfl (World.news_of_block (t := 3) (fr := (0, 0)) (new_block w _)) (by simp [Value.oneCell']) (by unfold maxLen; omega) (by omega) (by have := Hb1.out.size; simp <;> omega) ?_; intro v5 w5 hown5 hgrow5 hnil5 hat5; obtain ⟨g5, cap5, rfl, -, -⟩ := hown5.form (by omega); have hb5 : Below w.heap.size w w5 := (Hb1.out.alloc Hb1.out.size _).grown hgrow5 (Nat.le_trans Hb1.out.size (by simp)) (fun k e => (owns_lt Hr1.out e).1); have hh5 := H.out.head.below hb5; have k4 := hh5.cell (i := 4) rfl; have r4 := hh5.free 4; have hM := Mid.of H.out hb5 (row_snoc (L := []) (x := 2) (by simp) hown5); obtain ⟨m0, m1, m2, m3⟩ := hM.cells; have HM := Lib.hid hM; clear hown5 hgrow5 hnil5 hat5 hb5 hh5 hM))
      have HM6 := Lib.hid (HM.out.below (below_drew1 (Below.refl _ _)))
      clear HM m0 m1 m2 m3
      have hP := HM6.out
      have HK : Hid (∀ V, Mid w V q ⟨f, s, o, 2, a1, a2, a3⟩ (.slice (some ⟨g5, 0, none⟩) (0 + 1) cap5) ([] ++ [2]) → V.cell? ⟨q, 0, none⟩ = some (.int .i64 f) ∧ V.cell? ⟨q, 1, none⟩ = some (.int .i64 s) ∧ V.cell? ⟨q, 2, none⟩ = some (.int .i64 o) ∧ V.cell? ⟨q, 3, none⟩ = some (.int .i64 2)) := Lib.hid (fun V h => h.cells)
      go_region_held3 (fun V => V.cell? ⟨q, 0, none⟩ = some (.int .i64 f) ∧ V.cell? ⟨q, 1, none⟩ = some (.int .i64 s) ∧ V.cell? ⟨q, 2, none⟩ = some (.int .i64 o) ∧ V.cell? ⟨q, 3, none⟩ = some (.int .i64 2)) (first | with_reducible exact HK.out _ hP) (first | (go_at_call 36; (with_reducible refine (HCO.out _ _ hP).mono ?_); rintro e V ⟨rfl, rfl⟩) | (go_at_call 37; (with_reducible refine (HBU.out _ _ hP).mono ?_); rintro e V ⟨rfl, hP⟩))
      all_goals
        have HM := Lib.hid hP
        clear hP HM6
        obtain ⟨m0, m1, m2, m3⟩ := HM.out.cells
        go_wp2
        go_ret2
        exact ⟨by rw [hfl2.out]; rfl, by rw [hfl2.out]; exact Mid.out (mid_with HM.out) H.out.me (HRL.out _)⟩
  · have hrow := h.row
    have hat : ∀ i u, (L.map lv)[i]? = some u → w.cell? ((⟨g, 0, none⟩ : Addr).add i) = some u := fun i u hu => by
      have h1 := (owns_cell hrow hgo hu).1
      unfold Addr.add
      split
      · rename_i h0; rw [h0] at h1; exact h1
      · simpa using h1
    have Hat := Lib.hid hat; clear hat hrow
    have Hon := Lib.hid (lv_one L)
    have Hml : Hid ((L.map lv).length = L.length * 1) := Lib.hid (by simp)
    clear h
    by_cases h3 : n = 3
    · subst h3
      have hfl : Hid (Ct.follow (Ct.inc ⟨f, s, o, 2, a1, a2, a3⟩) 3 = Ct.from ⟨f, s, o, 2, a1, a2, a3⟩ 3) := Lib.hid rfl
      clear d1 d8 d7
      go_enter Try.func27, Try.ntmps27
      go_wp2_with (first | (at_builtin; refine wpList_append_own_at _ rfl _ _ 31 rfl w.heap.size 3 i0 _ 1 8 Try.underlying31 HI.out HZ0.out HZ1.out HZ2.out rfl (by decide) (.slice none 0 0) 0 [] rfl (World.ownsRow_nil _ _ _ _) ⟨g, 0, none⟩ L.length cap (L.map lv) rfl Hml.out Hat.out Hon.out (by unfold maxLen; omega) (by omega) (Nat.le_refl _) ?_; intro v1 w1 hown1 hgrow1 hnil1 hat1; have Hr1 : Hid (w1.ownsRow w.heap.size 3 1 v1 L.length (L.map lv)) := Lib.hid (by rw [Nat.zero_add, List.nil_append] at hown1; exact hown1); have Hb1 : Hid (Below w.heap.size w w1) := Lib.hid ((Below.refl _ _).grown hgrow1 (Nat.le_refl _) (fun k e => by cases e)); have hh1 := H.out.head.below Hb1.out; have q3 : w1.cell? ⟨q, 3, none⟩ = some (.int .i64 2) := hh1.cell (i := 3) rfl; have hs1 := Hb1.out.size; clear hown1 hgrow1 hnil1 hat1 hh1) | (at_builtin; refine wpList_append_own_at _ rfl _ _ 31 rfl w.heap.size 3 i0 _ 1 8 Try.underlying31 HI.out HZ0.out HZ1.out HZ2.out rfl (by decide) v1 L.length (L.map lv) rfl (World.ownsRow.alloc Hr1.out _) ⟨w1.heap.size, 0, none⟩ 1 1 [.int .i64 2] rfl rfl (World.news_of_block (t := 3) (fr := (0, 0)) (new_block w1 _)) (by simp [Value.oneCell']) (by unfold maxLen; omega) (by omega) (by have := Hb1.out.size; simp <;> omega) ?_; intro v5 w5 hown5 hgrow5 hnil5 hat5; obtain ⟨g5, cap5, rfl, -, -⟩ := hown5.form (by omega); have hb5 : Below w.heap.size w w5 := (Hb1.out.alloc Hb1.out.size _).grown hgrow5 (Nat.le_trans Hb1.out.size (by simp)) (fun k e => (owns_lt Hr1.out e).1); have hh5 := H.out.head.below hb5; have k4 := hh5.cell (i := 4) rfl; have r4 := hh5.free 4; have hM := Mid.of H.out hb5 (row_snoc (L := L) (x := 2) (by simp) hown5); obtain ⟨m0, m1, m2, m3⟩ := hM.cells; have HM := Lib.hid hM; clear hown5 hgrow5 hnil5 hat5 hb5 hh5 hM) | (go_at_call 35; refine (HF3.out _ _ HM.out).mono ?_; rintro e V ⟨rfl, hV⟩; have p3 := hV.head.cell (i := 3) rfl; have r3 := hV.head.free 3; have HV := Lib.hid (hV.lane (Ct.from ⟨f, s, o, 2, a1, a2, a3⟩ 3)); clear hV))
      go_ret2
      exact ⟨by rw [hfl.out]; rfl, by rw [hfl.out]; exact Mid.out (mid_with HV.out) H.out.me (HRL.out _)⟩
    have g3 : (n == 3) = false := by simpa using h3
    have hfl : Hid (Ct.follow (Ct.inc ⟨f, s, o, 2, a1, a2, a3⟩) n = (if a2 + 1 = s then Ct.from ⟨f, s, o, 2, a1, a2, a3⟩ 3 else 2)) := Lib.hid (by
      have : Ct.inc ⟨f, s, o, 2, a1, a2, a3⟩ = ⟨f, s, o, 2, a1, a2 + 1, a3⟩ := rfl
      rw [this]
      unfold Ct.follow
      rw [if_neg (fun e => h3 e.2)]
      rfl)
    clear h3
    by_cases he : a2 + 1 = s
    · have dge : decide (a2 + 1 < s) = false := by simp; omega
      have dge2 : decide (s ≤ a2 + 1) = true := by simp; omega
      have hfl2 : Hid (Ct.follow (Ct.inc ⟨f, s, o, 2, a1, a2, a3⟩) n = Ct.from ⟨f, s, o, 2, a1, a2, a3⟩ 3) := Lib.hid (by rw [hfl.out, if_pos he])
      clear he
      go_enter Try.func27, Try.ntmps27
      go_wp2_with (first | (at_builtin; refine wpList_append_own_at _ rfl _ _ 31 rfl w.heap.size 3 i0 _ 1 8 Try.underlying31 HI.out HZ0.out HZ1.out HZ2.out rfl (by decide) (.slice none 0 0) 0 [] rfl (World.ownsRow_nil _ _ _ _) ⟨g, 0, none⟩ L.length cap (L.map lv) rfl Hml.out Hat.out Hon.out (by unfold maxLen; omega) (by omega) (Nat.le_refl _) ?_; intro v1 w1 hown1 hgrow1 hnil1 hat1; have Hr1 : Hid (w1.ownsRow w.heap.size 3 1 v1 L.length (L.map lv)) := Lib.hid (by rw [Nat.zero_add, List.nil_append] at hown1; exact hown1); have Hb1 : Hid (Below w.heap.size w w1) := Lib.hid ((Below.refl _ _).grown hgrow1 (Nat.le_refl _) (fun k e => by cases e)); have hh1 := H.out.head.below Hb1.out; have q3 : w1.cell? ⟨q, 3, none⟩ = some (.int .i64 2) := hh1.cell (i := 3) rfl; have hs1 := Hb1.out.size; clear hown1 hgrow1 hnil1 hat1 hh1) | (at_builtin; refine wpList_append_own_at _ rfl _ _ 31 rfl w.heap.size 3 i0 _ 1 8 Try.underlying31 HI.out HZ0.out HZ1.out HZ2.out rfl (by decide) v1 L.length (L.map lv) rfl (World.ownsRow.alloc Hr1.out _) ⟨w1.heap.size, 0, none⟩ 1 1 [.int .i64 2] rfl rfl (World.news_of_block (t := 3) (fr := (0, 0)) (new_block w1 _)) (by simp [Value.oneCell']) (by unfold maxLen; omega) (by omega) (by have := Hb1.out.size; simp <;> omega) ?_; intro v5 w5 hown5 hgrow5 hnil5 hat5; obtain ⟨g5, cap5, rfl, -, -⟩ := hown5.form (by omega); have hb5 : Below w.heap.size w w5 := (Hb1.out.alloc Hb1.out.size _).grown hgrow5 (Nat.le_trans Hb1.out.size (by simp)) (fun k e => (owns_lt Hr1.out e).1); have hh5 := H.out.head.below hb5; have k4 := hh5.cell (i := 4) rfl; have r4 := hh5.free 4; have hM := Mid.of H.out hb5 (row_snoc (L := L) (x := 2) (by simp) hown5); obtain ⟨m0, m1, m2, m3⟩ := hM.cells; have HM := Lib.hid hM; clear hown5 hgrow5 hnil5 hat5 hb5 hh5 hM))
      have HM6 := Lib.hid (HM.out.below (below_drew1 (Below.refl _ _)))
      clear HM m0 m1 m2 m3
      have hP := HM6.out
      have HK : Hid (∀ V, Mid w V q ⟨f, s, o, 2, a1, a2, a3⟩ (.slice (some ⟨g5, 0, none⟩) (L.length + 1) cap5) (L ++ [2]) → V.cell? ⟨q, 0, none⟩ = some (.int .i64 f) ∧ V.cell? ⟨q, 1, none⟩ = some (.int .i64 s) ∧ V.cell? ⟨q, 2, none⟩ = some (.int .i64 o) ∧ V.cell? ⟨q, 3, none⟩ = some (.int .i64 2)) := Lib.hid (fun V h => h.cells)
      go_region_held3 (fun V => V.cell? ⟨q, 0, none⟩ = some (.int .i64 f) ∧ V.cell? ⟨q, 1, none⟩ = some (.int .i64 s) ∧ V.cell? ⟨q, 2, none⟩ = some (.int .i64 o) ∧ V.cell? ⟨q, 3, none⟩ = some (.int .i64 2)) (first | with_reducible exact HK.out _ hP) (first | (go_at_call 36; (with_reducible refine (HCO.out _ _ hP).mono ?_); rintro e V ⟨rfl, rfl⟩) | (go_at_call 37; (with_reducible refine (HBU.out _ _ hP).mono ?_); rintro e V ⟨rfl, hP⟩))
      all_goals
        have HM := Lib.hid hP
        clear hP HM6
        go_wp2
        have hP := HM.out.below (below_drew1 (Below.refl _ _))
        clear HM
        obtain ⟨m0, m1, m2, m3⟩ := hP.cells
        have wr2 : IntKind.i64.wrap 3 = 3 := by decide
        go_region_law (go_simp; go_at_call 35; (with_reducible refine (HFI.out _ _ hP).mono ?_); rintro e V ⟨rfl, hP⟩; have p3 := hP.head.cell (i := 3) rfl; have r3 := hP.head.free 3)
        all_goals
          have HV := Lib.hid (hP.lane (Ct.from ⟨f, s, o, 2, a1, a2, a3⟩ 3))
          clear hP
          go_wp2
          go_ret2
          exact ⟨by rw [hfl2.out]; rfl, by rw [hfl2.out]; exact Mid.out (mid_with HV.out) H.out.me (HRL.out _)⟩
    · have dge : decide (a2 + 1 < s) = true := by simp; omega
      have dge2 : decide (s ≤ a2 + 1) = false := by simp; omega
      have hfl2 : Hid (Ct.follow (Ct.inc ⟨f, s, o, 2, a1, a2, a3⟩) n = 2) := Lib.hid (by rw [hfl.out, if_neg he])
      clear he
      go_enter Try.func27, Try.ntmps27
      go_wp2_with (first | (at_builtin; refine wpList_append_own_at _ rfl _ _ 31 rfl w.heap.size 3 i0 _ 1 8 Try.underlying31 HI.out HZ0.out HZ1.out HZ2.out rfl (by decide) (.slice none 0 0) 0 [] rfl (World.ownsRow_nil _ _ _ _) ⟨g, 0, none⟩ L.length cap (L.map lv) rfl Hml.out Hat.out Hon.out (by unfold maxLen; omega) (by omega) (Nat.le_refl _) ?_; intro v1 w1 hown1 hgrow1 hnil1 hat1; have Hr1 : Hid (w1.ownsRow w.heap.size 3 1 v1 L.length (L.map lv)) := Lib.hid (by rw [Nat.zero_add, List.nil_append] at hown1; exact hown1); have Hb1 : Hid (Below w.heap.size w w1) := Lib.hid ((Below.refl _ _).grown hgrow1 (Nat.le_refl _) (fun k e => by cases e)); have hh1 := H.out.head.below Hb1.out; have q3 : w1.cell? ⟨q, 3, none⟩ = some (.int .i64 2) := hh1.cell (i := 3) rfl; have hs1 := Hb1.out.size; clear hown1 hgrow1 hnil1 hat1 hh1) | (at_builtin; refine wpList_append_own_at _ rfl _ _ 31 rfl w.heap.size 3 i0 _ 1 8 Try.underlying31 HI.out HZ0.out HZ1.out HZ2.out rfl (by decide) v1 L.length (L.map lv) rfl (World.ownsRow.alloc Hr1.out _) ⟨w1.heap.size, 0, none⟩ 1 1 [.int .i64 2] rfl rfl (World.news_of_block (t := 3) (fr := (0, 0)) (new_block w1 _)) (by simp [Value.oneCell']) (by unfold maxLen; omega) (by omega) (by have := Hb1.out.size; simp <;> omega) ?_; intro v5 w5 hown5 hgrow5 hnil5 hat5; obtain ⟨g5, cap5, rfl, -, -⟩ := hown5.form (by omega); have hb5 : Below w.heap.size w w5 := (Hb1.out.alloc Hb1.out.size _).grown hgrow5 (Nat.le_trans Hb1.out.size (by simp)) (fun k e => (owns_lt Hr1.out e).1); have hh5 := H.out.head.below hb5; have k4 := hh5.cell (i := 4) rfl; have r4 := hh5.free 4; have hM := Mid.of H.out hb5 (row_snoc (L := L) (x := 2) (by simp) hown5); obtain ⟨m0, m1, m2, m3⟩ := hM.cells; have HM := Lib.hid hM; clear hown5 hgrow5 hnil5 hat5 hb5 hh5 hM))
      have HM6 := Lib.hid (HM.out.below (below_drew1 (Below.refl _ _)))
      clear HM m0 m1 m2 m3
      have hP := HM6.out
      have HK : Hid (∀ V, Mid w V q ⟨f, s, o, 2, a1, a2, a3⟩ (.slice (some ⟨g5, 0, none⟩) (L.length + 1) cap5) (L ++ [2]) → V.cell? ⟨q, 0, none⟩ = some (.int .i64 f) ∧ V.cell? ⟨q, 1, none⟩ = some (.int .i64 s) ∧ V.cell? ⟨q, 2, none⟩ = some (.int .i64 o) ∧ V.cell? ⟨q, 3, none⟩ = some (.int .i64 2)) := Lib.hid (fun V h => h.cells)
      go_region_held3 (fun V => V.cell? ⟨q, 0, none⟩ = some (.int .i64 f) ∧ V.cell? ⟨q, 1, none⟩ = some (.int .i64 s) ∧ V.cell? ⟨q, 2, none⟩ = some (.int .i64 o) ∧ V.cell? ⟨q, 3, none⟩ = some (.int .i64 2)) (first | with_reducible exact HK.out _ hP) (first | (go_at_call 36; (with_reducible refine (HCO.out _ _ hP).mono ?_); rintro e V ⟨rfl, rfl⟩) | (go_at_call 37; (with_reducible refine (HBU.out _ _ hP).mono ?_); rintro e V ⟨rfl, hP⟩))
      all_goals
        have HM := Lib.hid hP
        clear hP HM6
        obtain ⟨m0, m1, m2, m3⟩ := HM.out.cells
        go_wp2
        go_ret2
        exact ⟨by rw [hfl2.out]; rfl, by rw [hfl2.out]; exact Mid.out (mid_with HM.out) H.out.me (HRL.out _)⟩

end Go.Proofs.Ytncepiaacadcpaa
