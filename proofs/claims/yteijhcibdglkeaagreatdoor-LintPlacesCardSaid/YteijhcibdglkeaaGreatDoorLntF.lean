/- What is found at a spot. Conditions: those stated in each theorem. -/
import Derived.Test.YteijhcibdglkeaaGreatDoorLntE
namespace Go.Proofs.YteijhcibdglkeaaGreatDoor
open Go.RowKit Go.BigFrame Go.Shelf

theorem and_u64 {a b : Nat} (ha : a < 256) (hb : b < 256) : Go.bits .and .u64 (a : Int) (b : Int) = ((a &&& b : Nat) : Int) := bits_and_u64_nat a b (by omega) (by omega)
theorem readsM_lt {i : In} (hl : legalP i = true) : readsM i < 256 := by
  have hp : ∀ r : Int, r ∈ readsI i → 2 ^ r.toNat < 256 := fun r hr => pow_lt (legal_reads hl hr)
  have h2 : ∀ a b : Nat, a < 256 → b < 256 → a ||| b < 256 := fun a b ha hb => Nat.or_lt_two_pow (n := 8) ha hb
  unfold readsM
  unfold readsI at hp
  by_cases h1 : i.op = 3 ∨ i.op = 11
  · rw [if_pos h1] at hp ⊢; exact hp _ (by simp)
  rw [if_neg h1] at hp ⊢
  by_cases h4 : 4 ≤ i.op ∧ i.op ≤ 10
  · rw [if_pos h4] at hp ⊢; exact h2 _ _ (hp _ (by simp)) (hp _ (by simp))
  rw [if_neg h4] at hp ⊢
  by_cases h5 : i.op = 12 ∨ i.op = 14 ∨ i.op = 15 ∨ i.op = 16
  · rw [if_pos h5] at hp ⊢; exact h2 _ _ (hp _ (by simp)) (hp _ (by simp))
  rw [if_neg h5]; omega
theorem bits_ne {a b : Nat} (ha : a < 256) (hb : b < 256) : (Go.bits .and .u64 (a : Int) (b : Int) != 0) = (a &&& b != 0) := by
  rw [and_u64 ha hb, Bool.eq_iff_iff, bne_iff_ne, bne_iff_ne]; omega
def nineV (v1 v2 v3 v4 v5 v6 v7 : Bool) : List Value := [.bool false, .bool v1, .bool v2, .bool v3, .bool v4, .bool v5, .bool v6, .bool v7, .bool false]
theorem Tryz.sizeFinds : (Tryz.prog.info? 86).map (·.size) = some 9 := by kernel_rfl
theorem Tryz.loadFinds {w : World} {b : Nat} {L : List Value} (h : Holds w b 86 L) (hn : L.length = 9) : (loadVar 86 ⟨b, 0, none⟩).run Tryz.prog w = .ok (.agg L.toArray) w :=
  run_loadVar_mid w b 0 86 L _ h.full Tryz.underlying86 rfl (by rw [hn]; exact Tryz.sizeFinds)

set_option maxRecDepth 100000 in
set_option maxHeartbeats 4000000 in
theorem fa_ill (a : Option Addr) (cap : Nat) (c : List In) (k m : Nat) (op : Int) (ra rb rc imm : Int) (x : Bool) (w : World) (N : Nat) (hN : w.heap.size = N) (hn : c.length ≤ 1024) (hF : FormsAt w) (hr : RowsIn w a 5 In.cells c) (hi : c[k]? = some ⟨op, ra, rb, rc, imm⟩) (hm : m < 256) (hl : legalP ⟨op, ra, rb, rc, imm⟩ = false) (h18 : op ≠ 18) (h17 : op ≠ 17) (h1 : op ≠ 1) :
    Calls Tryz.prog 42 #[.slice a c.length cap, .agg #[.int .i64 (k : Nat), .bool x], .int .u64 (m : Nat)] w fun e w' => e = .returned (.agg (nineV true false false false ((lgo c (k, x)).any (outS c.length)) false false).toArray) ∧ Below N w w' := by
  have hlgo : lgo c (k, x) = lgoI ⟨op, ra, rb, rc, imm⟩ (k, x) := lgo_some hi
  obtain ⟨q, o, rfl, hq, hrow⟩ := hr.row hi
  have hk : k < c.length := (List.getElem?_eq_some_iff.1 hi).1
  have hkk : (0 : Int) ≤ (k : Int) ∧ (k : Int) < (c.length : Int) := by omega
  have HF := Lib.hid (And.intro hF (And.intro hr (And.intro hrow hq))); clear hF hr hrow hq
  have Hn := Lib.hid hn; clear hn
  have Hm := Lib.hid hm; clear hm
  have Hl := Lib.hid (And.intro hl (And.intro hi hlgo)); clear hi hk hlgo
  have f18 : (op == 18) = false := by simpa using h18
  have f17 : (op == 17) = false := by simpa using h17
  have f1 : (op == 1) = false := by simpa using h1
  clear hl
  go_enter Tryz.func42, Tryz.ntmps42
  go_upto_region 1 with fail
  have hb1 : Below N w ((w.alloc (.cells #[.int .i64 (k : Nat), .bool x] 89)).alloc (.cells #[.bool false, .bool false, .bool false, .bool false, .bool false, .bool false, .bool false, .bool false, .bool false] 86)) := ((Below.refl _ w).alloc (by omega) _).alloc (by simp; omega) _
  have p1 : Holds ((w.alloc (.cells #[.int .i64 (k : Nat), .bool x] 89)).alloc (.cells #[.bool false, .bool false, .bool false, .bool false, .bool false, .bool false, .bool false, .bool false, .bool false] 86)) N 89 [.int .i64 (k : Nat), .bool x] := (newAt hN 89 [.int .i64 (k : Nat), .bool x]).alloc _
  have p2 : Holds ((w.alloc (.cells #[.int .i64 (k : Nat), .bool x] 89)).alloc (.cells #[.bool false, .bool false, .bool false, .bool false, .bool false, .bool false, .bool false, .bool false, .bool false] 86)) (N + 1) 86 (nineV false false false false false false false) := newAt (by simp [hN]) 86 (nineV false false false false false false false)
  have hs1 : ((w.alloc (.cells #[.int .i64 (k : Nat), .bool x] 89)).alloc (.cells #[.bool false, .bool false, .bool false, .bool false, .bool false, .bool false, .bool false, .bool false, .bool false] 86)).heap.size = N + 2 := by simp [hN]
  generalize (w.alloc (.cells #[.int .i64 (k : Nat), .bool x] 89)).alloc (.cells #[.bool false, .bool false, .bool false, .bool false, .bool false, .bool false, .bool false, .bool false, .bool false] 86) = w1 at *
  have hbw1 : Below w.heap.size w w1 := by rw [hN]; exact hb1
  have Hr := rangeAt_same HF.out.2.2.1 (hbw1.block q HF.out.2.2.2)
  have e0 := p1.cell (i := 0) rfl
  have r0 : w1.cell? ⟨q, o + k * 5, none⟩ = some (.int .i64 (op)) := Hr 0 _ rfl
  have r1 : w1.cell? ⟨q, o + k * 5 + 1, none⟩ = some (.int .i64 ra) := Hr 1 _ rfl
  have r2 : w1.cell? ⟨q, o + k * 5 + 2, none⟩ = some (.int .i64 rb) := Hr 2 _ rfl
  have r3 : w1.cell? ⟨q, o + k * 5 + 3, none⟩ = some (.int .i64 rc) := Hr 3 _ rfl
  have r4 : w1.cell? ⟨q, o + k * 5 + 4, none⟩ = some (.int .i64 imm) := Hr 4 _ rfl
  have hqi : Holds (w1.alloc (.cells #[.int .i64 (op), .int .i64 ra, .int .i64 rb, .int .i64 rc, .int .i64 imm] 43)) (N + 2) 43 (In.cells ⟨op, ra, rb, rc, imm⟩) := newAt hs1 43 (In.cells ⟨op, ra, rb, rc, imm⟩)
  have hb2 : Below w1.heap.size w1 (w1.alloc (.cells #[.int .i64 (op), .int .i64 ra, .int .i64 rb, .int .i64 rc, .int .i64 imm] 43)) := (Below.refl _ w1).alloc (Nat.le_refl _) _
  have hLg := legal_any ⟨op, ra, rb, rc, imm⟩ _ ((HF.out.1.below hbw1).below hb2)
  rw [Hl.out.1] at hLg
  simp only [In.val] at hLg
  have HLg := Lib.hid hLg; clear hLg
  have HB := Lib.hid (And.intro hbw1 (And.intro p1 (And.intro p2 (And.intro hs1 (And.intro hN (And.intro hqi hb2)))))); clear hb1 hbw1 p1 p2 hqi hb2 Hr
  go_wp2_with (go_at_call 14; refine HLg.out.mono ?_; rintro e w2 ⟨rfl, hb3⟩; refine Hid.out ?_)
  refine Lib.hid ?_
  have hB2 : Below w1.heap.size w1 w2 := HB.out.2.2.2.2.2.2.trans (hb3.mono (by simp))
  have hBw : Below w.heap.size w w2 := HB.out.1.trans (hB2.mono (by rw [hN, hs1]; omega))
  have s1 := HB.out.2.1.below hB2
  have s2 := HB.out.2.2.1.below hB2
  have s3 := HB.out.2.2.2.2.2.1.below hb3
  clear e0 r0 r1 r2 r3 r4 HLg
  have hlt2 := s3.lt
  have HK := Lib.hid (fun (V : World) (h : Tch (fun b => b = N + 1) w2 V) => (show V.cell? ⟨N, 0, none⟩ = some (.int .i64 (k : Nat)) ∧ V.cell? ⟨N, 1, none⟩ = some (.bool x) ∧ V.cell? ⟨N + 2, 0, none⟩ = some (.int .i64 (op)) ∧ V.cell? ⟨N + 2, 1, none⟩ = some (.int .i64 ra) ∧ V.cell? ⟨N + 2, 2, none⟩ = some (.int .i64 rb) ∧ V.cell? ⟨N + 2, 3, none⟩ = some (.int .i64 rc) ∧ V.cell? ⟨N + 2, 4, none⟩ = some (.int .i64 imm) from by
    have t1 := h.holds (b := N) (by omega) s1
    have t3 := h.holds (b := N + 2) (by omega) s3
    exact ⟨t1.cell (i := 0) rfl, t1.cell (i := 1) rfl, t3.cell (i := 0) rfl, t3.cell (i := 1) rfl, t3.cell (i := 2) rfl, t3.cell (i := 3) rfl, t3.cell (i := 4) rfl⟩))
  have HTh := Lib.hid (fun (V : World) (h : Below w2.heap.size w2 V) => (show V.there (N + 1) 0 9 from by
    have t2 := s2.below h
    intro j hj
    rw [Nat.zero_add]
    refine ⟨?_, t2.free j⟩
    rw [t2.cell (i := j) (v := (nineV false false false false false false false)[j]'(by simpa [nineV] using hj)) (List.getElem?_eq_getElem _)]
    rfl))
  have HOut := Lib.hid (fun (V : World) (h : Below w2.heap.size w2 V) => out_any (some ⟨q, o, none⟩) cap c (k, x) V Hn.out (HF.out.1.below (hBw.trans (h.mono hBw.size))) (HF.out.2.1.below (hBw.trans (h.mono hBw.size))))
  have Hs := Lib.hid (And.intro s1 (And.intro s2 (And.intro s3 hBw))); clear s1 s2 s3 hBw hB2 hb3 hlt2
  generalize hob : (lgo c (k, x)).any (outS c.length) = ob at HOut
  have Hob := Lib.hid hob; clear hob
  go_wp2_with fail
  refine wp_region_held_drew (S := fun V => V.cell? ⟨N, 0, none⟩ = some (.int .i64 (k : Nat)) ∧ V.cell? ⟨N, 1, none⟩ = some (.bool x) ∧ V.cell? ⟨N + 2, 0, none⟩ = some (.int .i64 (op)) ∧ V.cell? ⟨N + 2, 1, none⟩ = some (.int .i64 ra) ∧ V.cell? ⟨N + 2, 2, none⟩ = some (.int .i64 rb) ∧ V.cell? ⟨N + 2, 3, none⟩ = some (.int .i64 rc) ∧ V.cell? ⟨N + 2, 4, none⟩ = some (.int .i64 imm)) (by kernel_rfl) (HK.out _ (Tch.of_idle (below_drewN (Below.refl _ w2) 1))) (fun hHeld => ?_)
  have hD : Below w2.heap.size w2 w2.drew := below_drewN (Below.refl _ w2) 1
  refine takeD (i := 0) (d := 16) (v := .bool false) rfl rfl (by kernel_rfl) (by kernel_rfl) (by kernel_rfl) (fun _ _ _ h => h) (Or.inl ⟨by rfl, ?_⟩) (by assumption) ?_
  · intro V hSw; (try dsimp only at hSw); go_simp
  simp only [List.setIfInBounds_toArray, List.set_cons_zero, List.set_cons_succ]
  refine takeD (i := 1) (d := 17) (v := .bool true) rfl rfl (by kernel_rfl) (by kernel_rfl) (by kernel_rfl) (fun _ _ _ h => h) (Or.inl ⟨by rfl, ?_⟩) (by assumption) ?_
  · intro V hSw; (try dsimp only at hSw); go_simp
  simp only [List.setIfInBounds_toArray, List.set_cons_zero, List.set_cons_succ]
  refine takeD (i := 2) (d := 18) (v := .pointer (some ⟨N + 2, 0, none⟩)) rfl rfl (by kernel_rfl) (by kernel_rfl) (by kernel_rfl) (fun _ _ _ h => h) (Or.inl ⟨by rfl, ?_⟩) (by assumption) ?_
  · intro V hSw; (try dsimp only at hSw); go_simp
  simp only [List.setIfInBounds_toArray, List.set_cons_zero, List.set_cons_succ]
  refine takeD (i := 3) (d := 19) (v := .int .i64 (op)) rfl rfl (by kernel_rfl) (by kernel_rfl) (by kernel_rfl) (fun _ _ _ h => h) (Or.inl ⟨by rfl, ?_⟩) (by assumption) ?_
  · intro V hSw; (try dsimp only at hSw); go_simp
  simp only [List.setIfInBounds_toArray, List.set_cons_zero, List.set_cons_succ]
  refine takeD (i := 4) (d := 20) (v := .bool false) rfl rfl (by kernel_rfl) (by kernel_rfl) (by kernel_rfl) (fun _ _ _ h => h) (Or.inl ⟨by rfl, ?_⟩) (by assumption) ?_
  · intro V hSw; (try dsimp only at hSw); go_simp
  simp only [List.setIfInBounds_toArray, List.set_cons_zero, List.set_cons_succ]
  refine takeD (i := 5) (d := 21) (v := .bool false) rfl rfl (by kernel_rfl) (by kernel_rfl) (by kernel_rfl) (fun _ _ _ h => h) (Or.inl ⟨by rfl, ?_⟩) (by assumption) ?_
  · intro V hSw; (try dsimp only at hSw); go_simp
  simp only [List.setIfInBounds_toArray, List.set_cons_zero, List.set_cons_succ]
  refine takeD (i := 6) (d := 22) (v := undef) rfl rfl (by kernel_rfl) (by kernel_rfl) (by kernel_rfl) (fun _ _ _ h => h) (Or.inr ⟨by rfl, rfl⟩) (by assumption) ?_
  simp only [List.setIfInBounds_toArray, List.set_cons_zero, List.set_cons_succ]
  refine takeD (i := 7) (d := 23) (v := undef) rfl rfl (by kernel_rfl) (by kernel_rfl) (by kernel_rfl) (fun _ _ _ h => h) (Or.inr ⟨by rfl, rfl⟩) (by assumption) ?_
  simp only [List.setIfInBounds_toArray, List.set_cons_zero, List.set_cons_succ]
  refine takeD (i := 8) (d := 24) (v := undef) rfl rfl (by kernel_rfl) (by kernel_rfl) (by kernel_rfl) (fun _ _ _ h => h) (Or.inr ⟨by rfl, rfl⟩) (by assumption) ?_
  simp only [List.setIfInBounds_toArray, List.set_cons_zero, List.set_cons_succ]
  refine takeD (i := 9) (d := 25) (v := .bool false) rfl rfl (by kernel_rfl) (by kernel_rfl) (by kernel_rfl) (fun _ _ _ h => h) (Or.inl ⟨by rfl, ?_⟩) (by assumption) ?_
  · intro V hSw; (try dsimp only at hSw); go_simp
  simp only [List.setIfInBounds_toArray, List.set_cons_zero, List.set_cons_succ]
  refine takeD (i := 10) (d := 26) (v := .pointer (some ⟨N + 2, 0, none⟩)) rfl rfl (by kernel_rfl) (by kernel_rfl) (by kernel_rfl) (fun _ _ _ h => h) (Or.inl ⟨by rfl, ?_⟩) (by assumption) ?_
  · intro V hSw; (try dsimp only at hSw); go_simp
  simp only [List.setIfInBounds_toArray, List.set_cons_zero, List.set_cons_succ]
  refine takeD (i := 11) (d := 27) (v := .int .i64 (op)) rfl rfl (by kernel_rfl) (by kernel_rfl) (by kernel_rfl) (fun _ _ _ h => h) (Or.inl ⟨by rfl, ?_⟩) (by assumption) ?_
  · intro V hSw; (try dsimp only at hSw); go_simp
  simp only [List.setIfInBounds_toArray, List.set_cons_zero, List.set_cons_succ]
  refine takeD (i := 12) (d := 28) (v := .bool false) rfl rfl (by kernel_rfl) (by kernel_rfl) (by kernel_rfl) (fun _ _ _ h => h) (Or.inl ⟨by rfl, ?_⟩) (by assumption) ?_
  · intro V hSw; (try dsimp only at hSw); go_simp
  simp only [List.setIfInBounds_toArray, List.set_cons_zero, List.set_cons_succ]
  refine takeD (i := 13) (d := 29) (v := .bool false) rfl rfl (by kernel_rfl) (by kernel_rfl) (by kernel_rfl) (fun _ _ _ h => h) (Or.inl ⟨by rfl, ?_⟩) (by assumption) ?_
  · intro V hSw; (try dsimp only at hSw); go_simp
  simp only [List.setIfInBounds_toArray, List.set_cons_zero, List.set_cons_succ]
  refine takeD (i := 14) (d := 30) (v := undef) rfl rfl (by kernel_rfl) (by kernel_rfl) (by kernel_rfl) (fun _ _ _ h => h) (Or.inr ⟨by rfl, rfl⟩) (by assumption) ?_
  simp only [List.setIfInBounds_toArray, List.set_cons_zero, List.set_cons_succ]
  refine takeD (i := 15) (d := 31) (v := undef) rfl rfl (by kernel_rfl) (by kernel_rfl) (by kernel_rfl) (fun _ _ _ h => h) (Or.inr ⟨by rfl, rfl⟩) (by assumption) ?_
  simp only [List.setIfInBounds_toArray, List.set_cons_zero, List.set_cons_succ]
  refine takeD (i := 16) (d := 32) (v := .bool false) rfl rfl (by kernel_rfl) (by kernel_rfl) (by kernel_rfl) (fun _ _ _ h => h) (Or.inl ⟨by rfl, ?_⟩) (by assumption) ?_
  · intro V hSw; (try dsimp only at hSw); go_simp
  simp only [List.setIfInBounds_toArray, List.set_cons_zero, List.set_cons_succ]
  refine takeD (i := 17) (d := 33) (v := .pointer (some ⟨N + 2, 0, none⟩)) rfl rfl (by kernel_rfl) (by kernel_rfl) (by kernel_rfl) (fun _ _ _ h => h) (Or.inl ⟨by rfl, ?_⟩) (by assumption) ?_
  · intro V hSw; (try dsimp only at hSw); go_simp
  simp only [List.setIfInBounds_toArray, List.set_cons_zero, List.set_cons_succ]
  refine takeD (i := 18) (d := 34) (v := .int .i64 (op)) rfl rfl (by kernel_rfl) (by kernel_rfl) (by kernel_rfl) (fun _ _ _ h => h) (Or.inl ⟨by rfl, ?_⟩) (by assumption) ?_
  · intro V hSw; (try dsimp only at hSw); go_simp
  simp only [List.setIfInBounds_toArray, List.set_cons_zero, List.set_cons_succ]
  refine takeD (i := 19) (d := 35) (v := .bool false) rfl rfl (by kernel_rfl) (by kernel_rfl) (by kernel_rfl) (fun _ _ _ h => h) (Or.inl ⟨by rfl, ?_⟩) (by assumption) ?_
  · intro V hSw; (try dsimp only at hSw); go_simp
  simp only [List.setIfInBounds_toArray, List.set_cons_zero, List.set_cons_succ]
  refine takeD (i := 20) (d := 36) (v := .bool false) rfl rfl (by kernel_rfl) (by kernel_rfl) (by kernel_rfl) (fun _ _ _ h => h) (Or.inl ⟨by rfl, ?_⟩) (by assumption) ?_
  · intro V hSw; (try dsimp only at hSw); go_simp
  simp only [List.setIfInBounds_toArray, List.set_cons_zero, List.set_cons_succ]
  refine takeD (i := 21) (d := 37) (v := undef) rfl rfl (by kernel_rfl) (by kernel_rfl) (by kernel_rfl) (fun _ _ _ h => h) (Or.inr ⟨by rfl, rfl⟩) (by assumption) ?_
  simp only [List.setIfInBounds_toArray, List.set_cons_zero, List.set_cons_succ]
  refine takeD (i := 22) (d := 38) (v := undef) rfl rfl (by kernel_rfl) (by kernel_rfl) (by kernel_rfl) (fun _ _ _ h => h) (Or.inr ⟨by rfl, rfl⟩) (by assumption) ?_
  simp only [List.setIfInBounds_toArray, List.set_cons_zero, List.set_cons_succ]
  refine takeD (i := 23) (d := 39) (v := .bool false) rfl rfl (by kernel_rfl) (by kernel_rfl) (by kernel_rfl) (fun _ _ _ h => h) (Or.inl ⟨by rfl, ?_⟩) (by assumption) ?_
  · intro V hSw; (try dsimp only at hSw); go_simp
  simp only [List.setIfInBounds_toArray, List.set_cons_zero, List.set_cons_succ]
  refine takeD (i := 24) (d := 40) (v := .slice (some ⟨q, o, none⟩) c.length cap) rfl rfl (by kernel_rfl) (by kernel_rfl) (by kernel_rfl) (fun _ _ _ h => h) (Or.inl ⟨by rfl, ?_⟩) (by assumption) ?_
  · intro V hSw; (try dsimp only at hSw); go_simp
  simp only [List.setIfInBounds_toArray, List.set_cons_zero, List.set_cons_succ]
  refine takeD (i := 25) (d := 41) (v := .agg #[.int .i64 (k : Nat), .bool x]) rfl rfl (by kernel_rfl) (by kernel_rfl) (by kernel_rfl) (fun _ _ _ h => h) (Or.inl ⟨by rfl, ?_⟩) (by assumption) ?_
  · intro V hSw; (try dsimp only at hSw); go_simp
  simp only [List.setIfInBounds_toArray, List.set_cons_zero, List.set_cons_succ]
  refine takeD (i := 27) (d := 43) (v := .bool false) rfl rfl (by kernel_rfl) (by kernel_rfl) (by kernel_rfl) (fun _ _ _ h => h) (Or.inl ⟨by rfl, ?_⟩) (by assumption) ?_
  · intro V hSw; (try dsimp only at hSw); go_simp
  simp only [List.setIfInBounds_toArray, List.set_cons_zero, List.set_cons_succ]
  refine takeD (i := 39) (d := 55) (v := .bool false) rfl rfl (by kernel_rfl) (by kernel_rfl) (by kernel_rfl) (fun _ _ _ h => h) (Or.inl ⟨by rfl, ?_⟩) (by assumption) ?_
  · intro V hSw; (try dsimp only at hSw); go_simp
  simp only [List.setIfInBounds_toArray, List.set_cons_zero, List.set_cons_succ]
  refine wpAnyH_ready (rs := [26]) (by kernel_rfl) (by simp) ?_
  refine AllReadyH.cons (o := { dst := some 42, op := Op.call { callee := Callee.value (Operand.func 61), args := #[Operand.tmp 40, Operand.tmp 41], argTypes := #[31, 89] }, type := 4, pos := "found.go:54", after := #[{ on := 24, ground := Ground.data }, { on := 25, ground := Ground.data }, { on := 20, ground := Ground.chain }], guard := none }) rfl (fun K hK => ?_) AllReadyH.nil
  go_simp
  refine (HOut.out _ hD).mono ?_
  rintro e V1 ⟨rfl, hb⟩
  have hD1 := hD.trans (hb.mono hD.size)
  clear hb hD
  have hD := hD1
  clear hD1
  refine hK.out _ _ (HK.out _ (Tch.of_idle hD)) (fun hHeld2 => ?_)
  clear hK
  try simp only [Act.put, List.setIfInBounds_toArray, List.set_cons_zero, List.set_cons_succ]
  refine takeD (i := 28) (d := 44) (v := .bool false) rfl rfl (by kernel_rfl) (by kernel_rfl) (by kernel_rfl) (fun _ _ _ h => h) (Or.inl ⟨by rfl, ?_⟩) (by assumption) ?_
  · intro V hSw; (try dsimp only at hSw); go_simp
  simp only [List.setIfInBounds_toArray, List.set_cons_zero, List.set_cons_succ]
  refine takeD (i := 29) (d := 45) (v := undef) rfl rfl (by kernel_rfl) (by kernel_rfl) (by kernel_rfl) (fun _ _ _ h => h) (Or.inr ⟨by rfl, rfl⟩) (by assumption) ?_
  simp only [List.setIfInBounds_toArray, List.set_cons_zero, List.set_cons_succ]
  refine takeD (i := 30) (d := 46) (v := undef) rfl rfl (by kernel_rfl) (by kernel_rfl) (by kernel_rfl) (fun _ _ _ h => h) (Or.inr ⟨by rfl, rfl⟩) (by assumption) ?_
  simp only [List.setIfInBounds_toArray, List.set_cons_zero, List.set_cons_succ]
  refine wpAnyH_ready (rs := [31]) (by kernel_rfl) (by simp) ?_
  refine AllReadyH.cons (o := { dst := some 47, op := Op.call { callee := Callee.value (Operand.func 62), args := #[Operand.tmp 46], argTypes := #[3] }, type := 4, pos := "found.go:55", after := #[{ on := 30, ground := Ground.data }, { on := 28, ground := Ground.chain }, { on := 28, ground := Ground.guard }], guard := some (28, true) }) rfl (fun K hK => ?_) AllReadyH.nil
  go_simp
  refine hK.out _ _ (HK.out _ (Tch.of_idle hD)) (fun hHeld2 => ?_)
  clear hK
  try simp only [Act.put, List.setIfInBounds_toArray, List.set_cons_zero, List.set_cons_succ]
  refine takeD (i := 32) (d := 48) (v := .bool false) rfl rfl (by kernel_rfl) (by kernel_rfl) (by kernel_rfl) (fun _ _ _ h => h) (Or.inl ⟨by rfl, ?_⟩) (by assumption) ?_
  · intro V hSw; (try dsimp only at hSw); go_simp
  simp only [List.setIfInBounds_toArray, List.set_cons_zero, List.set_cons_succ]
  refine takeD (i := 33) (d := 49) (v := .bool false) rfl rfl (by kernel_rfl) (by kernel_rfl) (by kernel_rfl) (fun _ _ _ h => h) (Or.inl ⟨by rfl, ?_⟩) (by assumption) ?_
  · intro V hSw; (try dsimp only at hSw); go_simp
  simp only [List.setIfInBounds_toArray, List.set_cons_zero, List.set_cons_succ]
  refine takeD (i := 34) (d := 50) (v := undef) rfl rfl (by kernel_rfl) (by kernel_rfl) (by kernel_rfl) (fun _ _ _ h => h) (Or.inr ⟨by rfl, rfl⟩) (by assumption) ?_
  simp only [List.setIfInBounds_toArray, List.set_cons_zero, List.set_cons_succ]
  refine takeD (i := 35) (d := 51) (v := undef) rfl rfl (by kernel_rfl) (by kernel_rfl) (by kernel_rfl) (fun _ _ _ h => h) (Or.inr ⟨by rfl, rfl⟩) (by assumption) ?_
  simp only [List.setIfInBounds_toArray, List.set_cons_zero, List.set_cons_succ]
  refine wpAnyH_ready (rs := [36]) (by kernel_rfl) (by simp) ?_
  refine AllReadyH.cons (o := { dst := some 52, op := Op.call { callee := Callee.value (Operand.func 45), args := #[Operand.tmp 51], argTypes := #[3] }, type := 4, pos := "found.go:55", after := #[{ on := 35, ground := Ground.data }, { on := 33, ground := Ground.chain }, { on := 33, ground := Ground.guard }], guard := some (33, true) }) rfl (fun K hK => ?_) AllReadyH.nil
  go_simp
  refine hK.out _ _ (HK.out _ (Tch.of_idle hD)) (fun hHeld2 => ?_)
  clear hK
  try simp only [Act.put, List.setIfInBounds_toArray, List.set_cons_zero, List.set_cons_succ]
  refine takeD (i := 37) (d := 53) (v := undef) rfl rfl (by kernel_rfl) (by kernel_rfl) (by kernel_rfl) (fun _ _ _ h => h) (Or.inr ⟨by rfl, rfl⟩) (by assumption) ?_
  simp only [List.setIfInBounds_toArray, List.set_cons_zero, List.set_cons_succ]
  refine takeD (i := 38) (d := 54) (v := .bool false) rfl rfl (by kernel_rfl) (by kernel_rfl) (by kernel_rfl) (fun _ _ _ h => h) (Or.inl ⟨by rfl, ?_⟩) (by assumption) ?_
  · intro V hSw; (try dsimp only at hSw); go_simp
  simp only [List.setIfInBounds_toArray, List.set_cons_zero, List.set_cons_succ]
  refine takeD (i := 40) (d := 56) (v := .bool false) rfl rfl (by kernel_rfl) (by kernel_rfl) (by kernel_rfl) (fun _ _ _ h => h) (Or.inl ⟨by rfl, ?_⟩) (by assumption) ?_
  · intro V hSw; (try dsimp only at hSw); go_simp
  simp only [List.setIfInBounds_toArray, List.set_cons_zero, List.set_cons_succ]
  refine takeD (i := 41) (d := 57) (v := undef) rfl rfl (by kernel_rfl) (by kernel_rfl) (by kernel_rfl) (fun _ _ _ h => h) (Or.inr ⟨by rfl, rfl⟩) (by assumption) ?_
  simp only [List.setIfInBounds_toArray, List.set_cons_zero, List.set_cons_succ]
  refine takeD (i := 43) (d := 59) (v := undef) rfl rfl (by kernel_rfl) (by kernel_rfl) (by kernel_rfl) (fun _ _ _ h => h) (Or.inr ⟨by rfl, rfl⟩) (by assumption) ?_
  simp only [List.setIfInBounds_toArray, List.set_cons_zero, List.set_cons_succ]
  refine wpAnyH_ready (rs := [42]) (by kernel_rfl) (by simp) ?_
  refine AllReadyH.cons (o := { dst := some 58, op := Op.call { callee := Callee.value (Operand.func 63), args := #[Operand.tmp 57], argTypes := #[43] }, type := 91, pos := "found.go:56", after := #[{ on := 41, ground := Ground.data }, { on := 40, ground := Ground.chain }, { on := 40, ground := Ground.guard }], guard := some (40, true) }) rfl (fun K hK => ?_) AllReadyH.nil
  go_simp
  refine hK.out _ _ (HK.out _ (Tch.of_idle hD)) (fun hHeld2 => ?_)
  clear hK
  try simp only [Act.put, List.setIfInBounds_toArray, List.set_cons_zero, List.set_cons_succ]
  refine takeD (i := 44) (d := 60) (v := undef) rfl rfl (by kernel_rfl) (by kernel_rfl) (by kernel_rfl) (fun _ _ _ h => h) (Or.inr ⟨by rfl, rfl⟩) (by assumption) ?_
  simp only [List.setIfInBounds_toArray, List.set_cons_zero, List.set_cons_succ]
  refine takeD (i := 45) (d := 61) (v := undef) rfl rfl (by kernel_rfl) (by kernel_rfl) (by kernel_rfl) (fun _ _ _ h => h) (Or.inr ⟨by rfl, rfl⟩) (by assumption) ?_
  simp only [List.setIfInBounds_toArray, List.set_cons_zero, List.set_cons_succ]
  refine takeD (i := 46) (d := 62) (v := .bool false) rfl rfl (by kernel_rfl) (by kernel_rfl) (by kernel_rfl) (fun _ _ _ h => h) (Or.inl ⟨by rfl, ?_⟩) (by assumption) ?_
  · intro V hSw; (try dsimp only at hSw); go_simp
  simp only [List.setIfInBounds_toArray, List.set_cons_zero, List.set_cons_succ]
  refine takeD (i := 47) (d := 63) (v := .agg #[.bool false, .bool true, .bool false, .bool false, .bool false, .bool ob, .bool false, .bool false, .bool false]) rfl rfl (by kernel_rfl) (by kernel_rfl) (by kernel_rfl) (fun _ _ _ h => h) (Or.inl ⟨by rfl, ?_⟩) (by assumption) ?_
  · intro V hSw; (try dsimp only at hSw); go_simp
  simp only [List.setIfInBounds_toArray, List.set_cons_zero, List.set_cons_succ]
  have hth := HTh.out _ hD
  have hone : ∀ v ∈ ([.bool false, .bool true, .bool false, .bool false, .bool false, .bool ob, .bool false, .bool false, .bool false] : List Value), v.oneCell' = true := by simp [Value.oneCell']
  refine wpAnyH_ready (rs := [48]) (by kernel_rfl) (by simp) ?_
  refine AllReadyH.cons (o := { dst := none, op := Op.store 86 (Operand.tmp 6) (Operand.tmp 63), type := 0, pos := "found.go:49", after := #[{ on := 47, ground := Ground.data }, { on := 42, ground := Ground.chain }, { on := 0, ground := Ground.phase }, { on := 1, ground := Ground.phase }, { on := 2, ground := Ground.phase }, { on := 3, ground := Ground.phase }, { on := 4, ground := Ground.phase }, { on := 5, ground := Ground.phase }, { on := 6, ground := Ground.phase }, { on := 7, ground := Ground.phase }, { on := 8, ground := Ground.phase }, { on := 9, ground := Ground.phase }, { on := 10, ground := Ground.phase }, { on := 11, ground := Ground.phase }, { on := 12, ground := Ground.phase }, { on := 13, ground := Ground.phase }, { on := 14, ground := Ground.phase }, { on := 15, ground := Ground.phase }, { on := 16, ground := Ground.phase }, { on := 17, ground := Ground.phase }, { on := 18, ground := Ground.phase }, { on := 19, ground := Ground.phase }, { on := 20, ground := Ground.phase }, { on := 21, ground := Ground.phase }, { on := 22, ground := Ground.phase }, { on := 23, ground := Ground.phase }, { on := 24, ground := Ground.phase }, { on := 25, ground := Ground.phase }, { on := 26, ground := Ground.phase }, { on := 27, ground := Ground.phase }, { on := 28, ground := Ground.phase }, { on := 29, ground := Ground.phase }, { on := 30, ground := Ground.phase }, { on := 31, ground := Ground.phase }, { on := 32, ground := Ground.phase }, { on := 33, ground := Ground.phase }, { on := 34, ground := Ground.phase }, { on := 35, ground := Ground.phase }, { on := 36, ground := Ground.phase }, { on := 37, ground := Ground.phase }, { on := 38, ground := Ground.phase }, { on := 39, ground := Ground.phase }, { on := 40, ground := Ground.phase }, { on := 41, ground := Ground.phase }, { on := 42, ground := Ground.phase }, { on := 43, ground := Ground.phase }, { on := 44, ground := Ground.phase }, { on := 45, ground := Ground.phase }, { on := 46, ground := Ground.phase }, { on := 47, ground := Ground.phase }], guard := none }) rfl (fun K hK => ?_) AllReadyH.nil
  rw [if_pos (by rfl)]
  refine wp_store_mid _ _ _ rfl _ _ (List.toArray _) rfl rfl (by simpa using hth) ?_ (all_oneCell_toArray hone) ?_
  · first | exact Tryz.sizeFinds | simp [Tryz.sizeFinds]
  simp only [Act.put, List.toList_toArray]
  refine hK.out _ _ (HK.out _ (Tch.setCells (C := fun b => b = N + 1) (.inl rfl) _ _ (Tch.of_idle hD))) (fun hHeld2 => ?_)
  refine wpAnyH_done (by kernel_rfl) ?_ _
  have hret := Holds.sets [.bool false, .bool true, .bool false, .bool false, .bool false, .bool ob, .bool false, .bool false, .bool false] 0 (Hs.out.2.1.below hD)
  go_wp2_with fail
  have hfinal := below_cells (B := N) (b := N + 1) (by omega) [.bool false, .bool true, .bool false, .bool false, .bool false, .bool ob, .bool false, .bool false, .bool false] 0 _ ((show Below N w w2 by rw [← hN]; exact Hs.out.2.2.2).trans (hD.mono (by have := Hs.out.2.2.1.lt; omega)))
  refine bodyPost_ret (results_c rfl rfl (Tryz.loadFinds hret rfl)) rfl ⟨?_, hfinal⟩
  
  rw [Hob.out]
  rfl

set_option maxRecDepth 100000 in
set_option maxHeartbeats 4000000 in
theorem fa_18 (a : Option Addr) (cap : Nat) (c : List In) (k m : Nat) (ra rb rc imm : Int) (x : Bool) (w : World) (N : Nat) (hN : w.heap.size = N) (hn : c.length ≤ 1024) (hF : FormsAt w) (hr : RowsIn w a 5 In.cells c) (hi : c[k]? = some ⟨18, ra, rb, rc, imm⟩) (hm : m < 256) (hl : legalP ⟨18, ra, rb, rc, imm⟩ = true) :
    Calls Tryz.prog 42 #[.slice a c.length cap, .agg #[.int .i64 (k : Nat), .bool x], .int .u64 (m : Nat)] w fun e w' => e = .returned (.agg (nineV false (!x) false false ((lgo c (k, x)).any (outS c.length)) false ((readsM ⟨18, ra, rb, rc, imm⟩ &&& m) != 0)).toArray) ∧ Below N w w' := by
  have hlgo : lgo c (k, x) = lgoI ⟨18, ra, rb, rc, imm⟩ (k, x) := lgo_some hi
  obtain ⟨q, o, rfl, hq, hrow⟩ := hr.row hi
  have hk : k < c.length := (List.getElem?_eq_some_iff.1 hi).1
  have hkk : (0 : Int) ≤ (k : Int) ∧ (k : Int) < (c.length : Int) := by omega
  have HF := Lib.hid (And.intro hF (And.intro hr (And.intro hrow hq))); clear hF hr hrow hq
  have Hn := Lib.hid hn; clear hn
  have Hm := Lib.hid hm; clear hm
  have Hl := Lib.hid (And.intro hl (And.intro hi hlgo)); clear hi hk hlgo
  have hBr := fun (V : World) => bran_any (18) V
  rw [show (decide ((13 : Int) ≤ 18) && decide ((18 : Int) ≤ 16)) = false from by decide] at hBr
  have HBr := Lib.hid hBr; clear hBr
  have hPl := fun (V : World) => isPl_any imm V
  have HPl := Lib.hid hPl; clear hPl
  clear hl
  go_enter Tryz.func42, Tryz.ntmps42
  go_upto_region 1 with fail
  have hb1 : Below N w ((w.alloc (.cells #[.int .i64 (k : Nat), .bool x] 89)).alloc (.cells #[.bool false, .bool false, .bool false, .bool false, .bool false, .bool false, .bool false, .bool false, .bool false] 86)) := ((Below.refl _ w).alloc (by omega) _).alloc (by simp; omega) _
  have p1 : Holds ((w.alloc (.cells #[.int .i64 (k : Nat), .bool x] 89)).alloc (.cells #[.bool false, .bool false, .bool false, .bool false, .bool false, .bool false, .bool false, .bool false, .bool false] 86)) N 89 [.int .i64 (k : Nat), .bool x] := (newAt hN 89 [.int .i64 (k : Nat), .bool x]).alloc _
  have p2 : Holds ((w.alloc (.cells #[.int .i64 (k : Nat), .bool x] 89)).alloc (.cells #[.bool false, .bool false, .bool false, .bool false, .bool false, .bool false, .bool false, .bool false, .bool false] 86)) (N + 1) 86 (nineV false false false false false false false) := newAt (by simp [hN]) 86 (nineV false false false false false false false)
  have hs1 : ((w.alloc (.cells #[.int .i64 (k : Nat), .bool x] 89)).alloc (.cells #[.bool false, .bool false, .bool false, .bool false, .bool false, .bool false, .bool false, .bool false, .bool false] 86)).heap.size = N + 2 := by simp [hN]
  generalize (w.alloc (.cells #[.int .i64 (k : Nat), .bool x] 89)).alloc (.cells #[.bool false, .bool false, .bool false, .bool false, .bool false, .bool false, .bool false, .bool false, .bool false] 86) = w1 at *
  have hbw1 : Below w.heap.size w w1 := by rw [hN]; exact hb1
  have Hr := rangeAt_same HF.out.2.2.1 (hbw1.block q HF.out.2.2.2)
  have e0 := p1.cell (i := 0) rfl
  have r0 : w1.cell? ⟨q, o + k * 5, none⟩ = some (.int .i64 (18)) := Hr 0 _ rfl
  have r1 : w1.cell? ⟨q, o + k * 5 + 1, none⟩ = some (.int .i64 ra) := Hr 1 _ rfl
  have r2 : w1.cell? ⟨q, o + k * 5 + 2, none⟩ = some (.int .i64 rb) := Hr 2 _ rfl
  have r3 : w1.cell? ⟨q, o + k * 5 + 3, none⟩ = some (.int .i64 rc) := Hr 3 _ rfl
  have r4 : w1.cell? ⟨q, o + k * 5 + 4, none⟩ = some (.int .i64 imm) := Hr 4 _ rfl
  have hqi : Holds (w1.alloc (.cells #[.int .i64 (18), .int .i64 ra, .int .i64 rb, .int .i64 rc, .int .i64 imm] 43)) (N + 2) 43 (In.cells ⟨18, ra, rb, rc, imm⟩) := newAt hs1 43 (In.cells ⟨18, ra, rb, rc, imm⟩)
  have hb2 : Below w1.heap.size w1 (w1.alloc (.cells #[.int .i64 (18), .int .i64 ra, .int .i64 rb, .int .i64 rc, .int .i64 imm] 43)) := (Below.refl _ w1).alloc (Nat.le_refl _) _
  have hLg := legal_any ⟨18, ra, rb, rc, imm⟩ _ ((HF.out.1.below hbw1).below hb2)
  rw [Hl.out.1] at hLg
  simp only [In.val] at hLg
  have HLg := Lib.hid hLg; clear hLg
  have HB := Lib.hid (And.intro hbw1 (And.intro p1 (And.intro p2 (And.intro hs1 (And.intro hN (And.intro hqi hb2)))))); clear hb1 hbw1 p1 p2 hqi hb2 Hr
  go_wp2_with (go_at_call 14; refine HLg.out.mono ?_; rintro e w2 ⟨rfl, hb3⟩; refine Hid.out ?_)
  refine Lib.hid ?_
  have hB2 : Below w1.heap.size w1 w2 := HB.out.2.2.2.2.2.2.trans (hb3.mono (by simp))
  have hBw : Below w.heap.size w w2 := HB.out.1.trans (hB2.mono (by rw [hN, hs1]; omega))
  have s1 := HB.out.2.1.below hB2
  have s2 := HB.out.2.2.1.below hB2
  have s3 := HB.out.2.2.2.2.2.1.below hb3
  clear e0 r0 r1 r2 r3 r4 HLg
  have hlt2 := s3.lt
  have HK := Lib.hid (fun (V : World) (h : Tch (fun b => b = N + 1) w2 V) => (show V.cell? ⟨N, 0, none⟩ = some (.int .i64 (k : Nat)) ∧ V.cell? ⟨N, 1, none⟩ = some (.bool x) ∧ V.cell? ⟨N + 2, 0, none⟩ = some (.int .i64 (18)) ∧ V.cell? ⟨N + 2, 1, none⟩ = some (.int .i64 ra) ∧ V.cell? ⟨N + 2, 2, none⟩ = some (.int .i64 rb) ∧ V.cell? ⟨N + 2, 3, none⟩ = some (.int .i64 rc) ∧ V.cell? ⟨N + 2, 4, none⟩ = some (.int .i64 imm) from by
    have t1 := h.holds (b := N) (by omega) s1
    have t3 := h.holds (b := N + 2) (by omega) s3
    exact ⟨t1.cell (i := 0) rfl, t1.cell (i := 1) rfl, t3.cell (i := 0) rfl, t3.cell (i := 1) rfl, t3.cell (i := 2) rfl, t3.cell (i := 3) rfl, t3.cell (i := 4) rfl⟩))
  have HTh := Lib.hid (fun (V : World) (h : Below w2.heap.size w2 V) => (show V.there (N + 1) 0 9 from by
    have t2 := s2.below h
    intro j hj
    rw [Nat.zero_add]
    refine ⟨?_, t2.free j⟩
    rw [t2.cell (i := j) (v := (nineV false false false false false false false)[j]'(by simpa [nineV] using hj)) (List.getElem?_eq_getElem _)]
    rfl))
  have HOut := Lib.hid (fun (V : World) (h : Below w2.heap.size w2 V) => out_any (some ⟨q, o, none⟩) cap c (k, x) V Hn.out (HF.out.1.below (hBw.trans (h.mono hBw.size))) (HF.out.2.1.below (hBw.trans (h.mono hBw.size))))
  have hRd := fun (V : World) => reads_any ⟨18, ra, rb, rc, imm⟩ V Hl.out.1
  simp only [In.val] at hRd
  have HRd := Lib.hid hRd; clear hRd
  have Hs := Lib.hid (And.intro s1 (And.intro s2 (And.intro s3 hBw))); clear s1 s2 s3 hBw hB2 hb3 hlt2
  generalize hob : (lgo c (k, x)).any (outS c.length) = ob at HOut
  have Hob := Lib.hid hob; clear hob
  go_wp2_with fail
  refine wp_region_held_drew (S := fun V => V.cell? ⟨N, 0, none⟩ = some (.int .i64 (k : Nat)) ∧ V.cell? ⟨N, 1, none⟩ = some (.bool x) ∧ V.cell? ⟨N + 2, 0, none⟩ = some (.int .i64 (18)) ∧ V.cell? ⟨N + 2, 1, none⟩ = some (.int .i64 ra) ∧ V.cell? ⟨N + 2, 2, none⟩ = some (.int .i64 rb) ∧ V.cell? ⟨N + 2, 3, none⟩ = some (.int .i64 rc) ∧ V.cell? ⟨N + 2, 4, none⟩ = some (.int .i64 imm)) (by kernel_rfl) (HK.out _ (Tch.of_idle (below_drewN (Below.refl _ w2) 1))) (fun hHeld => ?_)
  have hD : Below w2.heap.size w2 w2.drew := below_drewN (Below.refl _ w2) 1
  refine takeD (i := 0) (d := 16) (v := .bool true) rfl rfl (by kernel_rfl) (by kernel_rfl) (by kernel_rfl) (fun _ _ _ h => h) (Or.inl ⟨by rfl, ?_⟩) (by assumption) ?_
  · intro V hSw; (try dsimp only at hSw); go_simp
  simp only [List.setIfInBounds_toArray, List.set_cons_zero, List.set_cons_succ]
  refine takeD (i := 1) (d := 17) (v := .bool false) rfl rfl (by kernel_rfl) (by kernel_rfl) (by kernel_rfl) (fun _ _ _ h => h) (Or.inl ⟨by rfl, ?_⟩) (by assumption) ?_
  · intro V hSw; (try dsimp only at hSw); go_simp
  simp only [List.setIfInBounds_toArray, List.set_cons_zero, List.set_cons_succ]
  refine takeD (i := 2) (d := 18) (v := .pointer (some ⟨N + 2, 0, none⟩)) rfl rfl (by kernel_rfl) (by kernel_rfl) (by kernel_rfl) (fun _ _ _ h => h) (Or.inl ⟨by rfl, ?_⟩) (by assumption) ?_
  · intro V hSw; (try dsimp only at hSw); go_simp
  simp only [List.setIfInBounds_toArray, List.set_cons_zero, List.set_cons_succ]
  refine takeD (i := 3) (d := 19) (v := .int .i64 (18)) rfl rfl (by kernel_rfl) (by kernel_rfl) (by kernel_rfl) (fun _ _ _ h => h) (Or.inl ⟨by rfl, ?_⟩) (by assumption) ?_
  · intro V hSw; (try dsimp only at hSw); go_simp
  simp only [List.setIfInBounds_toArray, List.set_cons_zero, List.set_cons_succ]
  refine takeD (i := 4) (d := 20) (v := .bool true) rfl rfl (by kernel_rfl) (by kernel_rfl) (by kernel_rfl) (fun _ _ _ h => h) (Or.inl ⟨by rfl, ?_⟩) (by assumption) ?_
  · intro V hSw; (try dsimp only at hSw); go_simp
  simp only [List.setIfInBounds_toArray, List.set_cons_zero, List.set_cons_succ]
  refine takeD (i := 5) (d := 21) (v := .bool true) rfl rfl (by kernel_rfl) (by kernel_rfl) (by kernel_rfl) (fun _ _ _ h => h) (Or.inl ⟨by rfl, ?_⟩) (by assumption) ?_
  · intro V hSw; (try dsimp only at hSw); go_simp
  simp only [List.setIfInBounds_toArray, List.set_cons_zero, List.set_cons_succ]
  refine takeD (i := 6) (d := 22) (v := .pointer (some ⟨N, 1, none⟩)) rfl rfl (by kernel_rfl) (by kernel_rfl) (by kernel_rfl) (fun _ _ _ h => h) (Or.inl ⟨by rfl, ?_⟩) (by assumption) ?_
  · intro V hSw; (try dsimp only at hSw); go_simp
  simp only [List.setIfInBounds_toArray, List.set_cons_zero, List.set_cons_succ]
  refine takeD (i := 7) (d := 23) (v := .bool x) rfl rfl (by kernel_rfl) (by kernel_rfl) (by kernel_rfl) (fun _ _ _ h => h) (Or.inl ⟨by rfl, ?_⟩) (by assumption) ?_
  · intro V hSw; (try dsimp only at hSw); go_simp
  simp only [List.setIfInBounds_toArray, List.set_cons_zero, List.set_cons_succ]
  refine takeD (i := 8) (d := 24) (v := .bool (!x)) rfl rfl (by kernel_rfl) (by kernel_rfl) (by kernel_rfl) (fun _ _ _ h => h) (Or.inl ⟨by rfl, ?_⟩) (by assumption) ?_
  · intro V hSw; (try dsimp only at hSw); go_simp
  simp only [List.setIfInBounds_toArray, List.set_cons_zero, List.set_cons_succ]
  refine takeD (i := 9) (d := 25) (v := .bool (!x)) rfl rfl (by kernel_rfl) (by kernel_rfl) (by kernel_rfl) (fun _ _ _ h => h) (Or.inl ⟨by rfl, ?_⟩) (by assumption) ?_
  · intro V hSw; (try dsimp only at hSw); go_simp
  simp only [List.setIfInBounds_toArray, List.set_cons_zero, List.set_cons_succ]
  refine takeD (i := 10) (d := 26) (v := .pointer (some ⟨N + 2, 0, none⟩)) rfl rfl (by kernel_rfl) (by kernel_rfl) (by kernel_rfl) (fun _ _ _ h => h) (Or.inl ⟨by rfl, ?_⟩) (by assumption) ?_
  · intro V hSw; (try dsimp only at hSw); go_simp
  simp only [List.setIfInBounds_toArray, List.set_cons_zero, List.set_cons_succ]
  refine takeD (i := 11) (d := 27) (v := .int .i64 (18)) rfl rfl (by kernel_rfl) (by kernel_rfl) (by kernel_rfl) (fun _ _ _ h => h) (Or.inl ⟨by rfl, ?_⟩) (by assumption) ?_
  · intro V hSw; (try dsimp only at hSw); go_simp
  simp only [List.setIfInBounds_toArray, List.set_cons_zero, List.set_cons_succ]
  refine takeD (i := 12) (d := 28) (v := .bool false) rfl rfl (by kernel_rfl) (by kernel_rfl) (by kernel_rfl) (fun _ _ _ h => h) (Or.inl ⟨by rfl, ?_⟩) (by assumption) ?_
  · intro V hSw; (try dsimp only at hSw); go_simp
  simp only [List.setIfInBounds_toArray, List.set_cons_zero, List.set_cons_succ]
  refine takeD (i := 13) (d := 29) (v := .bool false) rfl rfl (by kernel_rfl) (by kernel_rfl) (by kernel_rfl) (fun _ _ _ h => h) (Or.inl ⟨by rfl, ?_⟩) (by assumption) ?_
  · intro V hSw; (try dsimp only at hSw); go_simp
  simp only [List.setIfInBounds_toArray, List.set_cons_zero, List.set_cons_succ]
  refine takeD (i := 14) (d := 30) (v := undef) rfl rfl (by kernel_rfl) (by kernel_rfl) (by kernel_rfl) (fun _ _ _ h => h) (Or.inr ⟨by rfl, rfl⟩) (by assumption) ?_
  simp only [List.setIfInBounds_toArray, List.set_cons_zero, List.set_cons_succ]
  refine takeD (i := 15) (d := 31) (v := undef) rfl rfl (by kernel_rfl) (by kernel_rfl) (by kernel_rfl) (fun _ _ _ h => h) (Or.inr ⟨by rfl, rfl⟩) (by assumption) ?_
  simp only [List.setIfInBounds_toArray, List.set_cons_zero, List.set_cons_succ]
  refine takeD (i := 16) (d := 32) (v := .bool false) rfl rfl (by kernel_rfl) (by kernel_rfl) (by kernel_rfl) (fun _ _ _ h => h) (Or.inl ⟨by rfl, ?_⟩) (by assumption) ?_
  · intro V hSw; (try dsimp only at hSw); go_simp
  simp only [List.setIfInBounds_toArray, List.set_cons_zero, List.set_cons_succ]
  refine takeD (i := 17) (d := 33) (v := .pointer (some ⟨N + 2, 0, none⟩)) rfl rfl (by kernel_rfl) (by kernel_rfl) (by kernel_rfl) (fun _ _ _ h => h) (Or.inl ⟨by rfl, ?_⟩) (by assumption) ?_
  · intro V hSw; (try dsimp only at hSw); go_simp
  simp only [List.setIfInBounds_toArray, List.set_cons_zero, List.set_cons_succ]
  refine takeD (i := 18) (d := 34) (v := .int .i64 (18)) rfl rfl (by kernel_rfl) (by kernel_rfl) (by kernel_rfl) (fun _ _ _ h => h) (Or.inl ⟨by rfl, ?_⟩) (by assumption) ?_
  · intro V hSw; (try dsimp only at hSw); go_simp
  simp only [List.setIfInBounds_toArray, List.set_cons_zero, List.set_cons_succ]
  refine takeD (i := 19) (d := 35) (v := .bool false) rfl rfl (by kernel_rfl) (by kernel_rfl) (by kernel_rfl) (fun _ _ _ h => h) (Or.inl ⟨by rfl, ?_⟩) (by assumption) ?_
  · intro V hSw; (try dsimp only at hSw); go_simp
  simp only [List.setIfInBounds_toArray, List.set_cons_zero, List.set_cons_succ]
  refine takeD (i := 20) (d := 36) (v := .bool false) rfl rfl (by kernel_rfl) (by kernel_rfl) (by kernel_rfl) (fun _ _ _ h => h) (Or.inl ⟨by rfl, ?_⟩) (by assumption) ?_
  · intro V hSw; (try dsimp only at hSw); go_simp
  simp only [List.setIfInBounds_toArray, List.set_cons_zero, List.set_cons_succ]
  refine takeD (i := 21) (d := 37) (v := undef) rfl rfl (by kernel_rfl) (by kernel_rfl) (by kernel_rfl) (fun _ _ _ h => h) (Or.inr ⟨by rfl, rfl⟩) (by assumption) ?_
  simp only [List.setIfInBounds_toArray, List.set_cons_zero, List.set_cons_succ]
  refine takeD (i := 22) (d := 38) (v := undef) rfl rfl (by kernel_rfl) (by kernel_rfl) (by kernel_rfl) (fun _ _ _ h => h) (Or.inr ⟨by rfl, rfl⟩) (by assumption) ?_
  simp only [List.setIfInBounds_toArray, List.set_cons_zero, List.set_cons_succ]
  refine takeD (i := 23) (d := 39) (v := .bool false) rfl rfl (by kernel_rfl) (by kernel_rfl) (by kernel_rfl) (fun _ _ _ h => h) (Or.inl ⟨by rfl, ?_⟩) (by assumption) ?_
  · intro V hSw; (try dsimp only at hSw); go_simp
  simp only [List.setIfInBounds_toArray, List.set_cons_zero, List.set_cons_succ]
  refine takeD (i := 24) (d := 40) (v := .slice (some ⟨q, o, none⟩) c.length cap) rfl rfl (by kernel_rfl) (by kernel_rfl) (by kernel_rfl) (fun _ _ _ h => h) (Or.inl ⟨by rfl, ?_⟩) (by assumption) ?_
  · intro V hSw; (try dsimp only at hSw); go_simp
  simp only [List.setIfInBounds_toArray, List.set_cons_zero, List.set_cons_succ]
  refine takeD (i := 25) (d := 41) (v := .agg #[.int .i64 (k : Nat), .bool x]) rfl rfl (by kernel_rfl) (by kernel_rfl) (by kernel_rfl) (fun _ _ _ h => h) (Or.inl ⟨by rfl, ?_⟩) (by assumption) ?_
  · intro V hSw; (try dsimp only at hSw); go_simp
  simp only [List.setIfInBounds_toArray, List.set_cons_zero, List.set_cons_succ]
  refine takeD (i := 27) (d := 43) (v := .bool true) rfl rfl (by kernel_rfl) (by kernel_rfl) (by kernel_rfl) (fun _ _ _ h => h) (Or.inl ⟨by rfl, ?_⟩) (by assumption) ?_
  · intro V hSw; (try dsimp only at hSw); go_simp
  simp only [List.setIfInBounds_toArray, List.set_cons_zero, List.set_cons_succ]
  refine takeD (i := 39) (d := 55) (v := .bool true) rfl rfl (by kernel_rfl) (by kernel_rfl) (by kernel_rfl) (fun _ _ _ h => h) (Or.inl ⟨by rfl, ?_⟩) (by assumption) ?_
  · intro V hSw; (try dsimp only at hSw); go_simp
  simp only [List.setIfInBounds_toArray, List.set_cons_zero, List.set_cons_succ]
  refine wpAnyH_ready (rs := [26]) (by kernel_rfl) (by simp) ?_
  refine AllReadyH.cons (o := { dst := some 42, op := Op.call { callee := Callee.value (Operand.func 61), args := #[Operand.tmp 40, Operand.tmp 41], argTypes := #[31, 89] }, type := 4, pos := "found.go:54", after := #[{ on := 24, ground := Ground.data }, { on := 25, ground := Ground.data }, { on := 20, ground := Ground.chain }], guard := none }) rfl (fun K hK => ?_) AllReadyH.nil
  go_simp
  refine (HOut.out _ hD).mono ?_
  rintro e V1 ⟨rfl, hb⟩
  have hD1 := hD.trans (hb.mono hD.size)
  clear hb hD
  have hD := hD1
  clear hD1
  refine hK.out _ _ (HK.out _ (Tch.of_idle hD)) (fun hHeld2 => ?_)
  clear hK
  try simp only [Act.put, List.setIfInBounds_toArray, List.set_cons_zero, List.set_cons_succ]
  refine takeD (i := 28) (d := 44) (v := .bool true) rfl rfl (by kernel_rfl) (by kernel_rfl) (by kernel_rfl) (fun _ _ _ h => h) (Or.inl ⟨by rfl, ?_⟩) (by assumption) ?_
  · intro V hSw; (try dsimp only at hSw); go_simp
  simp only [List.setIfInBounds_toArray, List.set_cons_zero, List.set_cons_succ]
  refine takeD (i := 29) (d := 45) (v := .pointer (some ⟨N + 2, 0, none⟩)) rfl rfl (by kernel_rfl) (by kernel_rfl) (by kernel_rfl) (fun _ _ _ h => h) (Or.inl ⟨by rfl, ?_⟩) (by assumption) ?_
  · intro V hSw; (try dsimp only at hSw); go_simp
  simp only [List.setIfInBounds_toArray, List.set_cons_zero, List.set_cons_succ]
  refine takeD (i := 30) (d := 46) (v := .int .i64 (18)) rfl rfl (by kernel_rfl) (by kernel_rfl) (by kernel_rfl) (fun _ _ _ h => h) (Or.inl ⟨by rfl, ?_⟩) (by assumption) ?_
  · intro V hSw; (try dsimp only at hSw); go_simp
  simp only [List.setIfInBounds_toArray, List.set_cons_zero, List.set_cons_succ]
  refine wpAnyH_ready (rs := [31]) (by kernel_rfl) (by simp) ?_
  refine AllReadyH.cons (o := { dst := some 47, op := Op.call { callee := Callee.value (Operand.func 62), args := #[Operand.tmp 46], argTypes := #[3] }, type := 4, pos := "found.go:55", after := #[{ on := 30, ground := Ground.data }, { on := 28, ground := Ground.chain }, { on := 28, ground := Ground.guard }], guard := some (28, true) }) rfl (fun K hK => ?_) AllReadyH.nil
  go_simp
  refine (HBr.out _).mono ?_
  rintro e V2 ⟨rfl, rfl⟩
  refine hK.out _ _ (HK.out _ (Tch.of_idle hD)) (fun hHeld2 => ?_)
  clear hK
  try simp only [Act.put, List.setIfInBounds_toArray, List.set_cons_zero, List.set_cons_succ]
  refine takeD (i := 32) (d := 48) (v := .bool false) rfl rfl (by kernel_rfl) (by kernel_rfl) (by kernel_rfl) (fun _ _ _ h => h) (Or.inl ⟨by rfl, ?_⟩) (by assumption) ?_
  · intro V hSw; (try dsimp only at hSw); go_simp
  simp only [List.setIfInBounds_toArray, List.set_cons_zero, List.set_cons_succ]
  refine takeD (i := 33) (d := 49) (v := .bool false) rfl rfl (by kernel_rfl) (by kernel_rfl) (by kernel_rfl) (fun _ _ _ h => h) (Or.inl ⟨by rfl, ?_⟩) (by assumption) ?_
  · intro V hSw; (try dsimp only at hSw); go_simp
  simp only [List.setIfInBounds_toArray, List.set_cons_zero, List.set_cons_succ]
  refine takeD (i := 34) (d := 50) (v := undef) rfl rfl (by kernel_rfl) (by kernel_rfl) (by kernel_rfl) (fun _ _ _ h => h) (Or.inr ⟨by rfl, rfl⟩) (by assumption) ?_
  simp only [List.setIfInBounds_toArray, List.set_cons_zero, List.set_cons_succ]
  refine takeD (i := 35) (d := 51) (v := undef) rfl rfl (by kernel_rfl) (by kernel_rfl) (by kernel_rfl) (fun _ _ _ h => h) (Or.inr ⟨by rfl, rfl⟩) (by assumption) ?_
  simp only [List.setIfInBounds_toArray, List.set_cons_zero, List.set_cons_succ]
  refine wpAnyH_ready (rs := [36]) (by kernel_rfl) (by simp) ?_
  refine AllReadyH.cons (o := { dst := some 52, op := Op.call { callee := Callee.value (Operand.func 45), args := #[Operand.tmp 51], argTypes := #[3] }, type := 4, pos := "found.go:55", after := #[{ on := 35, ground := Ground.data }, { on := 33, ground := Ground.chain }, { on := 33, ground := Ground.guard }], guard := some (33, true) }) rfl (fun K hK => ?_) AllReadyH.nil
  go_simp
  refine hK.out _ _ (HK.out _ (Tch.of_idle hD)) (fun hHeld2 => ?_)
  clear hK
  try simp only [Act.put, List.setIfInBounds_toArray, List.set_cons_zero, List.set_cons_succ]
  refine takeD (i := 37) (d := 53) (v := undef) rfl rfl (by kernel_rfl) (by kernel_rfl) (by kernel_rfl) (fun _ _ _ h => h) (Or.inr ⟨by rfl, rfl⟩) (by assumption) ?_
  simp only [List.setIfInBounds_toArray, List.set_cons_zero, List.set_cons_succ]
  refine takeD (i := 38) (d := 54) (v := .bool false) rfl rfl (by kernel_rfl) (by kernel_rfl) (by kernel_rfl) (fun _ _ _ h => h) (Or.inl ⟨by rfl, ?_⟩) (by assumption) ?_
  · intro V hSw; (try dsimp only at hSw); go_simp
  simp only [List.setIfInBounds_toArray, List.set_cons_zero, List.set_cons_succ]
  refine takeD (i := 40) (d := 56) (v := .bool true) rfl rfl (by kernel_rfl) (by kernel_rfl) (by kernel_rfl) (fun _ _ _ h => h) (Or.inl ⟨by rfl, ?_⟩) (by assumption) ?_
  · intro V hSw; (try dsimp only at hSw); go_simp
  simp only [List.setIfInBounds_toArray, List.set_cons_zero, List.set_cons_succ]
  refine takeD (i := 41) (d := 57) (v := .agg #[.int .i64 (18), .int .i64 ra, .int .i64 rb, .int .i64 rc, .int .i64 imm]) rfl rfl (by kernel_rfl) (by kernel_rfl) (by kernel_rfl) (fun _ _ _ h => h) (Or.inl ⟨by rfl, ?_⟩) (by assumption) ?_
  · intro V hSw; (try dsimp only at hSw); go_simp
  simp only [List.setIfInBounds_toArray, List.set_cons_zero, List.set_cons_succ]
  refine takeD (i := 43) (d := 59) (v := .int .u64 (m : Nat)) rfl rfl (by kernel_rfl) (by kernel_rfl) (by kernel_rfl) (fun _ _ _ h => h) (Or.inl ⟨by rfl, ?_⟩) (by assumption) ?_
  · intro V hSw; (try dsimp only at hSw); go_simp
  simp only [List.setIfInBounds_toArray, List.set_cons_zero, List.set_cons_succ]
  refine wpAnyH_ready (rs := [42]) (by kernel_rfl) (by simp) ?_
  refine AllReadyH.cons (o := { dst := some 58, op := Op.call { callee := Callee.value (Operand.func 63), args := #[Operand.tmp 57], argTypes := #[43] }, type := 91, pos := "found.go:56", after := #[{ on := 41, ground := Ground.data }, { on := 40, ground := Ground.chain }, { on := 40, ground := Ground.guard }], guard := some (40, true) }) rfl (fun K hK => ?_) AllReadyH.nil
  go_simp
  refine (HRd.out _).mono ?_
  rintro e V4 ⟨rfl, hb⟩
  have hD1 := hD.trans (hb.mono hD.size)
  clear hb hD
  have hD := hD1
  clear hD1
  refine hK.out _ _ (HK.out _ (Tch.of_idle hD)) (fun hHeld2 => ?_)
  clear hK
  try simp only [Act.put, List.setIfInBounds_toArray, List.set_cons_zero, List.set_cons_succ]
  refine takeD (i := 44) (d := 60) (v := .int .u64 (Go.bits .and .u64 ((readsM ⟨18, ra, rb, rc, imm⟩ : Nat) : Int) ((m : Nat) : Int))) rfl rfl (by kernel_rfl) (by kernel_rfl) (by kernel_rfl) (fun _ _ _ h => h) (Or.inl ⟨by rfl, ?_⟩) (by assumption) ?_
  · intro V hSw; (try dsimp only at hSw); go_simp
  simp only [List.setIfInBounds_toArray, List.set_cons_zero, List.set_cons_succ]
  refine takeD (i := 45) (d := 61) (v := .bool (Go.bits .and .u64 ((readsM ⟨18, ra, rb, rc, imm⟩ : Nat) : Int) ((m : Nat) : Int) != 0)) rfl rfl (by kernel_rfl) (by kernel_rfl) (by kernel_rfl) (fun _ _ _ h => h) (Or.inl ⟨by rfl, ?_⟩) (by assumption) ?_
  · intro V hSw; (try dsimp only at hSw); go_simp
  simp only [List.setIfInBounds_toArray, List.set_cons_zero, List.set_cons_succ]
  refine takeD (i := 46) (d := 62) (v := .bool (Go.bits .and .u64 ((readsM ⟨18, ra, rb, rc, imm⟩ : Nat) : Int) ((m : Nat) : Int) != 0)) rfl rfl (by kernel_rfl) (by kernel_rfl) (by kernel_rfl) (fun _ _ _ h => h) (Or.inl ⟨by rfl, ?_⟩) (by assumption) ?_
  · intro V hSw; (try dsimp only at hSw); go_simp
  simp only [List.setIfInBounds_toArray, List.set_cons_zero, List.set_cons_succ]
  refine takeD (i := 47) (d := 63) (v := .agg #[.bool false, .bool false, .bool (!x), .bool false, .bool false, .bool ob, .bool false, .bool (Go.bits .and .u64 ((readsM ⟨18, ra, rb, rc, imm⟩ : Nat) : Int) ((m : Nat) : Int) != 0), .bool false]) rfl rfl (by kernel_rfl) (by kernel_rfl) (by kernel_rfl) (fun _ _ _ h => h) (Or.inl ⟨by rfl, ?_⟩) (by assumption) ?_
  · intro V hSw; (try dsimp only at hSw); go_simp
  simp only [List.setIfInBounds_toArray, List.set_cons_zero, List.set_cons_succ]
  have hth := HTh.out _ hD
  have hone : ∀ v ∈ ([.bool false, .bool false, .bool (!x), .bool false, .bool false, .bool ob, .bool false, .bool (Go.bits .and .u64 ((readsM ⟨18, ra, rb, rc, imm⟩ : Nat) : Int) ((m : Nat) : Int) != 0), .bool false] : List Value), v.oneCell' = true := by simp [Value.oneCell']
  refine wpAnyH_ready (rs := [48]) (by kernel_rfl) (by simp) ?_
  refine AllReadyH.cons (o := { dst := none, op := Op.store 86 (Operand.tmp 6) (Operand.tmp 63), type := 0, pos := "found.go:49", after := #[{ on := 47, ground := Ground.data }, { on := 42, ground := Ground.chain }, { on := 0, ground := Ground.phase }, { on := 1, ground := Ground.phase }, { on := 2, ground := Ground.phase }, { on := 3, ground := Ground.phase }, { on := 4, ground := Ground.phase }, { on := 5, ground := Ground.phase }, { on := 6, ground := Ground.phase }, { on := 7, ground := Ground.phase }, { on := 8, ground := Ground.phase }, { on := 9, ground := Ground.phase }, { on := 10, ground := Ground.phase }, { on := 11, ground := Ground.phase }, { on := 12, ground := Ground.phase }, { on := 13, ground := Ground.phase }, { on := 14, ground := Ground.phase }, { on := 15, ground := Ground.phase }, { on := 16, ground := Ground.phase }, { on := 17, ground := Ground.phase }, { on := 18, ground := Ground.phase }, { on := 19, ground := Ground.phase }, { on := 20, ground := Ground.phase }, { on := 21, ground := Ground.phase }, { on := 22, ground := Ground.phase }, { on := 23, ground := Ground.phase }, { on := 24, ground := Ground.phase }, { on := 25, ground := Ground.phase }, { on := 26, ground := Ground.phase }, { on := 27, ground := Ground.phase }, { on := 28, ground := Ground.phase }, { on := 29, ground := Ground.phase }, { on := 30, ground := Ground.phase }, { on := 31, ground := Ground.phase }, { on := 32, ground := Ground.phase }, { on := 33, ground := Ground.phase }, { on := 34, ground := Ground.phase }, { on := 35, ground := Ground.phase }, { on := 36, ground := Ground.phase }, { on := 37, ground := Ground.phase }, { on := 38, ground := Ground.phase }, { on := 39, ground := Ground.phase }, { on := 40, ground := Ground.phase }, { on := 41, ground := Ground.phase }, { on := 42, ground := Ground.phase }, { on := 43, ground := Ground.phase }, { on := 44, ground := Ground.phase }, { on := 45, ground := Ground.phase }, { on := 46, ground := Ground.phase }, { on := 47, ground := Ground.phase }], guard := none }) rfl (fun K hK => ?_) AllReadyH.nil
  rw [if_pos (by rfl)]
  refine wp_store_mid _ _ _ rfl _ _ (List.toArray _) rfl rfl (by simpa using hth) ?_ (all_oneCell_toArray hone) ?_
  · first | exact Tryz.sizeFinds | simp [Tryz.sizeFinds]
  simp only [Act.put, List.toList_toArray]
  refine hK.out _ _ (HK.out _ (Tch.setCells (C := fun b => b = N + 1) (.inl rfl) _ _ (Tch.of_idle hD))) (fun hHeld2 => ?_)
  refine wpAnyH_done (by kernel_rfl) ?_ _
  have hret := Holds.sets [.bool false, .bool false, .bool (!x), .bool false, .bool false, .bool ob, .bool false, .bool (Go.bits .and .u64 ((readsM ⟨18, ra, rb, rc, imm⟩ : Nat) : Int) ((m : Nat) : Int) != 0), .bool false] 0 (Hs.out.2.1.below hD)
  go_wp2_with fail
  have hfinal := below_cells (B := N) (b := N + 1) (by omega) [.bool false, .bool false, .bool (!x), .bool false, .bool false, .bool ob, .bool false, .bool (Go.bits .and .u64 ((readsM ⟨18, ra, rb, rc, imm⟩ : Nat) : Int) ((m : Nat) : Int) != 0), .bool false] 0 _ ((show Below N w w2 by rw [← hN]; exact Hs.out.2.2.2).trans (hD.mono (by have := Hs.out.2.2.1.lt; omega)))
  refine bodyPost_ret (results_c rfl rfl (Tryz.loadFinds hret rfl)) rfl ⟨?_, hfinal⟩
  rw [bits_ne (readsM_lt Hl.out.1) Hm.out]
  rw [Hob.out]
  rfl

set_option maxRecDepth 100000 in
set_option maxHeartbeats 4000000 in
theorem fa_17 (a : Option Addr) (cap : Nat) (c : List In) (k m : Nat) (ra rb rc imm : Int) (x : Bool) (w : World) (N : Nat) (hN : w.heap.size = N) (hn : c.length ≤ 1024) (hF : FormsAt w) (hr : RowsIn w a 5 In.cells c) (hi : c[k]? = some ⟨17, ra, rb, rc, imm⟩) (hm : m < 256) (hl : legalP ⟨17, ra, rb, rc, imm⟩ = true) :
    Calls Tryz.prog 42 #[.slice a c.length cap, .agg #[.int .i64 (k : Nat), .bool x], .int .u64 (m : Nat)] w fun e w' => e = .returned (.agg (nineV false false x false ((lgo c (k, x)).any (outS c.length)) false ((readsM ⟨17, ra, rb, rc, imm⟩ &&& m) != 0)).toArray) ∧ Below N w w' := by
  have hlgo : lgo c (k, x) = lgoI ⟨17, ra, rb, rc, imm⟩ (k, x) := lgo_some hi
  obtain ⟨q, o, rfl, hq, hrow⟩ := hr.row hi
  have hk : k < c.length := (List.getElem?_eq_some_iff.1 hi).1
  have hkk : (0 : Int) ≤ (k : Int) ∧ (k : Int) < (c.length : Int) := by omega
  have HF := Lib.hid (And.intro hF (And.intro hr (And.intro hrow hq))); clear hF hr hrow hq
  have Hn := Lib.hid hn; clear hn
  have Hm := Lib.hid hm; clear hm
  have Hl := Lib.hid (And.intro hl (And.intro hi hlgo)); clear hi hk hlgo
  have hBr := fun (V : World) => bran_any (17) V
  rw [show (decide ((13 : Int) ≤ 17) && decide ((17 : Int) ≤ 16)) = false from by decide] at hBr
  have HBr := Lib.hid hBr; clear hBr
  have hPl := fun (V : World) => isPl_any imm V
  have HPl := Lib.hid hPl; clear hPl
  clear hl
  go_enter Tryz.func42, Tryz.ntmps42
  go_upto_region 1 with fail
  have hb1 : Below N w ((w.alloc (.cells #[.int .i64 (k : Nat), .bool x] 89)).alloc (.cells #[.bool false, .bool false, .bool false, .bool false, .bool false, .bool false, .bool false, .bool false, .bool false] 86)) := ((Below.refl _ w).alloc (by omega) _).alloc (by simp; omega) _
  have p1 : Holds ((w.alloc (.cells #[.int .i64 (k : Nat), .bool x] 89)).alloc (.cells #[.bool false, .bool false, .bool false, .bool false, .bool false, .bool false, .bool false, .bool false, .bool false] 86)) N 89 [.int .i64 (k : Nat), .bool x] := (newAt hN 89 [.int .i64 (k : Nat), .bool x]).alloc _
  have p2 : Holds ((w.alloc (.cells #[.int .i64 (k : Nat), .bool x] 89)).alloc (.cells #[.bool false, .bool false, .bool false, .bool false, .bool false, .bool false, .bool false, .bool false, .bool false] 86)) (N + 1) 86 (nineV false false false false false false false) := newAt (by simp [hN]) 86 (nineV false false false false false false false)
  have hs1 : ((w.alloc (.cells #[.int .i64 (k : Nat), .bool x] 89)).alloc (.cells #[.bool false, .bool false, .bool false, .bool false, .bool false, .bool false, .bool false, .bool false, .bool false] 86)).heap.size = N + 2 := by simp [hN]
  generalize (w.alloc (.cells #[.int .i64 (k : Nat), .bool x] 89)).alloc (.cells #[.bool false, .bool false, .bool false, .bool false, .bool false, .bool false, .bool false, .bool false, .bool false] 86) = w1 at *
  have hbw1 : Below w.heap.size w w1 := by rw [hN]; exact hb1
  have Hr := rangeAt_same HF.out.2.2.1 (hbw1.block q HF.out.2.2.2)
  have e0 := p1.cell (i := 0) rfl
  have r0 : w1.cell? ⟨q, o + k * 5, none⟩ = some (.int .i64 (17)) := Hr 0 _ rfl
  have r1 : w1.cell? ⟨q, o + k * 5 + 1, none⟩ = some (.int .i64 ra) := Hr 1 _ rfl
  have r2 : w1.cell? ⟨q, o + k * 5 + 2, none⟩ = some (.int .i64 rb) := Hr 2 _ rfl
  have r3 : w1.cell? ⟨q, o + k * 5 + 3, none⟩ = some (.int .i64 rc) := Hr 3 _ rfl
  have r4 : w1.cell? ⟨q, o + k * 5 + 4, none⟩ = some (.int .i64 imm) := Hr 4 _ rfl
  have hqi : Holds (w1.alloc (.cells #[.int .i64 (17), .int .i64 ra, .int .i64 rb, .int .i64 rc, .int .i64 imm] 43)) (N + 2) 43 (In.cells ⟨17, ra, rb, rc, imm⟩) := newAt hs1 43 (In.cells ⟨17, ra, rb, rc, imm⟩)
  have hb2 : Below w1.heap.size w1 (w1.alloc (.cells #[.int .i64 (17), .int .i64 ra, .int .i64 rb, .int .i64 rc, .int .i64 imm] 43)) := (Below.refl _ w1).alloc (Nat.le_refl _) _
  have hLg := legal_any ⟨17, ra, rb, rc, imm⟩ _ ((HF.out.1.below hbw1).below hb2)
  rw [Hl.out.1] at hLg
  simp only [In.val] at hLg
  have HLg := Lib.hid hLg; clear hLg
  have HB := Lib.hid (And.intro hbw1 (And.intro p1 (And.intro p2 (And.intro hs1 (And.intro hN (And.intro hqi hb2)))))); clear hb1 hbw1 p1 p2 hqi hb2 Hr
  go_wp2_with (go_at_call 14; refine HLg.out.mono ?_; rintro e w2 ⟨rfl, hb3⟩; refine Hid.out ?_)
  refine Lib.hid ?_
  have hB2 : Below w1.heap.size w1 w2 := HB.out.2.2.2.2.2.2.trans (hb3.mono (by simp))
  have hBw : Below w.heap.size w w2 := HB.out.1.trans (hB2.mono (by rw [hN, hs1]; omega))
  have s1 := HB.out.2.1.below hB2
  have s2 := HB.out.2.2.1.below hB2
  have s3 := HB.out.2.2.2.2.2.1.below hb3
  clear e0 r0 r1 r2 r3 r4 HLg
  have hlt2 := s3.lt
  have HK := Lib.hid (fun (V : World) (h : Tch (fun b => b = N + 1) w2 V) => (show V.cell? ⟨N, 0, none⟩ = some (.int .i64 (k : Nat)) ∧ V.cell? ⟨N, 1, none⟩ = some (.bool x) ∧ V.cell? ⟨N + 2, 0, none⟩ = some (.int .i64 (17)) ∧ V.cell? ⟨N + 2, 1, none⟩ = some (.int .i64 ra) ∧ V.cell? ⟨N + 2, 2, none⟩ = some (.int .i64 rb) ∧ V.cell? ⟨N + 2, 3, none⟩ = some (.int .i64 rc) ∧ V.cell? ⟨N + 2, 4, none⟩ = some (.int .i64 imm) from by
    have t1 := h.holds (b := N) (by omega) s1
    have t3 := h.holds (b := N + 2) (by omega) s3
    exact ⟨t1.cell (i := 0) rfl, t1.cell (i := 1) rfl, t3.cell (i := 0) rfl, t3.cell (i := 1) rfl, t3.cell (i := 2) rfl, t3.cell (i := 3) rfl, t3.cell (i := 4) rfl⟩))
  have HTh := Lib.hid (fun (V : World) (h : Below w2.heap.size w2 V) => (show V.there (N + 1) 0 9 from by
    have t2 := s2.below h
    intro j hj
    rw [Nat.zero_add]
    refine ⟨?_, t2.free j⟩
    rw [t2.cell (i := j) (v := (nineV false false false false false false false)[j]'(by simpa [nineV] using hj)) (List.getElem?_eq_getElem _)]
    rfl))
  have HOut := Lib.hid (fun (V : World) (h : Below w2.heap.size w2 V) => out_any (some ⟨q, o, none⟩) cap c (k, x) V Hn.out (HF.out.1.below (hBw.trans (h.mono hBw.size))) (HF.out.2.1.below (hBw.trans (h.mono hBw.size))))
  have hRd := fun (V : World) => reads_any ⟨17, ra, rb, rc, imm⟩ V Hl.out.1
  simp only [In.val] at hRd
  have HRd := Lib.hid hRd; clear hRd
  have Hs := Lib.hid (And.intro s1 (And.intro s2 (And.intro s3 hBw))); clear s1 s2 s3 hBw hB2 hb3 hlt2
  generalize hob : (lgo c (k, x)).any (outS c.length) = ob at HOut
  have Hob := Lib.hid hob; clear hob
  go_wp2_with fail
  refine wp_region_held_drew (S := fun V => V.cell? ⟨N, 0, none⟩ = some (.int .i64 (k : Nat)) ∧ V.cell? ⟨N, 1, none⟩ = some (.bool x) ∧ V.cell? ⟨N + 2, 0, none⟩ = some (.int .i64 (17)) ∧ V.cell? ⟨N + 2, 1, none⟩ = some (.int .i64 ra) ∧ V.cell? ⟨N + 2, 2, none⟩ = some (.int .i64 rb) ∧ V.cell? ⟨N + 2, 3, none⟩ = some (.int .i64 rc) ∧ V.cell? ⟨N + 2, 4, none⟩ = some (.int .i64 imm)) (by kernel_rfl) (HK.out _ (Tch.of_idle (below_drewN (Below.refl _ w2) 1))) (fun hHeld => ?_)
  have hD : Below w2.heap.size w2 w2.drew := below_drewN (Below.refl _ w2) 1
  refine takeD (i := 0) (d := 16) (v := .bool true) rfl rfl (by kernel_rfl) (by kernel_rfl) (by kernel_rfl) (fun _ _ _ h => h) (Or.inl ⟨by rfl, ?_⟩) (by assumption) ?_
  · intro V hSw; (try dsimp only at hSw); go_simp
  simp only [List.setIfInBounds_toArray, List.set_cons_zero, List.set_cons_succ]
  refine takeD (i := 1) (d := 17) (v := .bool false) rfl rfl (by kernel_rfl) (by kernel_rfl) (by kernel_rfl) (fun _ _ _ h => h) (Or.inl ⟨by rfl, ?_⟩) (by assumption) ?_
  · intro V hSw; (try dsimp only at hSw); go_simp
  simp only [List.setIfInBounds_toArray, List.set_cons_zero, List.set_cons_succ]
  refine takeD (i := 2) (d := 18) (v := .pointer (some ⟨N + 2, 0, none⟩)) rfl rfl (by kernel_rfl) (by kernel_rfl) (by kernel_rfl) (fun _ _ _ h => h) (Or.inl ⟨by rfl, ?_⟩) (by assumption) ?_
  · intro V hSw; (try dsimp only at hSw); go_simp
  simp only [List.setIfInBounds_toArray, List.set_cons_zero, List.set_cons_succ]
  refine takeD (i := 3) (d := 19) (v := .int .i64 (17)) rfl rfl (by kernel_rfl) (by kernel_rfl) (by kernel_rfl) (fun _ _ _ h => h) (Or.inl ⟨by rfl, ?_⟩) (by assumption) ?_
  · intro V hSw; (try dsimp only at hSw); go_simp
  simp only [List.setIfInBounds_toArray, List.set_cons_zero, List.set_cons_succ]
  refine takeD (i := 4) (d := 20) (v := .bool false) rfl rfl (by kernel_rfl) (by kernel_rfl) (by kernel_rfl) (fun _ _ _ h => h) (Or.inl ⟨by rfl, ?_⟩) (by assumption) ?_
  · intro V hSw; (try dsimp only at hSw); go_simp
  simp only [List.setIfInBounds_toArray, List.set_cons_zero, List.set_cons_succ]
  refine takeD (i := 5) (d := 21) (v := .bool false) rfl rfl (by kernel_rfl) (by kernel_rfl) (by kernel_rfl) (fun _ _ _ h => h) (Or.inl ⟨by rfl, ?_⟩) (by assumption) ?_
  · intro V hSw; (try dsimp only at hSw); go_simp
  simp only [List.setIfInBounds_toArray, List.set_cons_zero, List.set_cons_succ]
  refine takeD (i := 6) (d := 22) (v := undef) rfl rfl (by kernel_rfl) (by kernel_rfl) (by kernel_rfl) (fun _ _ _ h => h) (Or.inr ⟨by rfl, rfl⟩) (by assumption) ?_
  simp only [List.setIfInBounds_toArray, List.set_cons_zero, List.set_cons_succ]
  refine takeD (i := 7) (d := 23) (v := undef) rfl rfl (by kernel_rfl) (by kernel_rfl) (by kernel_rfl) (fun _ _ _ h => h) (Or.inr ⟨by rfl, rfl⟩) (by assumption) ?_
  simp only [List.setIfInBounds_toArray, List.set_cons_zero, List.set_cons_succ]
  refine takeD (i := 8) (d := 24) (v := undef) rfl rfl (by kernel_rfl) (by kernel_rfl) (by kernel_rfl) (fun _ _ _ h => h) (Or.inr ⟨by rfl, rfl⟩) (by assumption) ?_
  simp only [List.setIfInBounds_toArray, List.set_cons_zero, List.set_cons_succ]
  refine takeD (i := 9) (d := 25) (v := .bool false) rfl rfl (by kernel_rfl) (by kernel_rfl) (by kernel_rfl) (fun _ _ _ h => h) (Or.inl ⟨by rfl, ?_⟩) (by assumption) ?_
  · intro V hSw; (try dsimp only at hSw); go_simp
  simp only [List.setIfInBounds_toArray, List.set_cons_zero, List.set_cons_succ]
  refine takeD (i := 10) (d := 26) (v := .pointer (some ⟨N + 2, 0, none⟩)) rfl rfl (by kernel_rfl) (by kernel_rfl) (by kernel_rfl) (fun _ _ _ h => h) (Or.inl ⟨by rfl, ?_⟩) (by assumption) ?_
  · intro V hSw; (try dsimp only at hSw); go_simp
  simp only [List.setIfInBounds_toArray, List.set_cons_zero, List.set_cons_succ]
  refine takeD (i := 11) (d := 27) (v := .int .i64 (17)) rfl rfl (by kernel_rfl) (by kernel_rfl) (by kernel_rfl) (fun _ _ _ h => h) (Or.inl ⟨by rfl, ?_⟩) (by assumption) ?_
  · intro V hSw; (try dsimp only at hSw); go_simp
  simp only [List.setIfInBounds_toArray, List.set_cons_zero, List.set_cons_succ]
  refine takeD (i := 12) (d := 28) (v := .bool true) rfl rfl (by kernel_rfl) (by kernel_rfl) (by kernel_rfl) (fun _ _ _ h => h) (Or.inl ⟨by rfl, ?_⟩) (by assumption) ?_
  · intro V hSw; (try dsimp only at hSw); go_simp
  simp only [List.setIfInBounds_toArray, List.set_cons_zero, List.set_cons_succ]
  refine takeD (i := 13) (d := 29) (v := .bool true) rfl rfl (by kernel_rfl) (by kernel_rfl) (by kernel_rfl) (fun _ _ _ h => h) (Or.inl ⟨by rfl, ?_⟩) (by assumption) ?_
  · intro V hSw; (try dsimp only at hSw); go_simp
  simp only [List.setIfInBounds_toArray, List.set_cons_zero, List.set_cons_succ]
  refine takeD (i := 14) (d := 30) (v := .pointer (some ⟨N, 1, none⟩)) rfl rfl (by kernel_rfl) (by kernel_rfl) (by kernel_rfl) (fun _ _ _ h => h) (Or.inl ⟨by rfl, ?_⟩) (by assumption) ?_
  · intro V hSw; (try dsimp only at hSw); go_simp
  simp only [List.setIfInBounds_toArray, List.set_cons_zero, List.set_cons_succ]
  refine takeD (i := 15) (d := 31) (v := .bool x) rfl rfl (by kernel_rfl) (by kernel_rfl) (by kernel_rfl) (fun _ _ _ h => h) (Or.inl ⟨by rfl, ?_⟩) (by assumption) ?_
  · intro V hSw; (try dsimp only at hSw); go_simp
  simp only [List.setIfInBounds_toArray, List.set_cons_zero, List.set_cons_succ]
  refine takeD (i := 16) (d := 32) (v := .bool x) rfl rfl (by kernel_rfl) (by kernel_rfl) (by kernel_rfl) (fun _ _ _ h => h) (Or.inl ⟨by rfl, ?_⟩) (by assumption) ?_
  · intro V hSw; (try dsimp only at hSw); go_simp
  simp only [List.setIfInBounds_toArray, List.set_cons_zero, List.set_cons_succ]
  refine takeD (i := 17) (d := 33) (v := .pointer (some ⟨N + 2, 0, none⟩)) rfl rfl (by kernel_rfl) (by kernel_rfl) (by kernel_rfl) (fun _ _ _ h => h) (Or.inl ⟨by rfl, ?_⟩) (by assumption) ?_
  · intro V hSw; (try dsimp only at hSw); go_simp
  simp only [List.setIfInBounds_toArray, List.set_cons_zero, List.set_cons_succ]
  refine takeD (i := 18) (d := 34) (v := .int .i64 (17)) rfl rfl (by kernel_rfl) (by kernel_rfl) (by kernel_rfl) (fun _ _ _ h => h) (Or.inl ⟨by rfl, ?_⟩) (by assumption) ?_
  · intro V hSw; (try dsimp only at hSw); go_simp
  simp only [List.setIfInBounds_toArray, List.set_cons_zero, List.set_cons_succ]
  refine takeD (i := 19) (d := 35) (v := .bool false) rfl rfl (by kernel_rfl) (by kernel_rfl) (by kernel_rfl) (fun _ _ _ h => h) (Or.inl ⟨by rfl, ?_⟩) (by assumption) ?_
  · intro V hSw; (try dsimp only at hSw); go_simp
  simp only [List.setIfInBounds_toArray, List.set_cons_zero, List.set_cons_succ]
  refine takeD (i := 20) (d := 36) (v := .bool false) rfl rfl (by kernel_rfl) (by kernel_rfl) (by kernel_rfl) (fun _ _ _ h => h) (Or.inl ⟨by rfl, ?_⟩) (by assumption) ?_
  · intro V hSw; (try dsimp only at hSw); go_simp
  simp only [List.setIfInBounds_toArray, List.set_cons_zero, List.set_cons_succ]
  refine takeD (i := 21) (d := 37) (v := undef) rfl rfl (by kernel_rfl) (by kernel_rfl) (by kernel_rfl) (fun _ _ _ h => h) (Or.inr ⟨by rfl, rfl⟩) (by assumption) ?_
  simp only [List.setIfInBounds_toArray, List.set_cons_zero, List.set_cons_succ]
  refine takeD (i := 22) (d := 38) (v := undef) rfl rfl (by kernel_rfl) (by kernel_rfl) (by kernel_rfl) (fun _ _ _ h => h) (Or.inr ⟨by rfl, rfl⟩) (by assumption) ?_
  simp only [List.setIfInBounds_toArray, List.set_cons_zero, List.set_cons_succ]
  refine takeD (i := 23) (d := 39) (v := .bool false) rfl rfl (by kernel_rfl) (by kernel_rfl) (by kernel_rfl) (fun _ _ _ h => h) (Or.inl ⟨by rfl, ?_⟩) (by assumption) ?_
  · intro V hSw; (try dsimp only at hSw); go_simp
  simp only [List.setIfInBounds_toArray, List.set_cons_zero, List.set_cons_succ]
  refine takeD (i := 24) (d := 40) (v := .slice (some ⟨q, o, none⟩) c.length cap) rfl rfl (by kernel_rfl) (by kernel_rfl) (by kernel_rfl) (fun _ _ _ h => h) (Or.inl ⟨by rfl, ?_⟩) (by assumption) ?_
  · intro V hSw; (try dsimp only at hSw); go_simp
  simp only [List.setIfInBounds_toArray, List.set_cons_zero, List.set_cons_succ]
  refine takeD (i := 25) (d := 41) (v := .agg #[.int .i64 (k : Nat), .bool x]) rfl rfl (by kernel_rfl) (by kernel_rfl) (by kernel_rfl) (fun _ _ _ h => h) (Or.inl ⟨by rfl, ?_⟩) (by assumption) ?_
  · intro V hSw; (try dsimp only at hSw); go_simp
  simp only [List.setIfInBounds_toArray, List.set_cons_zero, List.set_cons_succ]
  refine takeD (i := 27) (d := 43) (v := .bool true) rfl rfl (by kernel_rfl) (by kernel_rfl) (by kernel_rfl) (fun _ _ _ h => h) (Or.inl ⟨by rfl, ?_⟩) (by assumption) ?_
  · intro V hSw; (try dsimp only at hSw); go_simp
  simp only [List.setIfInBounds_toArray, List.set_cons_zero, List.set_cons_succ]
  refine takeD (i := 39) (d := 55) (v := .bool true) rfl rfl (by kernel_rfl) (by kernel_rfl) (by kernel_rfl) (fun _ _ _ h => h) (Or.inl ⟨by rfl, ?_⟩) (by assumption) ?_
  · intro V hSw; (try dsimp only at hSw); go_simp
  simp only [List.setIfInBounds_toArray, List.set_cons_zero, List.set_cons_succ]
  refine wpAnyH_ready (rs := [26]) (by kernel_rfl) (by simp) ?_
  refine AllReadyH.cons (o := { dst := some 42, op := Op.call { callee := Callee.value (Operand.func 61), args := #[Operand.tmp 40, Operand.tmp 41], argTypes := #[31, 89] }, type := 4, pos := "found.go:54", after := #[{ on := 24, ground := Ground.data }, { on := 25, ground := Ground.data }, { on := 20, ground := Ground.chain }], guard := none }) rfl (fun K hK => ?_) AllReadyH.nil
  go_simp
  refine (HOut.out _ hD).mono ?_
  rintro e V1 ⟨rfl, hb⟩
  have hD1 := hD.trans (hb.mono hD.size)
  clear hb hD
  have hD := hD1
  clear hD1
  refine hK.out _ _ (HK.out _ (Tch.of_idle hD)) (fun hHeld2 => ?_)
  clear hK
  try simp only [Act.put, List.setIfInBounds_toArray, List.set_cons_zero, List.set_cons_succ]
  refine takeD (i := 28) (d := 44) (v := .bool true) rfl rfl (by kernel_rfl) (by kernel_rfl) (by kernel_rfl) (fun _ _ _ h => h) (Or.inl ⟨by rfl, ?_⟩) (by assumption) ?_
  · intro V hSw; (try dsimp only at hSw); go_simp
  simp only [List.setIfInBounds_toArray, List.set_cons_zero, List.set_cons_succ]
  refine takeD (i := 29) (d := 45) (v := .pointer (some ⟨N + 2, 0, none⟩)) rfl rfl (by kernel_rfl) (by kernel_rfl) (by kernel_rfl) (fun _ _ _ h => h) (Or.inl ⟨by rfl, ?_⟩) (by assumption) ?_
  · intro V hSw; (try dsimp only at hSw); go_simp
  simp only [List.setIfInBounds_toArray, List.set_cons_zero, List.set_cons_succ]
  refine takeD (i := 30) (d := 46) (v := .int .i64 (17)) rfl rfl (by kernel_rfl) (by kernel_rfl) (by kernel_rfl) (fun _ _ _ h => h) (Or.inl ⟨by rfl, ?_⟩) (by assumption) ?_
  · intro V hSw; (try dsimp only at hSw); go_simp
  simp only [List.setIfInBounds_toArray, List.set_cons_zero, List.set_cons_succ]
  refine wpAnyH_ready (rs := [31]) (by kernel_rfl) (by simp) ?_
  refine AllReadyH.cons (o := { dst := some 47, op := Op.call { callee := Callee.value (Operand.func 62), args := #[Operand.tmp 46], argTypes := #[3] }, type := 4, pos := "found.go:55", after := #[{ on := 30, ground := Ground.data }, { on := 28, ground := Ground.chain }, { on := 28, ground := Ground.guard }], guard := some (28, true) }) rfl (fun K hK => ?_) AllReadyH.nil
  go_simp
  refine (HBr.out _).mono ?_
  rintro e V2 ⟨rfl, rfl⟩
  refine hK.out _ _ (HK.out _ (Tch.of_idle hD)) (fun hHeld2 => ?_)
  clear hK
  try simp only [Act.put, List.setIfInBounds_toArray, List.set_cons_zero, List.set_cons_succ]
  refine takeD (i := 32) (d := 48) (v := .bool false) rfl rfl (by kernel_rfl) (by kernel_rfl) (by kernel_rfl) (fun _ _ _ h => h) (Or.inl ⟨by rfl, ?_⟩) (by assumption) ?_
  · intro V hSw; (try dsimp only at hSw); go_simp
  simp only [List.setIfInBounds_toArray, List.set_cons_zero, List.set_cons_succ]
  refine takeD (i := 33) (d := 49) (v := .bool false) rfl rfl (by kernel_rfl) (by kernel_rfl) (by kernel_rfl) (fun _ _ _ h => h) (Or.inl ⟨by rfl, ?_⟩) (by assumption) ?_
  · intro V hSw; (try dsimp only at hSw); go_simp
  simp only [List.setIfInBounds_toArray, List.set_cons_zero, List.set_cons_succ]
  refine takeD (i := 34) (d := 50) (v := undef) rfl rfl (by kernel_rfl) (by kernel_rfl) (by kernel_rfl) (fun _ _ _ h => h) (Or.inr ⟨by rfl, rfl⟩) (by assumption) ?_
  simp only [List.setIfInBounds_toArray, List.set_cons_zero, List.set_cons_succ]
  refine takeD (i := 35) (d := 51) (v := undef) rfl rfl (by kernel_rfl) (by kernel_rfl) (by kernel_rfl) (fun _ _ _ h => h) (Or.inr ⟨by rfl, rfl⟩) (by assumption) ?_
  simp only [List.setIfInBounds_toArray, List.set_cons_zero, List.set_cons_succ]
  refine wpAnyH_ready (rs := [36]) (by kernel_rfl) (by simp) ?_
  refine AllReadyH.cons (o := { dst := some 52, op := Op.call { callee := Callee.value (Operand.func 45), args := #[Operand.tmp 51], argTypes := #[3] }, type := 4, pos := "found.go:55", after := #[{ on := 35, ground := Ground.data }, { on := 33, ground := Ground.chain }, { on := 33, ground := Ground.guard }], guard := some (33, true) }) rfl (fun K hK => ?_) AllReadyH.nil
  go_simp
  refine hK.out _ _ (HK.out _ (Tch.of_idle hD)) (fun hHeld2 => ?_)
  clear hK
  try simp only [Act.put, List.setIfInBounds_toArray, List.set_cons_zero, List.set_cons_succ]
  refine takeD (i := 37) (d := 53) (v := undef) rfl rfl (by kernel_rfl) (by kernel_rfl) (by kernel_rfl) (fun _ _ _ h => h) (Or.inr ⟨by rfl, rfl⟩) (by assumption) ?_
  simp only [List.setIfInBounds_toArray, List.set_cons_zero, List.set_cons_succ]
  refine takeD (i := 38) (d := 54) (v := .bool false) rfl rfl (by kernel_rfl) (by kernel_rfl) (by kernel_rfl) (fun _ _ _ h => h) (Or.inl ⟨by rfl, ?_⟩) (by assumption) ?_
  · intro V hSw; (try dsimp only at hSw); go_simp
  simp only [List.setIfInBounds_toArray, List.set_cons_zero, List.set_cons_succ]
  refine takeD (i := 40) (d := 56) (v := .bool true) rfl rfl (by kernel_rfl) (by kernel_rfl) (by kernel_rfl) (fun _ _ _ h => h) (Or.inl ⟨by rfl, ?_⟩) (by assumption) ?_
  · intro V hSw; (try dsimp only at hSw); go_simp
  simp only [List.setIfInBounds_toArray, List.set_cons_zero, List.set_cons_succ]
  refine takeD (i := 41) (d := 57) (v := .agg #[.int .i64 (17), .int .i64 ra, .int .i64 rb, .int .i64 rc, .int .i64 imm]) rfl rfl (by kernel_rfl) (by kernel_rfl) (by kernel_rfl) (fun _ _ _ h => h) (Or.inl ⟨by rfl, ?_⟩) (by assumption) ?_
  · intro V hSw; (try dsimp only at hSw); go_simp
  simp only [List.setIfInBounds_toArray, List.set_cons_zero, List.set_cons_succ]
  refine takeD (i := 43) (d := 59) (v := .int .u64 (m : Nat)) rfl rfl (by kernel_rfl) (by kernel_rfl) (by kernel_rfl) (fun _ _ _ h => h) (Or.inl ⟨by rfl, ?_⟩) (by assumption) ?_
  · intro V hSw; (try dsimp only at hSw); go_simp
  simp only [List.setIfInBounds_toArray, List.set_cons_zero, List.set_cons_succ]
  refine wpAnyH_ready (rs := [42]) (by kernel_rfl) (by simp) ?_
  refine AllReadyH.cons (o := { dst := some 58, op := Op.call { callee := Callee.value (Operand.func 63), args := #[Operand.tmp 57], argTypes := #[43] }, type := 91, pos := "found.go:56", after := #[{ on := 41, ground := Ground.data }, { on := 40, ground := Ground.chain }, { on := 40, ground := Ground.guard }], guard := some (40, true) }) rfl (fun K hK => ?_) AllReadyH.nil
  go_simp
  refine (HRd.out _).mono ?_
  rintro e V4 ⟨rfl, hb⟩
  have hD1 := hD.trans (hb.mono hD.size)
  clear hb hD
  have hD := hD1
  clear hD1
  refine hK.out _ _ (HK.out _ (Tch.of_idle hD)) (fun hHeld2 => ?_)
  clear hK
  try simp only [Act.put, List.setIfInBounds_toArray, List.set_cons_zero, List.set_cons_succ]
  refine takeD (i := 44) (d := 60) (v := .int .u64 (Go.bits .and .u64 ((readsM ⟨17, ra, rb, rc, imm⟩ : Nat) : Int) ((m : Nat) : Int))) rfl rfl (by kernel_rfl) (by kernel_rfl) (by kernel_rfl) (fun _ _ _ h => h) (Or.inl ⟨by rfl, ?_⟩) (by assumption) ?_
  · intro V hSw; (try dsimp only at hSw); go_simp
  simp only [List.setIfInBounds_toArray, List.set_cons_zero, List.set_cons_succ]
  refine takeD (i := 45) (d := 61) (v := .bool (Go.bits .and .u64 ((readsM ⟨17, ra, rb, rc, imm⟩ : Nat) : Int) ((m : Nat) : Int) != 0)) rfl rfl (by kernel_rfl) (by kernel_rfl) (by kernel_rfl) (fun _ _ _ h => h) (Or.inl ⟨by rfl, ?_⟩) (by assumption) ?_
  · intro V hSw; (try dsimp only at hSw); go_simp
  simp only [List.setIfInBounds_toArray, List.set_cons_zero, List.set_cons_succ]
  refine takeD (i := 46) (d := 62) (v := .bool (Go.bits .and .u64 ((readsM ⟨17, ra, rb, rc, imm⟩ : Nat) : Int) ((m : Nat) : Int) != 0)) rfl rfl (by kernel_rfl) (by kernel_rfl) (by kernel_rfl) (fun _ _ _ h => h) (Or.inl ⟨by rfl, ?_⟩) (by assumption) ?_
  · intro V hSw; (try dsimp only at hSw); go_simp
  simp only [List.setIfInBounds_toArray, List.set_cons_zero, List.set_cons_succ]
  refine takeD (i := 47) (d := 63) (v := .agg #[.bool false, .bool false, .bool false, .bool x, .bool false, .bool ob, .bool false, .bool (Go.bits .and .u64 ((readsM ⟨17, ra, rb, rc, imm⟩ : Nat) : Int) ((m : Nat) : Int) != 0), .bool false]) rfl rfl (by kernel_rfl) (by kernel_rfl) (by kernel_rfl) (fun _ _ _ h => h) (Or.inl ⟨by rfl, ?_⟩) (by assumption) ?_
  · intro V hSw; (try dsimp only at hSw); go_simp
  simp only [List.setIfInBounds_toArray, List.set_cons_zero, List.set_cons_succ]
  have hth := HTh.out _ hD
  have hone : ∀ v ∈ ([.bool false, .bool false, .bool false, .bool x, .bool false, .bool ob, .bool false, .bool (Go.bits .and .u64 ((readsM ⟨17, ra, rb, rc, imm⟩ : Nat) : Int) ((m : Nat) : Int) != 0), .bool false] : List Value), v.oneCell' = true := by simp [Value.oneCell']
  refine wpAnyH_ready (rs := [48]) (by kernel_rfl) (by simp) ?_
  refine AllReadyH.cons (o := { dst := none, op := Op.store 86 (Operand.tmp 6) (Operand.tmp 63), type := 0, pos := "found.go:49", after := #[{ on := 47, ground := Ground.data }, { on := 42, ground := Ground.chain }, { on := 0, ground := Ground.phase }, { on := 1, ground := Ground.phase }, { on := 2, ground := Ground.phase }, { on := 3, ground := Ground.phase }, { on := 4, ground := Ground.phase }, { on := 5, ground := Ground.phase }, { on := 6, ground := Ground.phase }, { on := 7, ground := Ground.phase }, { on := 8, ground := Ground.phase }, { on := 9, ground := Ground.phase }, { on := 10, ground := Ground.phase }, { on := 11, ground := Ground.phase }, { on := 12, ground := Ground.phase }, { on := 13, ground := Ground.phase }, { on := 14, ground := Ground.phase }, { on := 15, ground := Ground.phase }, { on := 16, ground := Ground.phase }, { on := 17, ground := Ground.phase }, { on := 18, ground := Ground.phase }, { on := 19, ground := Ground.phase }, { on := 20, ground := Ground.phase }, { on := 21, ground := Ground.phase }, { on := 22, ground := Ground.phase }, { on := 23, ground := Ground.phase }, { on := 24, ground := Ground.phase }, { on := 25, ground := Ground.phase }, { on := 26, ground := Ground.phase }, { on := 27, ground := Ground.phase }, { on := 28, ground := Ground.phase }, { on := 29, ground := Ground.phase }, { on := 30, ground := Ground.phase }, { on := 31, ground := Ground.phase }, { on := 32, ground := Ground.phase }, { on := 33, ground := Ground.phase }, { on := 34, ground := Ground.phase }, { on := 35, ground := Ground.phase }, { on := 36, ground := Ground.phase }, { on := 37, ground := Ground.phase }, { on := 38, ground := Ground.phase }, { on := 39, ground := Ground.phase }, { on := 40, ground := Ground.phase }, { on := 41, ground := Ground.phase }, { on := 42, ground := Ground.phase }, { on := 43, ground := Ground.phase }, { on := 44, ground := Ground.phase }, { on := 45, ground := Ground.phase }, { on := 46, ground := Ground.phase }, { on := 47, ground := Ground.phase }], guard := none }) rfl (fun K hK => ?_) AllReadyH.nil
  rw [if_pos (by rfl)]
  refine wp_store_mid _ _ _ rfl _ _ (List.toArray _) rfl rfl (by simpa using hth) ?_ (all_oneCell_toArray hone) ?_
  · first | exact Tryz.sizeFinds | simp [Tryz.sizeFinds]
  simp only [Act.put, List.toList_toArray]
  refine hK.out _ _ (HK.out _ (Tch.setCells (C := fun b => b = N + 1) (.inl rfl) _ _ (Tch.of_idle hD))) (fun hHeld2 => ?_)
  refine wpAnyH_done (by kernel_rfl) ?_ _
  have hret := Holds.sets [.bool false, .bool false, .bool false, .bool x, .bool false, .bool ob, .bool false, .bool (Go.bits .and .u64 ((readsM ⟨17, ra, rb, rc, imm⟩ : Nat) : Int) ((m : Nat) : Int) != 0), .bool false] 0 (Hs.out.2.1.below hD)
  go_wp2_with fail
  have hfinal := below_cells (B := N) (b := N + 1) (by omega) [.bool false, .bool false, .bool false, .bool x, .bool false, .bool ob, .bool false, .bool (Go.bits .and .u64 ((readsM ⟨17, ra, rb, rc, imm⟩ : Nat) : Int) ((m : Nat) : Int) != 0), .bool false] 0 _ ((show Below N w w2 by rw [← hN]; exact Hs.out.2.2.2).trans (hD.mono (by have := Hs.out.2.2.1.lt; omega)))
  refine bodyPost_ret (results_c rfl rfl (Tryz.loadFinds hret rfl)) rfl ⟨?_, hfinal⟩
  rw [bits_ne (readsM_lt Hl.out.1) Hm.out]
  rw [Hob.out]
  rfl

set_option maxRecDepth 100000 in
set_option maxHeartbeats 4000000 in
theorem fa_1 (a : Option Addr) (cap : Nat) (c : List In) (k m : Nat) (ra rb rc imm : Int) (x : Bool) (w : World) (N : Nat) (hN : w.heap.size = N) (hn : c.length ≤ 1024) (hF : FormsAt w) (hr : RowsIn w a 5 In.cells c) (hi : c[k]? = some ⟨1, ra, rb, rc, imm⟩) (hm : m < 256) (hl : legalP ⟨1, ra, rb, rc, imm⟩ = true) :
    Calls Tryz.prog 42 #[.slice a c.length cap, .agg #[.int .i64 (k : Nat), .bool x], .int .u64 (m : Nat)] w fun e w' => e = .returned (.agg (nineV false false false x ((lgo c (k, x)).any (outS c.length)) false ((readsM ⟨1, ra, rb, rc, imm⟩ &&& m) != 0)).toArray) ∧ Below N w w' := by
  have hlgo : lgo c (k, x) = lgoI ⟨1, ra, rb, rc, imm⟩ (k, x) := lgo_some hi
  obtain ⟨q, o, rfl, hq, hrow⟩ := hr.row hi
  have hk : k < c.length := (List.getElem?_eq_some_iff.1 hi).1
  have hkk : (0 : Int) ≤ (k : Int) ∧ (k : Int) < (c.length : Int) := by omega
  have HF := Lib.hid (And.intro hF (And.intro hr (And.intro hrow hq))); clear hF hr hrow hq
  have Hn := Lib.hid hn; clear hn
  have Hm := Lib.hid hm; clear hm
  have Hl := Lib.hid (And.intro hl (And.intro hi hlgo)); clear hi hk hlgo
  have hBr := fun (V : World) => bran_any (1) V
  rw [show (decide ((13 : Int) ≤ 1) && decide ((1 : Int) ≤ 16)) = false from by decide] at hBr
  have HBr := Lib.hid hBr; clear hBr
  have hPl := fun (V : World) => isPl_any imm V
  have HPl := Lib.hid hPl; clear hPl
  clear hl
  go_enter Tryz.func42, Tryz.ntmps42
  go_upto_region 1 with fail
  have hb1 : Below N w ((w.alloc (.cells #[.int .i64 (k : Nat), .bool x] 89)).alloc (.cells #[.bool false, .bool false, .bool false, .bool false, .bool false, .bool false, .bool false, .bool false, .bool false] 86)) := ((Below.refl _ w).alloc (by omega) _).alloc (by simp; omega) _
  have p1 : Holds ((w.alloc (.cells #[.int .i64 (k : Nat), .bool x] 89)).alloc (.cells #[.bool false, .bool false, .bool false, .bool false, .bool false, .bool false, .bool false, .bool false, .bool false] 86)) N 89 [.int .i64 (k : Nat), .bool x] := (newAt hN 89 [.int .i64 (k : Nat), .bool x]).alloc _
  have p2 : Holds ((w.alloc (.cells #[.int .i64 (k : Nat), .bool x] 89)).alloc (.cells #[.bool false, .bool false, .bool false, .bool false, .bool false, .bool false, .bool false, .bool false, .bool false] 86)) (N + 1) 86 (nineV false false false false false false false) := newAt (by simp [hN]) 86 (nineV false false false false false false false)
  have hs1 : ((w.alloc (.cells #[.int .i64 (k : Nat), .bool x] 89)).alloc (.cells #[.bool false, .bool false, .bool false, .bool false, .bool false, .bool false, .bool false, .bool false, .bool false] 86)).heap.size = N + 2 := by simp [hN]
  generalize (w.alloc (.cells #[.int .i64 (k : Nat), .bool x] 89)).alloc (.cells #[.bool false, .bool false, .bool false, .bool false, .bool false, .bool false, .bool false, .bool false, .bool false] 86) = w1 at *
  have hbw1 : Below w.heap.size w w1 := by rw [hN]; exact hb1
  have Hr := rangeAt_same HF.out.2.2.1 (hbw1.block q HF.out.2.2.2)
  have e0 := p1.cell (i := 0) rfl
  have r0 : w1.cell? ⟨q, o + k * 5, none⟩ = some (.int .i64 (1)) := Hr 0 _ rfl
  have r1 : w1.cell? ⟨q, o + k * 5 + 1, none⟩ = some (.int .i64 ra) := Hr 1 _ rfl
  have r2 : w1.cell? ⟨q, o + k * 5 + 2, none⟩ = some (.int .i64 rb) := Hr 2 _ rfl
  have r3 : w1.cell? ⟨q, o + k * 5 + 3, none⟩ = some (.int .i64 rc) := Hr 3 _ rfl
  have r4 : w1.cell? ⟨q, o + k * 5 + 4, none⟩ = some (.int .i64 imm) := Hr 4 _ rfl
  have hqi : Holds (w1.alloc (.cells #[.int .i64 (1), .int .i64 ra, .int .i64 rb, .int .i64 rc, .int .i64 imm] 43)) (N + 2) 43 (In.cells ⟨1, ra, rb, rc, imm⟩) := newAt hs1 43 (In.cells ⟨1, ra, rb, rc, imm⟩)
  have hb2 : Below w1.heap.size w1 (w1.alloc (.cells #[.int .i64 (1), .int .i64 ra, .int .i64 rb, .int .i64 rc, .int .i64 imm] 43)) := (Below.refl _ w1).alloc (Nat.le_refl _) _
  have hLg := legal_any ⟨1, ra, rb, rc, imm⟩ _ ((HF.out.1.below hbw1).below hb2)
  rw [Hl.out.1] at hLg
  simp only [In.val] at hLg
  have HLg := Lib.hid hLg; clear hLg
  have HB := Lib.hid (And.intro hbw1 (And.intro p1 (And.intro p2 (And.intro hs1 (And.intro hN (And.intro hqi hb2)))))); clear hb1 hbw1 p1 p2 hqi hb2 Hr
  go_wp2_with (go_at_call 14; refine HLg.out.mono ?_; rintro e w2 ⟨rfl, hb3⟩; refine Hid.out ?_)
  refine Lib.hid ?_
  have hB2 : Below w1.heap.size w1 w2 := HB.out.2.2.2.2.2.2.trans (hb3.mono (by simp))
  have hBw : Below w.heap.size w w2 := HB.out.1.trans (hB2.mono (by rw [hN, hs1]; omega))
  have s1 := HB.out.2.1.below hB2
  have s2 := HB.out.2.2.1.below hB2
  have s3 := HB.out.2.2.2.2.2.1.below hb3
  clear e0 r0 r1 r2 r3 r4 HLg
  have hlt2 := s3.lt
  have HK := Lib.hid (fun (V : World) (h : Tch (fun b => b = N + 1) w2 V) => (show V.cell? ⟨N, 0, none⟩ = some (.int .i64 (k : Nat)) ∧ V.cell? ⟨N, 1, none⟩ = some (.bool x) ∧ V.cell? ⟨N + 2, 0, none⟩ = some (.int .i64 (1)) ∧ V.cell? ⟨N + 2, 1, none⟩ = some (.int .i64 ra) ∧ V.cell? ⟨N + 2, 2, none⟩ = some (.int .i64 rb) ∧ V.cell? ⟨N + 2, 3, none⟩ = some (.int .i64 rc) ∧ V.cell? ⟨N + 2, 4, none⟩ = some (.int .i64 imm) from by
    have t1 := h.holds (b := N) (by omega) s1
    have t3 := h.holds (b := N + 2) (by omega) s3
    exact ⟨t1.cell (i := 0) rfl, t1.cell (i := 1) rfl, t3.cell (i := 0) rfl, t3.cell (i := 1) rfl, t3.cell (i := 2) rfl, t3.cell (i := 3) rfl, t3.cell (i := 4) rfl⟩))
  have HTh := Lib.hid (fun (V : World) (h : Below w2.heap.size w2 V) => (show V.there (N + 1) 0 9 from by
    have t2 := s2.below h
    intro j hj
    rw [Nat.zero_add]
    refine ⟨?_, t2.free j⟩
    rw [t2.cell (i := j) (v := (nineV false false false false false false false)[j]'(by simpa [nineV] using hj)) (List.getElem?_eq_getElem _)]
    rfl))
  have HOut := Lib.hid (fun (V : World) (h : Below w2.heap.size w2 V) => out_any (some ⟨q, o, none⟩) cap c (k, x) V Hn.out (HF.out.1.below (hBw.trans (h.mono hBw.size))) (HF.out.2.1.below (hBw.trans (h.mono hBw.size))))
  have hRd := fun (V : World) => reads_any ⟨1, ra, rb, rc, imm⟩ V Hl.out.1
  simp only [In.val] at hRd
  have HRd := Lib.hid hRd; clear hRd
  have Hs := Lib.hid (And.intro s1 (And.intro s2 (And.intro s3 hBw))); clear s1 s2 s3 hBw hB2 hb3 hlt2
  generalize hob : (lgo c (k, x)).any (outS c.length) = ob at HOut
  have Hob := Lib.hid hob; clear hob
  go_wp2_with fail
  refine wp_region_held_drew (S := fun V => V.cell? ⟨N, 0, none⟩ = some (.int .i64 (k : Nat)) ∧ V.cell? ⟨N, 1, none⟩ = some (.bool x) ∧ V.cell? ⟨N + 2, 0, none⟩ = some (.int .i64 (1)) ∧ V.cell? ⟨N + 2, 1, none⟩ = some (.int .i64 ra) ∧ V.cell? ⟨N + 2, 2, none⟩ = some (.int .i64 rb) ∧ V.cell? ⟨N + 2, 3, none⟩ = some (.int .i64 rc) ∧ V.cell? ⟨N + 2, 4, none⟩ = some (.int .i64 imm)) (by kernel_rfl) (HK.out _ (Tch.of_idle (below_drewN (Below.refl _ w2) 1))) (fun hHeld => ?_)
  have hD : Below w2.heap.size w2 w2.drew := below_drewN (Below.refl _ w2) 1
  refine takeD (i := 0) (d := 16) (v := .bool true) rfl rfl (by kernel_rfl) (by kernel_rfl) (by kernel_rfl) (fun _ _ _ h => h) (Or.inl ⟨by rfl, ?_⟩) (by assumption) ?_
  · intro V hSw; (try dsimp only at hSw); go_simp
  simp only [List.setIfInBounds_toArray, List.set_cons_zero, List.set_cons_succ]
  refine takeD (i := 1) (d := 17) (v := .bool false) rfl rfl (by kernel_rfl) (by kernel_rfl) (by kernel_rfl) (fun _ _ _ h => h) (Or.inl ⟨by rfl, ?_⟩) (by assumption) ?_
  · intro V hSw; (try dsimp only at hSw); go_simp
  simp only [List.setIfInBounds_toArray, List.set_cons_zero, List.set_cons_succ]
  refine takeD (i := 2) (d := 18) (v := .pointer (some ⟨N + 2, 0, none⟩)) rfl rfl (by kernel_rfl) (by kernel_rfl) (by kernel_rfl) (fun _ _ _ h => h) (Or.inl ⟨by rfl, ?_⟩) (by assumption) ?_
  · intro V hSw; (try dsimp only at hSw); go_simp
  simp only [List.setIfInBounds_toArray, List.set_cons_zero, List.set_cons_succ]
  refine takeD (i := 3) (d := 19) (v := .int .i64 (1)) rfl rfl (by kernel_rfl) (by kernel_rfl) (by kernel_rfl) (fun _ _ _ h => h) (Or.inl ⟨by rfl, ?_⟩) (by assumption) ?_
  · intro V hSw; (try dsimp only at hSw); go_simp
  simp only [List.setIfInBounds_toArray, List.set_cons_zero, List.set_cons_succ]
  refine takeD (i := 4) (d := 20) (v := .bool false) rfl rfl (by kernel_rfl) (by kernel_rfl) (by kernel_rfl) (fun _ _ _ h => h) (Or.inl ⟨by rfl, ?_⟩) (by assumption) ?_
  · intro V hSw; (try dsimp only at hSw); go_simp
  simp only [List.setIfInBounds_toArray, List.set_cons_zero, List.set_cons_succ]
  refine takeD (i := 5) (d := 21) (v := .bool false) rfl rfl (by kernel_rfl) (by kernel_rfl) (by kernel_rfl) (fun _ _ _ h => h) (Or.inl ⟨by rfl, ?_⟩) (by assumption) ?_
  · intro V hSw; (try dsimp only at hSw); go_simp
  simp only [List.setIfInBounds_toArray, List.set_cons_zero, List.set_cons_succ]
  refine takeD (i := 6) (d := 22) (v := undef) rfl rfl (by kernel_rfl) (by kernel_rfl) (by kernel_rfl) (fun _ _ _ h => h) (Or.inr ⟨by rfl, rfl⟩) (by assumption) ?_
  simp only [List.setIfInBounds_toArray, List.set_cons_zero, List.set_cons_succ]
  refine takeD (i := 7) (d := 23) (v := undef) rfl rfl (by kernel_rfl) (by kernel_rfl) (by kernel_rfl) (fun _ _ _ h => h) (Or.inr ⟨by rfl, rfl⟩) (by assumption) ?_
  simp only [List.setIfInBounds_toArray, List.set_cons_zero, List.set_cons_succ]
  refine takeD (i := 8) (d := 24) (v := undef) rfl rfl (by kernel_rfl) (by kernel_rfl) (by kernel_rfl) (fun _ _ _ h => h) (Or.inr ⟨by rfl, rfl⟩) (by assumption) ?_
  simp only [List.setIfInBounds_toArray, List.set_cons_zero, List.set_cons_succ]
  refine takeD (i := 9) (d := 25) (v := .bool false) rfl rfl (by kernel_rfl) (by kernel_rfl) (by kernel_rfl) (fun _ _ _ h => h) (Or.inl ⟨by rfl, ?_⟩) (by assumption) ?_
  · intro V hSw; (try dsimp only at hSw); go_simp
  simp only [List.setIfInBounds_toArray, List.set_cons_zero, List.set_cons_succ]
  refine takeD (i := 10) (d := 26) (v := .pointer (some ⟨N + 2, 0, none⟩)) rfl rfl (by kernel_rfl) (by kernel_rfl) (by kernel_rfl) (fun _ _ _ h => h) (Or.inl ⟨by rfl, ?_⟩) (by assumption) ?_
  · intro V hSw; (try dsimp only at hSw); go_simp
  simp only [List.setIfInBounds_toArray, List.set_cons_zero, List.set_cons_succ]
  refine takeD (i := 11) (d := 27) (v := .int .i64 (1)) rfl rfl (by kernel_rfl) (by kernel_rfl) (by kernel_rfl) (fun _ _ _ h => h) (Or.inl ⟨by rfl, ?_⟩) (by assumption) ?_
  · intro V hSw; (try dsimp only at hSw); go_simp
  simp only [List.setIfInBounds_toArray, List.set_cons_zero, List.set_cons_succ]
  refine takeD (i := 12) (d := 28) (v := .bool false) rfl rfl (by kernel_rfl) (by kernel_rfl) (by kernel_rfl) (fun _ _ _ h => h) (Or.inl ⟨by rfl, ?_⟩) (by assumption) ?_
  · intro V hSw; (try dsimp only at hSw); go_simp
  simp only [List.setIfInBounds_toArray, List.set_cons_zero, List.set_cons_succ]
  refine takeD (i := 13) (d := 29) (v := .bool false) rfl rfl (by kernel_rfl) (by kernel_rfl) (by kernel_rfl) (fun _ _ _ h => h) (Or.inl ⟨by rfl, ?_⟩) (by assumption) ?_
  · intro V hSw; (try dsimp only at hSw); go_simp
  simp only [List.setIfInBounds_toArray, List.set_cons_zero, List.set_cons_succ]
  refine takeD (i := 14) (d := 30) (v := undef) rfl rfl (by kernel_rfl) (by kernel_rfl) (by kernel_rfl) (fun _ _ _ h => h) (Or.inr ⟨by rfl, rfl⟩) (by assumption) ?_
  simp only [List.setIfInBounds_toArray, List.set_cons_zero, List.set_cons_succ]
  refine takeD (i := 15) (d := 31) (v := undef) rfl rfl (by kernel_rfl) (by kernel_rfl) (by kernel_rfl) (fun _ _ _ h => h) (Or.inr ⟨by rfl, rfl⟩) (by assumption) ?_
  simp only [List.setIfInBounds_toArray, List.set_cons_zero, List.set_cons_succ]
  refine takeD (i := 16) (d := 32) (v := .bool false) rfl rfl (by kernel_rfl) (by kernel_rfl) (by kernel_rfl) (fun _ _ _ h => h) (Or.inl ⟨by rfl, ?_⟩) (by assumption) ?_
  · intro V hSw; (try dsimp only at hSw); go_simp
  simp only [List.setIfInBounds_toArray, List.set_cons_zero, List.set_cons_succ]
  refine takeD (i := 17) (d := 33) (v := .pointer (some ⟨N + 2, 0, none⟩)) rfl rfl (by kernel_rfl) (by kernel_rfl) (by kernel_rfl) (fun _ _ _ h => h) (Or.inl ⟨by rfl, ?_⟩) (by assumption) ?_
  · intro V hSw; (try dsimp only at hSw); go_simp
  simp only [List.setIfInBounds_toArray, List.set_cons_zero, List.set_cons_succ]
  refine takeD (i := 18) (d := 34) (v := .int .i64 (1)) rfl rfl (by kernel_rfl) (by kernel_rfl) (by kernel_rfl) (fun _ _ _ h => h) (Or.inl ⟨by rfl, ?_⟩) (by assumption) ?_
  · intro V hSw; (try dsimp only at hSw); go_simp
  simp only [List.setIfInBounds_toArray, List.set_cons_zero, List.set_cons_succ]
  refine takeD (i := 19) (d := 35) (v := .bool true) rfl rfl (by kernel_rfl) (by kernel_rfl) (by kernel_rfl) (fun _ _ _ h => h) (Or.inl ⟨by rfl, ?_⟩) (by assumption) ?_
  · intro V hSw; (try dsimp only at hSw); go_simp
  simp only [List.setIfInBounds_toArray, List.set_cons_zero, List.set_cons_succ]
  refine takeD (i := 20) (d := 36) (v := .bool true) rfl rfl (by kernel_rfl) (by kernel_rfl) (by kernel_rfl) (fun _ _ _ h => h) (Or.inl ⟨by rfl, ?_⟩) (by assumption) ?_
  · intro V hSw; (try dsimp only at hSw); go_simp
  simp only [List.setIfInBounds_toArray, List.set_cons_zero, List.set_cons_succ]
  refine takeD (i := 21) (d := 37) (v := .pointer (some ⟨N, 1, none⟩)) rfl rfl (by kernel_rfl) (by kernel_rfl) (by kernel_rfl) (fun _ _ _ h => h) (Or.inl ⟨by rfl, ?_⟩) (by assumption) ?_
  · intro V hSw; (try dsimp only at hSw); go_simp
  simp only [List.setIfInBounds_toArray, List.set_cons_zero, List.set_cons_succ]
  refine takeD (i := 22) (d := 38) (v := .bool x) rfl rfl (by kernel_rfl) (by kernel_rfl) (by kernel_rfl) (fun _ _ _ h => h) (Or.inl ⟨by rfl, ?_⟩) (by assumption) ?_
  · intro V hSw; (try dsimp only at hSw); go_simp
  simp only [List.setIfInBounds_toArray, List.set_cons_zero, List.set_cons_succ]
  refine takeD (i := 23) (d := 39) (v := .bool x) rfl rfl (by kernel_rfl) (by kernel_rfl) (by kernel_rfl) (fun _ _ _ h => h) (Or.inl ⟨by rfl, ?_⟩) (by assumption) ?_
  · intro V hSw; (try dsimp only at hSw); go_simp
  simp only [List.setIfInBounds_toArray, List.set_cons_zero, List.set_cons_succ]
  refine takeD (i := 24) (d := 40) (v := .slice (some ⟨q, o, none⟩) c.length cap) rfl rfl (by kernel_rfl) (by kernel_rfl) (by kernel_rfl) (fun _ _ _ h => h) (Or.inl ⟨by rfl, ?_⟩) (by assumption) ?_
  · intro V hSw; (try dsimp only at hSw); go_simp
  simp only [List.setIfInBounds_toArray, List.set_cons_zero, List.set_cons_succ]
  refine takeD (i := 25) (d := 41) (v := .agg #[.int .i64 (k : Nat), .bool x]) rfl rfl (by kernel_rfl) (by kernel_rfl) (by kernel_rfl) (fun _ _ _ h => h) (Or.inl ⟨by rfl, ?_⟩) (by assumption) ?_
  · intro V hSw; (try dsimp only at hSw); go_simp
  simp only [List.setIfInBounds_toArray, List.set_cons_zero, List.set_cons_succ]
  refine takeD (i := 27) (d := 43) (v := .bool true) rfl rfl (by kernel_rfl) (by kernel_rfl) (by kernel_rfl) (fun _ _ _ h => h) (Or.inl ⟨by rfl, ?_⟩) (by assumption) ?_
  · intro V hSw; (try dsimp only at hSw); go_simp
  simp only [List.setIfInBounds_toArray, List.set_cons_zero, List.set_cons_succ]
  refine takeD (i := 39) (d := 55) (v := .bool true) rfl rfl (by kernel_rfl) (by kernel_rfl) (by kernel_rfl) (fun _ _ _ h => h) (Or.inl ⟨by rfl, ?_⟩) (by assumption) ?_
  · intro V hSw; (try dsimp only at hSw); go_simp
  simp only [List.setIfInBounds_toArray, List.set_cons_zero, List.set_cons_succ]
  refine wpAnyH_ready (rs := [26]) (by kernel_rfl) (by simp) ?_
  refine AllReadyH.cons (o := { dst := some 42, op := Op.call { callee := Callee.value (Operand.func 61), args := #[Operand.tmp 40, Operand.tmp 41], argTypes := #[31, 89] }, type := 4, pos := "found.go:54", after := #[{ on := 24, ground := Ground.data }, { on := 25, ground := Ground.data }, { on := 20, ground := Ground.chain }], guard := none }) rfl (fun K hK => ?_) AllReadyH.nil
  go_simp
  refine (HOut.out _ hD).mono ?_
  rintro e V1 ⟨rfl, hb⟩
  have hD1 := hD.trans (hb.mono hD.size)
  clear hb hD
  have hD := hD1
  clear hD1
  refine hK.out _ _ (HK.out _ (Tch.of_idle hD)) (fun hHeld2 => ?_)
  clear hK
  try simp only [Act.put, List.setIfInBounds_toArray, List.set_cons_zero, List.set_cons_succ]
  refine takeD (i := 28) (d := 44) (v := .bool true) rfl rfl (by kernel_rfl) (by kernel_rfl) (by kernel_rfl) (fun _ _ _ h => h) (Or.inl ⟨by rfl, ?_⟩) (by assumption) ?_
  · intro V hSw; (try dsimp only at hSw); go_simp
  simp only [List.setIfInBounds_toArray, List.set_cons_zero, List.set_cons_succ]
  refine takeD (i := 29) (d := 45) (v := .pointer (some ⟨N + 2, 0, none⟩)) rfl rfl (by kernel_rfl) (by kernel_rfl) (by kernel_rfl) (fun _ _ _ h => h) (Or.inl ⟨by rfl, ?_⟩) (by assumption) ?_
  · intro V hSw; (try dsimp only at hSw); go_simp
  simp only [List.setIfInBounds_toArray, List.set_cons_zero, List.set_cons_succ]
  refine takeD (i := 30) (d := 46) (v := .int .i64 (1)) rfl rfl (by kernel_rfl) (by kernel_rfl) (by kernel_rfl) (fun _ _ _ h => h) (Or.inl ⟨by rfl, ?_⟩) (by assumption) ?_
  · intro V hSw; (try dsimp only at hSw); go_simp
  simp only [List.setIfInBounds_toArray, List.set_cons_zero, List.set_cons_succ]
  refine wpAnyH_ready (rs := [31]) (by kernel_rfl) (by simp) ?_
  refine AllReadyH.cons (o := { dst := some 47, op := Op.call { callee := Callee.value (Operand.func 62), args := #[Operand.tmp 46], argTypes := #[3] }, type := 4, pos := "found.go:55", after := #[{ on := 30, ground := Ground.data }, { on := 28, ground := Ground.chain }, { on := 28, ground := Ground.guard }], guard := some (28, true) }) rfl (fun K hK => ?_) AllReadyH.nil
  go_simp
  refine (HBr.out _).mono ?_
  rintro e V2 ⟨rfl, rfl⟩
  refine hK.out _ _ (HK.out _ (Tch.of_idle hD)) (fun hHeld2 => ?_)
  clear hK
  try simp only [Act.put, List.setIfInBounds_toArray, List.set_cons_zero, List.set_cons_succ]
  refine takeD (i := 32) (d := 48) (v := .bool false) rfl rfl (by kernel_rfl) (by kernel_rfl) (by kernel_rfl) (fun _ _ _ h => h) (Or.inl ⟨by rfl, ?_⟩) (by assumption) ?_
  · intro V hSw; (try dsimp only at hSw); go_simp
  simp only [List.setIfInBounds_toArray, List.set_cons_zero, List.set_cons_succ]
  refine takeD (i := 33) (d := 49) (v := .bool false) rfl rfl (by kernel_rfl) (by kernel_rfl) (by kernel_rfl) (fun _ _ _ h => h) (Or.inl ⟨by rfl, ?_⟩) (by assumption) ?_
  · intro V hSw; (try dsimp only at hSw); go_simp
  simp only [List.setIfInBounds_toArray, List.set_cons_zero, List.set_cons_succ]
  refine takeD (i := 34) (d := 50) (v := undef) rfl rfl (by kernel_rfl) (by kernel_rfl) (by kernel_rfl) (fun _ _ _ h => h) (Or.inr ⟨by rfl, rfl⟩) (by assumption) ?_
  simp only [List.setIfInBounds_toArray, List.set_cons_zero, List.set_cons_succ]
  refine takeD (i := 35) (d := 51) (v := undef) rfl rfl (by kernel_rfl) (by kernel_rfl) (by kernel_rfl) (fun _ _ _ h => h) (Or.inr ⟨by rfl, rfl⟩) (by assumption) ?_
  simp only [List.setIfInBounds_toArray, List.set_cons_zero, List.set_cons_succ]
  refine wpAnyH_ready (rs := [36]) (by kernel_rfl) (by simp) ?_
  refine AllReadyH.cons (o := { dst := some 52, op := Op.call { callee := Callee.value (Operand.func 45), args := #[Operand.tmp 51], argTypes := #[3] }, type := 4, pos := "found.go:55", after := #[{ on := 35, ground := Ground.data }, { on := 33, ground := Ground.chain }, { on := 33, ground := Ground.guard }], guard := some (33, true) }) rfl (fun K hK => ?_) AllReadyH.nil
  go_simp
  refine hK.out _ _ (HK.out _ (Tch.of_idle hD)) (fun hHeld2 => ?_)
  clear hK
  try simp only [Act.put, List.setIfInBounds_toArray, List.set_cons_zero, List.set_cons_succ]
  refine takeD (i := 37) (d := 53) (v := undef) rfl rfl (by kernel_rfl) (by kernel_rfl) (by kernel_rfl) (fun _ _ _ h => h) (Or.inr ⟨by rfl, rfl⟩) (by assumption) ?_
  simp only [List.setIfInBounds_toArray, List.set_cons_zero, List.set_cons_succ]
  refine takeD (i := 38) (d := 54) (v := .bool false) rfl rfl (by kernel_rfl) (by kernel_rfl) (by kernel_rfl) (fun _ _ _ h => h) (Or.inl ⟨by rfl, ?_⟩) (by assumption) ?_
  · intro V hSw; (try dsimp only at hSw); go_simp
  simp only [List.setIfInBounds_toArray, List.set_cons_zero, List.set_cons_succ]
  refine takeD (i := 40) (d := 56) (v := .bool true) rfl rfl (by kernel_rfl) (by kernel_rfl) (by kernel_rfl) (fun _ _ _ h => h) (Or.inl ⟨by rfl, ?_⟩) (by assumption) ?_
  · intro V hSw; (try dsimp only at hSw); go_simp
  simp only [List.setIfInBounds_toArray, List.set_cons_zero, List.set_cons_succ]
  refine takeD (i := 41) (d := 57) (v := .agg #[.int .i64 (1), .int .i64 ra, .int .i64 rb, .int .i64 rc, .int .i64 imm]) rfl rfl (by kernel_rfl) (by kernel_rfl) (by kernel_rfl) (fun _ _ _ h => h) (Or.inl ⟨by rfl, ?_⟩) (by assumption) ?_
  · intro V hSw; (try dsimp only at hSw); go_simp
  simp only [List.setIfInBounds_toArray, List.set_cons_zero, List.set_cons_succ]
  refine takeD (i := 43) (d := 59) (v := .int .u64 (m : Nat)) rfl rfl (by kernel_rfl) (by kernel_rfl) (by kernel_rfl) (fun _ _ _ h => h) (Or.inl ⟨by rfl, ?_⟩) (by assumption) ?_
  · intro V hSw; (try dsimp only at hSw); go_simp
  simp only [List.setIfInBounds_toArray, List.set_cons_zero, List.set_cons_succ]
  refine wpAnyH_ready (rs := [42]) (by kernel_rfl) (by simp) ?_
  refine AllReadyH.cons (o := { dst := some 58, op := Op.call { callee := Callee.value (Operand.func 63), args := #[Operand.tmp 57], argTypes := #[43] }, type := 91, pos := "found.go:56", after := #[{ on := 41, ground := Ground.data }, { on := 40, ground := Ground.chain }, { on := 40, ground := Ground.guard }], guard := some (40, true) }) rfl (fun K hK => ?_) AllReadyH.nil
  go_simp
  refine (HRd.out _).mono ?_
  rintro e V4 ⟨rfl, hb⟩
  have hD1 := hD.trans (hb.mono hD.size)
  clear hb hD
  have hD := hD1
  clear hD1
  refine hK.out _ _ (HK.out _ (Tch.of_idle hD)) (fun hHeld2 => ?_)
  clear hK
  try simp only [Act.put, List.setIfInBounds_toArray, List.set_cons_zero, List.set_cons_succ]
  refine takeD (i := 44) (d := 60) (v := .int .u64 (Go.bits .and .u64 ((readsM ⟨1, ra, rb, rc, imm⟩ : Nat) : Int) ((m : Nat) : Int))) rfl rfl (by kernel_rfl) (by kernel_rfl) (by kernel_rfl) (fun _ _ _ h => h) (Or.inl ⟨by rfl, ?_⟩) (by assumption) ?_
  · intro V hSw; (try dsimp only at hSw); go_simp
  simp only [List.setIfInBounds_toArray, List.set_cons_zero, List.set_cons_succ]
  refine takeD (i := 45) (d := 61) (v := .bool (Go.bits .and .u64 ((readsM ⟨1, ra, rb, rc, imm⟩ : Nat) : Int) ((m : Nat) : Int) != 0)) rfl rfl (by kernel_rfl) (by kernel_rfl) (by kernel_rfl) (fun _ _ _ h => h) (Or.inl ⟨by rfl, ?_⟩) (by assumption) ?_
  · intro V hSw; (try dsimp only at hSw); go_simp
  simp only [List.setIfInBounds_toArray, List.set_cons_zero, List.set_cons_succ]
  refine takeD (i := 46) (d := 62) (v := .bool (Go.bits .and .u64 ((readsM ⟨1, ra, rb, rc, imm⟩ : Nat) : Int) ((m : Nat) : Int) != 0)) rfl rfl (by kernel_rfl) (by kernel_rfl) (by kernel_rfl) (fun _ _ _ h => h) (Or.inl ⟨by rfl, ?_⟩) (by assumption) ?_
  · intro V hSw; (try dsimp only at hSw); go_simp
  simp only [List.setIfInBounds_toArray, List.set_cons_zero, List.set_cons_succ]
  refine takeD (i := 47) (d := 63) (v := .agg #[.bool false, .bool false, .bool false, .bool false, .bool x, .bool ob, .bool false, .bool (Go.bits .and .u64 ((readsM ⟨1, ra, rb, rc, imm⟩ : Nat) : Int) ((m : Nat) : Int) != 0), .bool false]) rfl rfl (by kernel_rfl) (by kernel_rfl) (by kernel_rfl) (fun _ _ _ h => h) (Or.inl ⟨by rfl, ?_⟩) (by assumption) ?_
  · intro V hSw; (try dsimp only at hSw); go_simp
  simp only [List.setIfInBounds_toArray, List.set_cons_zero, List.set_cons_succ]
  have hth := HTh.out _ hD
  have hone : ∀ v ∈ ([.bool false, .bool false, .bool false, .bool false, .bool x, .bool ob, .bool false, .bool (Go.bits .and .u64 ((readsM ⟨1, ra, rb, rc, imm⟩ : Nat) : Int) ((m : Nat) : Int) != 0), .bool false] : List Value), v.oneCell' = true := by simp [Value.oneCell']
  refine wpAnyH_ready (rs := [48]) (by kernel_rfl) (by simp) ?_
  refine AllReadyH.cons (o := { dst := none, op := Op.store 86 (Operand.tmp 6) (Operand.tmp 63), type := 0, pos := "found.go:49", after := #[{ on := 47, ground := Ground.data }, { on := 42, ground := Ground.chain }, { on := 0, ground := Ground.phase }, { on := 1, ground := Ground.phase }, { on := 2, ground := Ground.phase }, { on := 3, ground := Ground.phase }, { on := 4, ground := Ground.phase }, { on := 5, ground := Ground.phase }, { on := 6, ground := Ground.phase }, { on := 7, ground := Ground.phase }, { on := 8, ground := Ground.phase }, { on := 9, ground := Ground.phase }, { on := 10, ground := Ground.phase }, { on := 11, ground := Ground.phase }, { on := 12, ground := Ground.phase }, { on := 13, ground := Ground.phase }, { on := 14, ground := Ground.phase }, { on := 15, ground := Ground.phase }, { on := 16, ground := Ground.phase }, { on := 17, ground := Ground.phase }, { on := 18, ground := Ground.phase }, { on := 19, ground := Ground.phase }, { on := 20, ground := Ground.phase }, { on := 21, ground := Ground.phase }, { on := 22, ground := Ground.phase }, { on := 23, ground := Ground.phase }, { on := 24, ground := Ground.phase }, { on := 25, ground := Ground.phase }, { on := 26, ground := Ground.phase }, { on := 27, ground := Ground.phase }, { on := 28, ground := Ground.phase }, { on := 29, ground := Ground.phase }, { on := 30, ground := Ground.phase }, { on := 31, ground := Ground.phase }, { on := 32, ground := Ground.phase }, { on := 33, ground := Ground.phase }, { on := 34, ground := Ground.phase }, { on := 35, ground := Ground.phase }, { on := 36, ground := Ground.phase }, { on := 37, ground := Ground.phase }, { on := 38, ground := Ground.phase }, { on := 39, ground := Ground.phase }, { on := 40, ground := Ground.phase }, { on := 41, ground := Ground.phase }, { on := 42, ground := Ground.phase }, { on := 43, ground := Ground.phase }, { on := 44, ground := Ground.phase }, { on := 45, ground := Ground.phase }, { on := 46, ground := Ground.phase }, { on := 47, ground := Ground.phase }], guard := none }) rfl (fun K hK => ?_) AllReadyH.nil
  rw [if_pos (by rfl)]
  refine wp_store_mid _ _ _ rfl _ _ (List.toArray _) rfl rfl (by simpa using hth) ?_ (all_oneCell_toArray hone) ?_
  · first | exact Tryz.sizeFinds | simp [Tryz.sizeFinds]
  simp only [Act.put, List.toList_toArray]
  refine hK.out _ _ (HK.out _ (Tch.setCells (C := fun b => b = N + 1) (.inl rfl) _ _ (Tch.of_idle hD))) (fun hHeld2 => ?_)
  refine wpAnyH_done (by kernel_rfl) ?_ _
  have hret := Holds.sets [.bool false, .bool false, .bool false, .bool false, .bool x, .bool ob, .bool false, .bool (Go.bits .and .u64 ((readsM ⟨1, ra, rb, rc, imm⟩ : Nat) : Int) ((m : Nat) : Int) != 0), .bool false] 0 (Hs.out.2.1.below hD)
  go_wp2_with fail
  have hfinal := below_cells (B := N) (b := N + 1) (by omega) [.bool false, .bool false, .bool false, .bool false, .bool x, .bool ob, .bool false, .bool (Go.bits .and .u64 ((readsM ⟨1, ra, rb, rc, imm⟩ : Nat) : Int) ((m : Nat) : Int) != 0), .bool false] 0 _ ((show Below N w w2 by rw [← hN]; exact Hs.out.2.2.2).trans (hD.mono (by have := Hs.out.2.2.1.lt; omega)))
  refine bodyPost_ret (results_c rfl rfl (Tryz.loadFinds hret rfl)) rfl ⟨?_, hfinal⟩
  rw [bits_ne (readsM_lt Hl.out.1) Hm.out]
  rw [Hob.out]
  rfl

set_option maxRecDepth 100000 in
set_option maxHeartbeats 4000000 in
theorem fa_oth (a : Option Addr) (cap : Nat) (c : List In) (k m : Nat) (op : Int) (ra rb rc imm : Int) (x : Bool) (w : World) (N : Nat) (hN : w.heap.size = N) (hn : c.length ≤ 1024) (hF : FormsAt w) (hr : RowsIn w a 5 In.cells c) (hi : c[k]? = some ⟨op, ra, rb, rc, imm⟩) (hm : m < 256) (hl : legalP ⟨op, ra, rb, rc, imm⟩ = true) (h18 : op ≠ 18) (h17 : op ≠ 17) (h1 : op ≠ 1) (hgo : (decide (13 ≤ op) && decide (op ≤ 16)) = false) :
    Calls Tryz.prog 42 #[.slice a c.length cap, .agg #[.int .i64 (k : Nat), .bool x], .int .u64 (m : Nat)] w fun e w' => e = .returned (.agg (nineV false false false false ((lgo c (k, x)).any (outS c.length)) false ((readsM ⟨op, ra, rb, rc, imm⟩ &&& m) != 0)).toArray) ∧ Below N w w' := by
  have hlgo : lgo c (k, x) = lgoI ⟨op, ra, rb, rc, imm⟩ (k, x) := lgo_some hi
  obtain ⟨q, o, rfl, hq, hrow⟩ := hr.row hi
  have hk : k < c.length := (List.getElem?_eq_some_iff.1 hi).1
  have hkk : (0 : Int) ≤ (k : Int) ∧ (k : Int) < (c.length : Int) := by omega
  have HF := Lib.hid (And.intro hF (And.intro hr (And.intro hrow hq))); clear hF hr hrow hq
  have Hn := Lib.hid hn; clear hn
  have Hm := Lib.hid hm; clear hm
  have Hl := Lib.hid (And.intro hl (And.intro hi hlgo)); clear hi hk hlgo
  have f18 : (op == 18) = false := by simpa using h18
  have f17 : (op == 17) = false := by simpa using h17
  have f1 : (op == 1) = false := by simpa using h1
  have hBr := fun (V : World) => bran_any (op) V
  rw [hgo] at hBr
  have HBr := Lib.hid hBr; clear hBr
  have hPl := fun (V : World) => isPl_any imm V
  have HPl := Lib.hid hPl; clear hPl
  clear hl
  go_enter Tryz.func42, Tryz.ntmps42
  go_upto_region 1 with fail
  have hb1 : Below N w ((w.alloc (.cells #[.int .i64 (k : Nat), .bool x] 89)).alloc (.cells #[.bool false, .bool false, .bool false, .bool false, .bool false, .bool false, .bool false, .bool false, .bool false] 86)) := ((Below.refl _ w).alloc (by omega) _).alloc (by simp; omega) _
  have p1 : Holds ((w.alloc (.cells #[.int .i64 (k : Nat), .bool x] 89)).alloc (.cells #[.bool false, .bool false, .bool false, .bool false, .bool false, .bool false, .bool false, .bool false, .bool false] 86)) N 89 [.int .i64 (k : Nat), .bool x] := (newAt hN 89 [.int .i64 (k : Nat), .bool x]).alloc _
  have p2 : Holds ((w.alloc (.cells #[.int .i64 (k : Nat), .bool x] 89)).alloc (.cells #[.bool false, .bool false, .bool false, .bool false, .bool false, .bool false, .bool false, .bool false, .bool false] 86)) (N + 1) 86 (nineV false false false false false false false) := newAt (by simp [hN]) 86 (nineV false false false false false false false)
  have hs1 : ((w.alloc (.cells #[.int .i64 (k : Nat), .bool x] 89)).alloc (.cells #[.bool false, .bool false, .bool false, .bool false, .bool false, .bool false, .bool false, .bool false, .bool false] 86)).heap.size = N + 2 := by simp [hN]
  generalize (w.alloc (.cells #[.int .i64 (k : Nat), .bool x] 89)).alloc (.cells #[.bool false, .bool false, .bool false, .bool false, .bool false, .bool false, .bool false, .bool false, .bool false] 86) = w1 at *
  have hbw1 : Below w.heap.size w w1 := by rw [hN]; exact hb1
  have Hr := rangeAt_same HF.out.2.2.1 (hbw1.block q HF.out.2.2.2)
  have e0 := p1.cell (i := 0) rfl
  have r0 : w1.cell? ⟨q, o + k * 5, none⟩ = some (.int .i64 (op)) := Hr 0 _ rfl
  have r1 : w1.cell? ⟨q, o + k * 5 + 1, none⟩ = some (.int .i64 ra) := Hr 1 _ rfl
  have r2 : w1.cell? ⟨q, o + k * 5 + 2, none⟩ = some (.int .i64 rb) := Hr 2 _ rfl
  have r3 : w1.cell? ⟨q, o + k * 5 + 3, none⟩ = some (.int .i64 rc) := Hr 3 _ rfl
  have r4 : w1.cell? ⟨q, o + k * 5 + 4, none⟩ = some (.int .i64 imm) := Hr 4 _ rfl
  have hqi : Holds (w1.alloc (.cells #[.int .i64 (op), .int .i64 ra, .int .i64 rb, .int .i64 rc, .int .i64 imm] 43)) (N + 2) 43 (In.cells ⟨op, ra, rb, rc, imm⟩) := newAt hs1 43 (In.cells ⟨op, ra, rb, rc, imm⟩)
  have hb2 : Below w1.heap.size w1 (w1.alloc (.cells #[.int .i64 (op), .int .i64 ra, .int .i64 rb, .int .i64 rc, .int .i64 imm] 43)) := (Below.refl _ w1).alloc (Nat.le_refl _) _
  have hLg := legal_any ⟨op, ra, rb, rc, imm⟩ _ ((HF.out.1.below hbw1).below hb2)
  rw [Hl.out.1] at hLg
  simp only [In.val] at hLg
  have HLg := Lib.hid hLg; clear hLg
  have HB := Lib.hid (And.intro hbw1 (And.intro p1 (And.intro p2 (And.intro hs1 (And.intro hN (And.intro hqi hb2)))))); clear hb1 hbw1 p1 p2 hqi hb2 Hr
  go_wp2_with (go_at_call 14; refine HLg.out.mono ?_; rintro e w2 ⟨rfl, hb3⟩; refine Hid.out ?_)
  refine Lib.hid ?_
  have hB2 : Below w1.heap.size w1 w2 := HB.out.2.2.2.2.2.2.trans (hb3.mono (by simp))
  have hBw : Below w.heap.size w w2 := HB.out.1.trans (hB2.mono (by rw [hN, hs1]; omega))
  have s1 := HB.out.2.1.below hB2
  have s2 := HB.out.2.2.1.below hB2
  have s3 := HB.out.2.2.2.2.2.1.below hb3
  clear e0 r0 r1 r2 r3 r4 HLg
  have hlt2 := s3.lt
  have HK := Lib.hid (fun (V : World) (h : Tch (fun b => b = N + 1) w2 V) => (show V.cell? ⟨N, 0, none⟩ = some (.int .i64 (k : Nat)) ∧ V.cell? ⟨N, 1, none⟩ = some (.bool x) ∧ V.cell? ⟨N + 2, 0, none⟩ = some (.int .i64 (op)) ∧ V.cell? ⟨N + 2, 1, none⟩ = some (.int .i64 ra) ∧ V.cell? ⟨N + 2, 2, none⟩ = some (.int .i64 rb) ∧ V.cell? ⟨N + 2, 3, none⟩ = some (.int .i64 rc) ∧ V.cell? ⟨N + 2, 4, none⟩ = some (.int .i64 imm) from by
    have t1 := h.holds (b := N) (by omega) s1
    have t3 := h.holds (b := N + 2) (by omega) s3
    exact ⟨t1.cell (i := 0) rfl, t1.cell (i := 1) rfl, t3.cell (i := 0) rfl, t3.cell (i := 1) rfl, t3.cell (i := 2) rfl, t3.cell (i := 3) rfl, t3.cell (i := 4) rfl⟩))
  have HTh := Lib.hid (fun (V : World) (h : Below w2.heap.size w2 V) => (show V.there (N + 1) 0 9 from by
    have t2 := s2.below h
    intro j hj
    rw [Nat.zero_add]
    refine ⟨?_, t2.free j⟩
    rw [t2.cell (i := j) (v := (nineV false false false false false false false)[j]'(by simpa [nineV] using hj)) (List.getElem?_eq_getElem _)]
    rfl))
  have HOut := Lib.hid (fun (V : World) (h : Below w2.heap.size w2 V) => out_any (some ⟨q, o, none⟩) cap c (k, x) V Hn.out (HF.out.1.below (hBw.trans (h.mono hBw.size))) (HF.out.2.1.below (hBw.trans (h.mono hBw.size))))
  have hRd := fun (V : World) => reads_any ⟨op, ra, rb, rc, imm⟩ V Hl.out.1
  simp only [In.val] at hRd
  have HRd := Lib.hid hRd; clear hRd
  have Hs := Lib.hid (And.intro s1 (And.intro s2 (And.intro s3 hBw))); clear s1 s2 s3 hBw hB2 hb3 hlt2
  generalize hob : (lgo c (k, x)).any (outS c.length) = ob at HOut
  have Hob := Lib.hid hob; clear hob
  go_wp2_with fail
  refine wp_region_held_drew (S := fun V => V.cell? ⟨N, 0, none⟩ = some (.int .i64 (k : Nat)) ∧ V.cell? ⟨N, 1, none⟩ = some (.bool x) ∧ V.cell? ⟨N + 2, 0, none⟩ = some (.int .i64 (op)) ∧ V.cell? ⟨N + 2, 1, none⟩ = some (.int .i64 ra) ∧ V.cell? ⟨N + 2, 2, none⟩ = some (.int .i64 rb) ∧ V.cell? ⟨N + 2, 3, none⟩ = some (.int .i64 rc) ∧ V.cell? ⟨N + 2, 4, none⟩ = some (.int .i64 imm)) (by kernel_rfl) (HK.out _ (Tch.of_idle (below_drewN (Below.refl _ w2) 1))) (fun hHeld => ?_)
  have hD : Below w2.heap.size w2 w2.drew := below_drewN (Below.refl _ w2) 1
  refine takeD (i := 0) (d := 16) (v := .bool true) rfl rfl (by kernel_rfl) (by kernel_rfl) (by kernel_rfl) (fun _ _ _ h => h) (Or.inl ⟨by rfl, ?_⟩) (by assumption) ?_
  · intro V hSw; (try dsimp only at hSw); go_simp
  simp only [List.setIfInBounds_toArray, List.set_cons_zero, List.set_cons_succ]
  refine takeD (i := 1) (d := 17) (v := .bool false) rfl rfl (by kernel_rfl) (by kernel_rfl) (by kernel_rfl) (fun _ _ _ h => h) (Or.inl ⟨by rfl, ?_⟩) (by assumption) ?_
  · intro V hSw; (try dsimp only at hSw); go_simp
  simp only [List.setIfInBounds_toArray, List.set_cons_zero, List.set_cons_succ]
  refine takeD (i := 2) (d := 18) (v := .pointer (some ⟨N + 2, 0, none⟩)) rfl rfl (by kernel_rfl) (by kernel_rfl) (by kernel_rfl) (fun _ _ _ h => h) (Or.inl ⟨by rfl, ?_⟩) (by assumption) ?_
  · intro V hSw; (try dsimp only at hSw); go_simp
  simp only [List.setIfInBounds_toArray, List.set_cons_zero, List.set_cons_succ]
  refine takeD (i := 3) (d := 19) (v := .int .i64 (op)) rfl rfl (by kernel_rfl) (by kernel_rfl) (by kernel_rfl) (fun _ _ _ h => h) (Or.inl ⟨by rfl, ?_⟩) (by assumption) ?_
  · intro V hSw; (try dsimp only at hSw); go_simp
  simp only [List.setIfInBounds_toArray, List.set_cons_zero, List.set_cons_succ]
  refine takeD (i := 4) (d := 20) (v := .bool false) rfl rfl (by kernel_rfl) (by kernel_rfl) (by kernel_rfl) (fun _ _ _ h => h) (Or.inl ⟨by rfl, ?_⟩) (by assumption) ?_
  · intro V hSw; (try dsimp only at hSw); go_simp
  simp only [List.setIfInBounds_toArray, List.set_cons_zero, List.set_cons_succ]
  refine takeD (i := 5) (d := 21) (v := .bool false) rfl rfl (by kernel_rfl) (by kernel_rfl) (by kernel_rfl) (fun _ _ _ h => h) (Or.inl ⟨by rfl, ?_⟩) (by assumption) ?_
  · intro V hSw; (try dsimp only at hSw); go_simp
  simp only [List.setIfInBounds_toArray, List.set_cons_zero, List.set_cons_succ]
  refine takeD (i := 6) (d := 22) (v := undef) rfl rfl (by kernel_rfl) (by kernel_rfl) (by kernel_rfl) (fun _ _ _ h => h) (Or.inr ⟨by rfl, rfl⟩) (by assumption) ?_
  simp only [List.setIfInBounds_toArray, List.set_cons_zero, List.set_cons_succ]
  refine takeD (i := 7) (d := 23) (v := undef) rfl rfl (by kernel_rfl) (by kernel_rfl) (by kernel_rfl) (fun _ _ _ h => h) (Or.inr ⟨by rfl, rfl⟩) (by assumption) ?_
  simp only [List.setIfInBounds_toArray, List.set_cons_zero, List.set_cons_succ]
  refine takeD (i := 8) (d := 24) (v := undef) rfl rfl (by kernel_rfl) (by kernel_rfl) (by kernel_rfl) (fun _ _ _ h => h) (Or.inr ⟨by rfl, rfl⟩) (by assumption) ?_
  simp only [List.setIfInBounds_toArray, List.set_cons_zero, List.set_cons_succ]
  refine takeD (i := 9) (d := 25) (v := .bool false) rfl rfl (by kernel_rfl) (by kernel_rfl) (by kernel_rfl) (fun _ _ _ h => h) (Or.inl ⟨by rfl, ?_⟩) (by assumption) ?_
  · intro V hSw; (try dsimp only at hSw); go_simp
  simp only [List.setIfInBounds_toArray, List.set_cons_zero, List.set_cons_succ]
  refine takeD (i := 10) (d := 26) (v := .pointer (some ⟨N + 2, 0, none⟩)) rfl rfl (by kernel_rfl) (by kernel_rfl) (by kernel_rfl) (fun _ _ _ h => h) (Or.inl ⟨by rfl, ?_⟩) (by assumption) ?_
  · intro V hSw; (try dsimp only at hSw); go_simp
  simp only [List.setIfInBounds_toArray, List.set_cons_zero, List.set_cons_succ]
  refine takeD (i := 11) (d := 27) (v := .int .i64 (op)) rfl rfl (by kernel_rfl) (by kernel_rfl) (by kernel_rfl) (fun _ _ _ h => h) (Or.inl ⟨by rfl, ?_⟩) (by assumption) ?_
  · intro V hSw; (try dsimp only at hSw); go_simp
  simp only [List.setIfInBounds_toArray, List.set_cons_zero, List.set_cons_succ]
  refine takeD (i := 12) (d := 28) (v := .bool false) rfl rfl (by kernel_rfl) (by kernel_rfl) (by kernel_rfl) (fun _ _ _ h => h) (Or.inl ⟨by rfl, ?_⟩) (by assumption) ?_
  · intro V hSw; (try dsimp only at hSw); go_simp
  simp only [List.setIfInBounds_toArray, List.set_cons_zero, List.set_cons_succ]
  refine takeD (i := 13) (d := 29) (v := .bool false) rfl rfl (by kernel_rfl) (by kernel_rfl) (by kernel_rfl) (fun _ _ _ h => h) (Or.inl ⟨by rfl, ?_⟩) (by assumption) ?_
  · intro V hSw; (try dsimp only at hSw); go_simp
  simp only [List.setIfInBounds_toArray, List.set_cons_zero, List.set_cons_succ]
  refine takeD (i := 14) (d := 30) (v := undef) rfl rfl (by kernel_rfl) (by kernel_rfl) (by kernel_rfl) (fun _ _ _ h => h) (Or.inr ⟨by rfl, rfl⟩) (by assumption) ?_
  simp only [List.setIfInBounds_toArray, List.set_cons_zero, List.set_cons_succ]
  refine takeD (i := 15) (d := 31) (v := undef) rfl rfl (by kernel_rfl) (by kernel_rfl) (by kernel_rfl) (fun _ _ _ h => h) (Or.inr ⟨by rfl, rfl⟩) (by assumption) ?_
  simp only [List.setIfInBounds_toArray, List.set_cons_zero, List.set_cons_succ]
  refine takeD (i := 16) (d := 32) (v := .bool false) rfl rfl (by kernel_rfl) (by kernel_rfl) (by kernel_rfl) (fun _ _ _ h => h) (Or.inl ⟨by rfl, ?_⟩) (by assumption) ?_
  · intro V hSw; (try dsimp only at hSw); go_simp
  simp only [List.setIfInBounds_toArray, List.set_cons_zero, List.set_cons_succ]
  refine takeD (i := 17) (d := 33) (v := .pointer (some ⟨N + 2, 0, none⟩)) rfl rfl (by kernel_rfl) (by kernel_rfl) (by kernel_rfl) (fun _ _ _ h => h) (Or.inl ⟨by rfl, ?_⟩) (by assumption) ?_
  · intro V hSw; (try dsimp only at hSw); go_simp
  simp only [List.setIfInBounds_toArray, List.set_cons_zero, List.set_cons_succ]
  refine takeD (i := 18) (d := 34) (v := .int .i64 (op)) rfl rfl (by kernel_rfl) (by kernel_rfl) (by kernel_rfl) (fun _ _ _ h => h) (Or.inl ⟨by rfl, ?_⟩) (by assumption) ?_
  · intro V hSw; (try dsimp only at hSw); go_simp
  simp only [List.setIfInBounds_toArray, List.set_cons_zero, List.set_cons_succ]
  refine takeD (i := 19) (d := 35) (v := .bool false) rfl rfl (by kernel_rfl) (by kernel_rfl) (by kernel_rfl) (fun _ _ _ h => h) (Or.inl ⟨by rfl, ?_⟩) (by assumption) ?_
  · intro V hSw; (try dsimp only at hSw); go_simp
  simp only [List.setIfInBounds_toArray, List.set_cons_zero, List.set_cons_succ]
  refine takeD (i := 20) (d := 36) (v := .bool false) rfl rfl (by kernel_rfl) (by kernel_rfl) (by kernel_rfl) (fun _ _ _ h => h) (Or.inl ⟨by rfl, ?_⟩) (by assumption) ?_
  · intro V hSw; (try dsimp only at hSw); go_simp
  simp only [List.setIfInBounds_toArray, List.set_cons_zero, List.set_cons_succ]
  refine takeD (i := 21) (d := 37) (v := undef) rfl rfl (by kernel_rfl) (by kernel_rfl) (by kernel_rfl) (fun _ _ _ h => h) (Or.inr ⟨by rfl, rfl⟩) (by assumption) ?_
  simp only [List.setIfInBounds_toArray, List.set_cons_zero, List.set_cons_succ]
  refine takeD (i := 22) (d := 38) (v := undef) rfl rfl (by kernel_rfl) (by kernel_rfl) (by kernel_rfl) (fun _ _ _ h => h) (Or.inr ⟨by rfl, rfl⟩) (by assumption) ?_
  simp only [List.setIfInBounds_toArray, List.set_cons_zero, List.set_cons_succ]
  refine takeD (i := 23) (d := 39) (v := .bool false) rfl rfl (by kernel_rfl) (by kernel_rfl) (by kernel_rfl) (fun _ _ _ h => h) (Or.inl ⟨by rfl, ?_⟩) (by assumption) ?_
  · intro V hSw; (try dsimp only at hSw); go_simp
  simp only [List.setIfInBounds_toArray, List.set_cons_zero, List.set_cons_succ]
  refine takeD (i := 24) (d := 40) (v := .slice (some ⟨q, o, none⟩) c.length cap) rfl rfl (by kernel_rfl) (by kernel_rfl) (by kernel_rfl) (fun _ _ _ h => h) (Or.inl ⟨by rfl, ?_⟩) (by assumption) ?_
  · intro V hSw; (try dsimp only at hSw); go_simp
  simp only [List.setIfInBounds_toArray, List.set_cons_zero, List.set_cons_succ]
  refine takeD (i := 25) (d := 41) (v := .agg #[.int .i64 (k : Nat), .bool x]) rfl rfl (by kernel_rfl) (by kernel_rfl) (by kernel_rfl) (fun _ _ _ h => h) (Or.inl ⟨by rfl, ?_⟩) (by assumption) ?_
  · intro V hSw; (try dsimp only at hSw); go_simp
  simp only [List.setIfInBounds_toArray, List.set_cons_zero, List.set_cons_succ]
  refine takeD (i := 27) (d := 43) (v := .bool true) rfl rfl (by kernel_rfl) (by kernel_rfl) (by kernel_rfl) (fun _ _ _ h => h) (Or.inl ⟨by rfl, ?_⟩) (by assumption) ?_
  · intro V hSw; (try dsimp only at hSw); go_simp
  simp only [List.setIfInBounds_toArray, List.set_cons_zero, List.set_cons_succ]
  refine takeD (i := 39) (d := 55) (v := .bool true) rfl rfl (by kernel_rfl) (by kernel_rfl) (by kernel_rfl) (fun _ _ _ h => h) (Or.inl ⟨by rfl, ?_⟩) (by assumption) ?_
  · intro V hSw; (try dsimp only at hSw); go_simp
  simp only [List.setIfInBounds_toArray, List.set_cons_zero, List.set_cons_succ]
  refine wpAnyH_ready (rs := [26]) (by kernel_rfl) (by simp) ?_
  refine AllReadyH.cons (o := { dst := some 42, op := Op.call { callee := Callee.value (Operand.func 61), args := #[Operand.tmp 40, Operand.tmp 41], argTypes := #[31, 89] }, type := 4, pos := "found.go:54", after := #[{ on := 24, ground := Ground.data }, { on := 25, ground := Ground.data }, { on := 20, ground := Ground.chain }], guard := none }) rfl (fun K hK => ?_) AllReadyH.nil
  go_simp
  refine (HOut.out _ hD).mono ?_
  rintro e V1 ⟨rfl, hb⟩
  have hD1 := hD.trans (hb.mono hD.size)
  clear hb hD
  have hD := hD1
  clear hD1
  refine hK.out _ _ (HK.out _ (Tch.of_idle hD)) (fun hHeld2 => ?_)
  clear hK
  try simp only [Act.put, List.setIfInBounds_toArray, List.set_cons_zero, List.set_cons_succ]
  refine takeD (i := 28) (d := 44) (v := .bool true) rfl rfl (by kernel_rfl) (by kernel_rfl) (by kernel_rfl) (fun _ _ _ h => h) (Or.inl ⟨by rfl, ?_⟩) (by assumption) ?_
  · intro V hSw; (try dsimp only at hSw); go_simp
  simp only [List.setIfInBounds_toArray, List.set_cons_zero, List.set_cons_succ]
  refine takeD (i := 29) (d := 45) (v := .pointer (some ⟨N + 2, 0, none⟩)) rfl rfl (by kernel_rfl) (by kernel_rfl) (by kernel_rfl) (fun _ _ _ h => h) (Or.inl ⟨by rfl, ?_⟩) (by assumption) ?_
  · intro V hSw; (try dsimp only at hSw); go_simp
  simp only [List.setIfInBounds_toArray, List.set_cons_zero, List.set_cons_succ]
  refine takeD (i := 30) (d := 46) (v := .int .i64 (op)) rfl rfl (by kernel_rfl) (by kernel_rfl) (by kernel_rfl) (fun _ _ _ h => h) (Or.inl ⟨by rfl, ?_⟩) (by assumption) ?_
  · intro V hSw; (try dsimp only at hSw); go_simp
  simp only [List.setIfInBounds_toArray, List.set_cons_zero, List.set_cons_succ]
  refine wpAnyH_ready (rs := [31]) (by kernel_rfl) (by simp) ?_
  refine AllReadyH.cons (o := { dst := some 47, op := Op.call { callee := Callee.value (Operand.func 62), args := #[Operand.tmp 46], argTypes := #[3] }, type := 4, pos := "found.go:55", after := #[{ on := 30, ground := Ground.data }, { on := 28, ground := Ground.chain }, { on := 28, ground := Ground.guard }], guard := some (28, true) }) rfl (fun K hK => ?_) AllReadyH.nil
  go_simp
  refine (HBr.out _).mono ?_
  rintro e V2 ⟨rfl, rfl⟩
  refine hK.out _ _ (HK.out _ (Tch.of_idle hD)) (fun hHeld2 => ?_)
  clear hK
  try simp only [Act.put, List.setIfInBounds_toArray, List.set_cons_zero, List.set_cons_succ]
  refine takeD (i := 32) (d := 48) (v := .bool false) rfl rfl (by kernel_rfl) (by kernel_rfl) (by kernel_rfl) (fun _ _ _ h => h) (Or.inl ⟨by rfl, ?_⟩) (by assumption) ?_
  · intro V hSw; (try dsimp only at hSw); go_simp
  simp only [List.setIfInBounds_toArray, List.set_cons_zero, List.set_cons_succ]
  refine takeD (i := 33) (d := 49) (v := .bool false) rfl rfl (by kernel_rfl) (by kernel_rfl) (by kernel_rfl) (fun _ _ _ h => h) (Or.inl ⟨by rfl, ?_⟩) (by assumption) ?_
  · intro V hSw; (try dsimp only at hSw); go_simp
  simp only [List.setIfInBounds_toArray, List.set_cons_zero, List.set_cons_succ]
  refine takeD (i := 34) (d := 50) (v := undef) rfl rfl (by kernel_rfl) (by kernel_rfl) (by kernel_rfl) (fun _ _ _ h => h) (Or.inr ⟨by rfl, rfl⟩) (by assumption) ?_
  simp only [List.setIfInBounds_toArray, List.set_cons_zero, List.set_cons_succ]
  refine takeD (i := 35) (d := 51) (v := undef) rfl rfl (by kernel_rfl) (by kernel_rfl) (by kernel_rfl) (fun _ _ _ h => h) (Or.inr ⟨by rfl, rfl⟩) (by assumption) ?_
  simp only [List.setIfInBounds_toArray, List.set_cons_zero, List.set_cons_succ]
  refine wpAnyH_ready (rs := [36]) (by kernel_rfl) (by simp) ?_
  refine AllReadyH.cons (o := { dst := some 52, op := Op.call { callee := Callee.value (Operand.func 45), args := #[Operand.tmp 51], argTypes := #[3] }, type := 4, pos := "found.go:55", after := #[{ on := 35, ground := Ground.data }, { on := 33, ground := Ground.chain }, { on := 33, ground := Ground.guard }], guard := some (33, true) }) rfl (fun K hK => ?_) AllReadyH.nil
  go_simp
  refine hK.out _ _ (HK.out _ (Tch.of_idle hD)) (fun hHeld2 => ?_)
  clear hK
  try simp only [Act.put, List.setIfInBounds_toArray, List.set_cons_zero, List.set_cons_succ]
  refine takeD (i := 37) (d := 53) (v := undef) rfl rfl (by kernel_rfl) (by kernel_rfl) (by kernel_rfl) (fun _ _ _ h => h) (Or.inr ⟨by rfl, rfl⟩) (by assumption) ?_
  simp only [List.setIfInBounds_toArray, List.set_cons_zero, List.set_cons_succ]
  refine takeD (i := 38) (d := 54) (v := .bool false) rfl rfl (by kernel_rfl) (by kernel_rfl) (by kernel_rfl) (fun _ _ _ h => h) (Or.inl ⟨by rfl, ?_⟩) (by assumption) ?_
  · intro V hSw; (try dsimp only at hSw); go_simp
  simp only [List.setIfInBounds_toArray, List.set_cons_zero, List.set_cons_succ]
  refine takeD (i := 40) (d := 56) (v := .bool true) rfl rfl (by kernel_rfl) (by kernel_rfl) (by kernel_rfl) (fun _ _ _ h => h) (Or.inl ⟨by rfl, ?_⟩) (by assumption) ?_
  · intro V hSw; (try dsimp only at hSw); go_simp
  simp only [List.setIfInBounds_toArray, List.set_cons_zero, List.set_cons_succ]
  refine takeD (i := 41) (d := 57) (v := .agg #[.int .i64 (op), .int .i64 ra, .int .i64 rb, .int .i64 rc, .int .i64 imm]) rfl rfl (by kernel_rfl) (by kernel_rfl) (by kernel_rfl) (fun _ _ _ h => h) (Or.inl ⟨by rfl, ?_⟩) (by assumption) ?_
  · intro V hSw; (try dsimp only at hSw); go_simp
  simp only [List.setIfInBounds_toArray, List.set_cons_zero, List.set_cons_succ]
  refine takeD (i := 43) (d := 59) (v := .int .u64 (m : Nat)) rfl rfl (by kernel_rfl) (by kernel_rfl) (by kernel_rfl) (fun _ _ _ h => h) (Or.inl ⟨by rfl, ?_⟩) (by assumption) ?_
  · intro V hSw; (try dsimp only at hSw); go_simp
  simp only [List.setIfInBounds_toArray, List.set_cons_zero, List.set_cons_succ]
  refine wpAnyH_ready (rs := [42]) (by kernel_rfl) (by simp) ?_
  refine AllReadyH.cons (o := { dst := some 58, op := Op.call { callee := Callee.value (Operand.func 63), args := #[Operand.tmp 57], argTypes := #[43] }, type := 91, pos := "found.go:56", after := #[{ on := 41, ground := Ground.data }, { on := 40, ground := Ground.chain }, { on := 40, ground := Ground.guard }], guard := some (40, true) }) rfl (fun K hK => ?_) AllReadyH.nil
  go_simp
  refine (HRd.out _).mono ?_
  rintro e V4 ⟨rfl, hb⟩
  have hD1 := hD.trans (hb.mono hD.size)
  clear hb hD
  have hD := hD1
  clear hD1
  refine hK.out _ _ (HK.out _ (Tch.of_idle hD)) (fun hHeld2 => ?_)
  clear hK
  try simp only [Act.put, List.setIfInBounds_toArray, List.set_cons_zero, List.set_cons_succ]
  refine takeD (i := 44) (d := 60) (v := .int .u64 (Go.bits .and .u64 ((readsM ⟨op, ra, rb, rc, imm⟩ : Nat) : Int) ((m : Nat) : Int))) rfl rfl (by kernel_rfl) (by kernel_rfl) (by kernel_rfl) (fun _ _ _ h => h) (Or.inl ⟨by rfl, ?_⟩) (by assumption) ?_
  · intro V hSw; (try dsimp only at hSw); go_simp
  simp only [List.setIfInBounds_toArray, List.set_cons_zero, List.set_cons_succ]
  refine takeD (i := 45) (d := 61) (v := .bool (Go.bits .and .u64 ((readsM ⟨op, ra, rb, rc, imm⟩ : Nat) : Int) ((m : Nat) : Int) != 0)) rfl rfl (by kernel_rfl) (by kernel_rfl) (by kernel_rfl) (fun _ _ _ h => h) (Or.inl ⟨by rfl, ?_⟩) (by assumption) ?_
  · intro V hSw; (try dsimp only at hSw); go_simp
  simp only [List.setIfInBounds_toArray, List.set_cons_zero, List.set_cons_succ]
  refine takeD (i := 46) (d := 62) (v := .bool (Go.bits .and .u64 ((readsM ⟨op, ra, rb, rc, imm⟩ : Nat) : Int) ((m : Nat) : Int) != 0)) rfl rfl (by kernel_rfl) (by kernel_rfl) (by kernel_rfl) (fun _ _ _ h => h) (Or.inl ⟨by rfl, ?_⟩) (by assumption) ?_
  · intro V hSw; (try dsimp only at hSw); go_simp
  simp only [List.setIfInBounds_toArray, List.set_cons_zero, List.set_cons_succ]
  refine takeD (i := 47) (d := 63) (v := .agg #[.bool false, .bool false, .bool false, .bool false, .bool false, .bool ob, .bool false, .bool (Go.bits .and .u64 ((readsM ⟨op, ra, rb, rc, imm⟩ : Nat) : Int) ((m : Nat) : Int) != 0), .bool false]) rfl rfl (by kernel_rfl) (by kernel_rfl) (by kernel_rfl) (fun _ _ _ h => h) (Or.inl ⟨by rfl, ?_⟩) (by assumption) ?_
  · intro V hSw; (try dsimp only at hSw); go_simp
  simp only [List.setIfInBounds_toArray, List.set_cons_zero, List.set_cons_succ]
  have hth := HTh.out _ hD
  have hone : ∀ v ∈ ([.bool false, .bool false, .bool false, .bool false, .bool false, .bool ob, .bool false, .bool (Go.bits .and .u64 ((readsM ⟨op, ra, rb, rc, imm⟩ : Nat) : Int) ((m : Nat) : Int) != 0), .bool false] : List Value), v.oneCell' = true := by simp [Value.oneCell']
  refine wpAnyH_ready (rs := [48]) (by kernel_rfl) (by simp) ?_
  refine AllReadyH.cons (o := { dst := none, op := Op.store 86 (Operand.tmp 6) (Operand.tmp 63), type := 0, pos := "found.go:49", after := #[{ on := 47, ground := Ground.data }, { on := 42, ground := Ground.chain }, { on := 0, ground := Ground.phase }, { on := 1, ground := Ground.phase }, { on := 2, ground := Ground.phase }, { on := 3, ground := Ground.phase }, { on := 4, ground := Ground.phase }, { on := 5, ground := Ground.phase }, { on := 6, ground := Ground.phase }, { on := 7, ground := Ground.phase }, { on := 8, ground := Ground.phase }, { on := 9, ground := Ground.phase }, { on := 10, ground := Ground.phase }, { on := 11, ground := Ground.phase }, { on := 12, ground := Ground.phase }, { on := 13, ground := Ground.phase }, { on := 14, ground := Ground.phase }, { on := 15, ground := Ground.phase }, { on := 16, ground := Ground.phase }, { on := 17, ground := Ground.phase }, { on := 18, ground := Ground.phase }, { on := 19, ground := Ground.phase }, { on := 20, ground := Ground.phase }, { on := 21, ground := Ground.phase }, { on := 22, ground := Ground.phase }, { on := 23, ground := Ground.phase }, { on := 24, ground := Ground.phase }, { on := 25, ground := Ground.phase }, { on := 26, ground := Ground.phase }, { on := 27, ground := Ground.phase }, { on := 28, ground := Ground.phase }, { on := 29, ground := Ground.phase }, { on := 30, ground := Ground.phase }, { on := 31, ground := Ground.phase }, { on := 32, ground := Ground.phase }, { on := 33, ground := Ground.phase }, { on := 34, ground := Ground.phase }, { on := 35, ground := Ground.phase }, { on := 36, ground := Ground.phase }, { on := 37, ground := Ground.phase }, { on := 38, ground := Ground.phase }, { on := 39, ground := Ground.phase }, { on := 40, ground := Ground.phase }, { on := 41, ground := Ground.phase }, { on := 42, ground := Ground.phase }, { on := 43, ground := Ground.phase }, { on := 44, ground := Ground.phase }, { on := 45, ground := Ground.phase }, { on := 46, ground := Ground.phase }, { on := 47, ground := Ground.phase }], guard := none }) rfl (fun K hK => ?_) AllReadyH.nil
  rw [if_pos (by rfl)]
  refine wp_store_mid _ _ _ rfl _ _ (List.toArray _) rfl rfl (by simpa using hth) ?_ (all_oneCell_toArray hone) ?_
  · first | exact Tryz.sizeFinds | simp [Tryz.sizeFinds]
  simp only [Act.put, List.toList_toArray]
  refine hK.out _ _ (HK.out _ (Tch.setCells (C := fun b => b = N + 1) (.inl rfl) _ _ (Tch.of_idle hD))) (fun hHeld2 => ?_)
  refine wpAnyH_done (by kernel_rfl) ?_ _
  have hret := Holds.sets [.bool false, .bool false, .bool false, .bool false, .bool false, .bool ob, .bool false, .bool (Go.bits .and .u64 ((readsM ⟨op, ra, rb, rc, imm⟩ : Nat) : Int) ((m : Nat) : Int) != 0), .bool false] 0 (Hs.out.2.1.below hD)
  go_wp2_with fail
  have hfinal := below_cells (B := N) (b := N + 1) (by omega) [.bool false, .bool false, .bool false, .bool false, .bool false, .bool ob, .bool false, .bool (Go.bits .and .u64 ((readsM ⟨op, ra, rb, rc, imm⟩ : Nat) : Int) ((m : Nat) : Int) != 0), .bool false] 0 _ ((show Below N w w2 by rw [← hN]; exact Hs.out.2.2.2).trans (hD.mono (by have := Hs.out.2.2.1.lt; omega)))
  refine bodyPost_ret (results_c rfl rfl (Tryz.loadFinds hret rfl)) rfl ⟨?_, hfinal⟩
  rw [bits_ne (readsM_lt Hl.out.1) Hm.out]
  rw [Hob.out]
  rfl

set_option maxRecDepth 100000 in
set_option maxHeartbeats 4000000 in
theorem fa_goT (a : Option Addr) (cap : Nat) (c : List In) (k m : Nat) (op : Int) (ra rb rc imm : Int) (x : Bool) (w : World) (N : Nat) (hN : w.heap.size = N) (hn : c.length ≤ 1024) (hF : FormsAt w) (hr : RowsIn w a 5 In.cells c) (hi : c[k]? = some ⟨op, ra, rb, rc, imm⟩) (hm : m < 256) (hl : legalP ⟨op, ra, rb, rc, imm⟩ = true) (h18 : op ≠ 18) (h17 : op ≠ 17) (h1 : op ≠ 1) (hgo : (decide (13 ≤ op) && decide (op ≤ 16)) = true) (hpl : isPl imm = true) :
    Calls Tryz.prog 42 #[.slice a c.length cap, .agg #[.int .i64 (k : Nat), .bool x], .int .u64 (m : Nat)] w fun e w' => e = .returned (.agg (nineV false false false false ((lgo c (k, x)).any (outS c.length)) false ((readsM ⟨op, ra, rb, rc, imm⟩ &&& m) != 0)).toArray) ∧ Below N w w' := by
  have hlgo : lgo c (k, x) = lgoI ⟨op, ra, rb, rc, imm⟩ (k, x) := lgo_some hi
  obtain ⟨q, o, rfl, hq, hrow⟩ := hr.row hi
  have hk : k < c.length := (List.getElem?_eq_some_iff.1 hi).1
  have hkk : (0 : Int) ≤ (k : Int) ∧ (k : Int) < (c.length : Int) := by omega
  have HF := Lib.hid (And.intro hF (And.intro hr (And.intro hrow hq))); clear hF hr hrow hq
  have Hn := Lib.hid hn; clear hn
  have Hm := Lib.hid hm; clear hm
  have Hl := Lib.hid (And.intro hl (And.intro hi hlgo)); clear hi hk hlgo
  have f18 : (op == 18) = false := by simpa using h18
  have f17 : (op == 17) = false := by simpa using h17
  have f1 : (op == 1) = false := by simpa using h1
  have hBr := fun (V : World) => bran_any (op) V
  rw [hgo] at hBr
  have HBr := Lib.hid hBr; clear hBr
  have hPl := fun (V : World) => isPl_any imm V
  rw [hpl] at hPl
  have HPl := Lib.hid hPl; clear hPl
  clear hl
  go_enter Tryz.func42, Tryz.ntmps42
  go_upto_region 1 with fail
  have hb1 : Below N w ((w.alloc (.cells #[.int .i64 (k : Nat), .bool x] 89)).alloc (.cells #[.bool false, .bool false, .bool false, .bool false, .bool false, .bool false, .bool false, .bool false, .bool false] 86)) := ((Below.refl _ w).alloc (by omega) _).alloc (by simp; omega) _
  have p1 : Holds ((w.alloc (.cells #[.int .i64 (k : Nat), .bool x] 89)).alloc (.cells #[.bool false, .bool false, .bool false, .bool false, .bool false, .bool false, .bool false, .bool false, .bool false] 86)) N 89 [.int .i64 (k : Nat), .bool x] := (newAt hN 89 [.int .i64 (k : Nat), .bool x]).alloc _
  have p2 : Holds ((w.alloc (.cells #[.int .i64 (k : Nat), .bool x] 89)).alloc (.cells #[.bool false, .bool false, .bool false, .bool false, .bool false, .bool false, .bool false, .bool false, .bool false] 86)) (N + 1) 86 (nineV false false false false false false false) := newAt (by simp [hN]) 86 (nineV false false false false false false false)
  have hs1 : ((w.alloc (.cells #[.int .i64 (k : Nat), .bool x] 89)).alloc (.cells #[.bool false, .bool false, .bool false, .bool false, .bool false, .bool false, .bool false, .bool false, .bool false] 86)).heap.size = N + 2 := by simp [hN]
  generalize (w.alloc (.cells #[.int .i64 (k : Nat), .bool x] 89)).alloc (.cells #[.bool false, .bool false, .bool false, .bool false, .bool false, .bool false, .bool false, .bool false, .bool false] 86) = w1 at *
  have hbw1 : Below w.heap.size w w1 := by rw [hN]; exact hb1
  have Hr := rangeAt_same HF.out.2.2.1 (hbw1.block q HF.out.2.2.2)
  have e0 := p1.cell (i := 0) rfl
  have r0 : w1.cell? ⟨q, o + k * 5, none⟩ = some (.int .i64 (op)) := Hr 0 _ rfl
  have r1 : w1.cell? ⟨q, o + k * 5 + 1, none⟩ = some (.int .i64 ra) := Hr 1 _ rfl
  have r2 : w1.cell? ⟨q, o + k * 5 + 2, none⟩ = some (.int .i64 rb) := Hr 2 _ rfl
  have r3 : w1.cell? ⟨q, o + k * 5 + 3, none⟩ = some (.int .i64 rc) := Hr 3 _ rfl
  have r4 : w1.cell? ⟨q, o + k * 5 + 4, none⟩ = some (.int .i64 imm) := Hr 4 _ rfl
  have hqi : Holds (w1.alloc (.cells #[.int .i64 (op), .int .i64 ra, .int .i64 rb, .int .i64 rc, .int .i64 imm] 43)) (N + 2) 43 (In.cells ⟨op, ra, rb, rc, imm⟩) := newAt hs1 43 (In.cells ⟨op, ra, rb, rc, imm⟩)
  have hb2 : Below w1.heap.size w1 (w1.alloc (.cells #[.int .i64 (op), .int .i64 ra, .int .i64 rb, .int .i64 rc, .int .i64 imm] 43)) := (Below.refl _ w1).alloc (Nat.le_refl _) _
  have hLg := legal_any ⟨op, ra, rb, rc, imm⟩ _ ((HF.out.1.below hbw1).below hb2)
  rw [Hl.out.1] at hLg
  simp only [In.val] at hLg
  have HLg := Lib.hid hLg; clear hLg
  have HB := Lib.hid (And.intro hbw1 (And.intro p1 (And.intro p2 (And.intro hs1 (And.intro hN (And.intro hqi hb2)))))); clear hb1 hbw1 p1 p2 hqi hb2 Hr
  go_wp2_with (go_at_call 14; refine HLg.out.mono ?_; rintro e w2 ⟨rfl, hb3⟩; refine Hid.out ?_)
  refine Lib.hid ?_
  have hB2 : Below w1.heap.size w1 w2 := HB.out.2.2.2.2.2.2.trans (hb3.mono (by simp))
  have hBw : Below w.heap.size w w2 := HB.out.1.trans (hB2.mono (by rw [hN, hs1]; omega))
  have s1 := HB.out.2.1.below hB2
  have s2 := HB.out.2.2.1.below hB2
  have s3 := HB.out.2.2.2.2.2.1.below hb3
  clear e0 r0 r1 r2 r3 r4 HLg
  have hlt2 := s3.lt
  have HK := Lib.hid (fun (V : World) (h : Tch (fun b => b = N + 1) w2 V) => (show V.cell? ⟨N, 0, none⟩ = some (.int .i64 (k : Nat)) ∧ V.cell? ⟨N, 1, none⟩ = some (.bool x) ∧ V.cell? ⟨N + 2, 0, none⟩ = some (.int .i64 (op)) ∧ V.cell? ⟨N + 2, 1, none⟩ = some (.int .i64 ra) ∧ V.cell? ⟨N + 2, 2, none⟩ = some (.int .i64 rb) ∧ V.cell? ⟨N + 2, 3, none⟩ = some (.int .i64 rc) ∧ V.cell? ⟨N + 2, 4, none⟩ = some (.int .i64 imm) from by
    have t1 := h.holds (b := N) (by omega) s1
    have t3 := h.holds (b := N + 2) (by omega) s3
    exact ⟨t1.cell (i := 0) rfl, t1.cell (i := 1) rfl, t3.cell (i := 0) rfl, t3.cell (i := 1) rfl, t3.cell (i := 2) rfl, t3.cell (i := 3) rfl, t3.cell (i := 4) rfl⟩))
  have HTh := Lib.hid (fun (V : World) (h : Below w2.heap.size w2 V) => (show V.there (N + 1) 0 9 from by
    have t2 := s2.below h
    intro j hj
    rw [Nat.zero_add]
    refine ⟨?_, t2.free j⟩
    rw [t2.cell (i := j) (v := (nineV false false false false false false false)[j]'(by simpa [nineV] using hj)) (List.getElem?_eq_getElem _)]
    rfl))
  have HOut := Lib.hid (fun (V : World) (h : Below w2.heap.size w2 V) => out_any (some ⟨q, o, none⟩) cap c (k, x) V Hn.out (HF.out.1.below (hBw.trans (h.mono hBw.size))) (HF.out.2.1.below (hBw.trans (h.mono hBw.size))))
  have hRd := fun (V : World) => reads_any ⟨op, ra, rb, rc, imm⟩ V Hl.out.1
  simp only [In.val] at hRd
  have HRd := Lib.hid hRd; clear hRd
  have Hs := Lib.hid (And.intro s1 (And.intro s2 (And.intro s3 hBw))); clear s1 s2 s3 hBw hB2 hb3 hlt2
  generalize hob : (lgo c (k, x)).any (outS c.length) = ob at HOut
  have Hob := Lib.hid hob; clear hob
  go_wp2_with fail
  refine wp_region_held_drew (S := fun V => V.cell? ⟨N, 0, none⟩ = some (.int .i64 (k : Nat)) ∧ V.cell? ⟨N, 1, none⟩ = some (.bool x) ∧ V.cell? ⟨N + 2, 0, none⟩ = some (.int .i64 (op)) ∧ V.cell? ⟨N + 2, 1, none⟩ = some (.int .i64 ra) ∧ V.cell? ⟨N + 2, 2, none⟩ = some (.int .i64 rb) ∧ V.cell? ⟨N + 2, 3, none⟩ = some (.int .i64 rc) ∧ V.cell? ⟨N + 2, 4, none⟩ = some (.int .i64 imm)) (by kernel_rfl) (HK.out _ (Tch.of_idle (below_drewN (Below.refl _ w2) 1))) (fun hHeld => ?_)
  have hD : Below w2.heap.size w2 w2.drew := below_drewN (Below.refl _ w2) 1
  refine takeD (i := 0) (d := 16) (v := .bool true) rfl rfl (by kernel_rfl) (by kernel_rfl) (by kernel_rfl) (fun _ _ _ h => h) (Or.inl ⟨by rfl, ?_⟩) (by assumption) ?_
  · intro V hSw; (try dsimp only at hSw); go_simp
  simp only [List.setIfInBounds_toArray, List.set_cons_zero, List.set_cons_succ]
  refine takeD (i := 1) (d := 17) (v := .bool false) rfl rfl (by kernel_rfl) (by kernel_rfl) (by kernel_rfl) (fun _ _ _ h => h) (Or.inl ⟨by rfl, ?_⟩) (by assumption) ?_
  · intro V hSw; (try dsimp only at hSw); go_simp
  simp only [List.setIfInBounds_toArray, List.set_cons_zero, List.set_cons_succ]
  refine takeD (i := 2) (d := 18) (v := .pointer (some ⟨N + 2, 0, none⟩)) rfl rfl (by kernel_rfl) (by kernel_rfl) (by kernel_rfl) (fun _ _ _ h => h) (Or.inl ⟨by rfl, ?_⟩) (by assumption) ?_
  · intro V hSw; (try dsimp only at hSw); go_simp
  simp only [List.setIfInBounds_toArray, List.set_cons_zero, List.set_cons_succ]
  refine takeD (i := 3) (d := 19) (v := .int .i64 (op)) rfl rfl (by kernel_rfl) (by kernel_rfl) (by kernel_rfl) (fun _ _ _ h => h) (Or.inl ⟨by rfl, ?_⟩) (by assumption) ?_
  · intro V hSw; (try dsimp only at hSw); go_simp
  simp only [List.setIfInBounds_toArray, List.set_cons_zero, List.set_cons_succ]
  refine takeD (i := 4) (d := 20) (v := .bool false) rfl rfl (by kernel_rfl) (by kernel_rfl) (by kernel_rfl) (fun _ _ _ h => h) (Or.inl ⟨by rfl, ?_⟩) (by assumption) ?_
  · intro V hSw; (try dsimp only at hSw); go_simp
  simp only [List.setIfInBounds_toArray, List.set_cons_zero, List.set_cons_succ]
  refine takeD (i := 5) (d := 21) (v := .bool false) rfl rfl (by kernel_rfl) (by kernel_rfl) (by kernel_rfl) (fun _ _ _ h => h) (Or.inl ⟨by rfl, ?_⟩) (by assumption) ?_
  · intro V hSw; (try dsimp only at hSw); go_simp
  simp only [List.setIfInBounds_toArray, List.set_cons_zero, List.set_cons_succ]
  refine takeD (i := 6) (d := 22) (v := undef) rfl rfl (by kernel_rfl) (by kernel_rfl) (by kernel_rfl) (fun _ _ _ h => h) (Or.inr ⟨by rfl, rfl⟩) (by assumption) ?_
  simp only [List.setIfInBounds_toArray, List.set_cons_zero, List.set_cons_succ]
  refine takeD (i := 7) (d := 23) (v := undef) rfl rfl (by kernel_rfl) (by kernel_rfl) (by kernel_rfl) (fun _ _ _ h => h) (Or.inr ⟨by rfl, rfl⟩) (by assumption) ?_
  simp only [List.setIfInBounds_toArray, List.set_cons_zero, List.set_cons_succ]
  refine takeD (i := 8) (d := 24) (v := undef) rfl rfl (by kernel_rfl) (by kernel_rfl) (by kernel_rfl) (fun _ _ _ h => h) (Or.inr ⟨by rfl, rfl⟩) (by assumption) ?_
  simp only [List.setIfInBounds_toArray, List.set_cons_zero, List.set_cons_succ]
  refine takeD (i := 9) (d := 25) (v := .bool false) rfl rfl (by kernel_rfl) (by kernel_rfl) (by kernel_rfl) (fun _ _ _ h => h) (Or.inl ⟨by rfl, ?_⟩) (by assumption) ?_
  · intro V hSw; (try dsimp only at hSw); go_simp
  simp only [List.setIfInBounds_toArray, List.set_cons_zero, List.set_cons_succ]
  refine takeD (i := 10) (d := 26) (v := .pointer (some ⟨N + 2, 0, none⟩)) rfl rfl (by kernel_rfl) (by kernel_rfl) (by kernel_rfl) (fun _ _ _ h => h) (Or.inl ⟨by rfl, ?_⟩) (by assumption) ?_
  · intro V hSw; (try dsimp only at hSw); go_simp
  simp only [List.setIfInBounds_toArray, List.set_cons_zero, List.set_cons_succ]
  refine takeD (i := 11) (d := 27) (v := .int .i64 (op)) rfl rfl (by kernel_rfl) (by kernel_rfl) (by kernel_rfl) (fun _ _ _ h => h) (Or.inl ⟨by rfl, ?_⟩) (by assumption) ?_
  · intro V hSw; (try dsimp only at hSw); go_simp
  simp only [List.setIfInBounds_toArray, List.set_cons_zero, List.set_cons_succ]
  refine takeD (i := 12) (d := 28) (v := .bool false) rfl rfl (by kernel_rfl) (by kernel_rfl) (by kernel_rfl) (fun _ _ _ h => h) (Or.inl ⟨by rfl, ?_⟩) (by assumption) ?_
  · intro V hSw; (try dsimp only at hSw); go_simp
  simp only [List.setIfInBounds_toArray, List.set_cons_zero, List.set_cons_succ]
  refine takeD (i := 13) (d := 29) (v := .bool false) rfl rfl (by kernel_rfl) (by kernel_rfl) (by kernel_rfl) (fun _ _ _ h => h) (Or.inl ⟨by rfl, ?_⟩) (by assumption) ?_
  · intro V hSw; (try dsimp only at hSw); go_simp
  simp only [List.setIfInBounds_toArray, List.set_cons_zero, List.set_cons_succ]
  refine takeD (i := 14) (d := 30) (v := undef) rfl rfl (by kernel_rfl) (by kernel_rfl) (by kernel_rfl) (fun _ _ _ h => h) (Or.inr ⟨by rfl, rfl⟩) (by assumption) ?_
  simp only [List.setIfInBounds_toArray, List.set_cons_zero, List.set_cons_succ]
  refine takeD (i := 15) (d := 31) (v := undef) rfl rfl (by kernel_rfl) (by kernel_rfl) (by kernel_rfl) (fun _ _ _ h => h) (Or.inr ⟨by rfl, rfl⟩) (by assumption) ?_
  simp only [List.setIfInBounds_toArray, List.set_cons_zero, List.set_cons_succ]
  refine takeD (i := 16) (d := 32) (v := .bool false) rfl rfl (by kernel_rfl) (by kernel_rfl) (by kernel_rfl) (fun _ _ _ h => h) (Or.inl ⟨by rfl, ?_⟩) (by assumption) ?_
  · intro V hSw; (try dsimp only at hSw); go_simp
  simp only [List.setIfInBounds_toArray, List.set_cons_zero, List.set_cons_succ]
  refine takeD (i := 17) (d := 33) (v := .pointer (some ⟨N + 2, 0, none⟩)) rfl rfl (by kernel_rfl) (by kernel_rfl) (by kernel_rfl) (fun _ _ _ h => h) (Or.inl ⟨by rfl, ?_⟩) (by assumption) ?_
  · intro V hSw; (try dsimp only at hSw); go_simp
  simp only [List.setIfInBounds_toArray, List.set_cons_zero, List.set_cons_succ]
  refine takeD (i := 18) (d := 34) (v := .int .i64 (op)) rfl rfl (by kernel_rfl) (by kernel_rfl) (by kernel_rfl) (fun _ _ _ h => h) (Or.inl ⟨by rfl, ?_⟩) (by assumption) ?_
  · intro V hSw; (try dsimp only at hSw); go_simp
  simp only [List.setIfInBounds_toArray, List.set_cons_zero, List.set_cons_succ]
  refine takeD (i := 19) (d := 35) (v := .bool false) rfl rfl (by kernel_rfl) (by kernel_rfl) (by kernel_rfl) (fun _ _ _ h => h) (Or.inl ⟨by rfl, ?_⟩) (by assumption) ?_
  · intro V hSw; (try dsimp only at hSw); go_simp
  simp only [List.setIfInBounds_toArray, List.set_cons_zero, List.set_cons_succ]
  refine takeD (i := 20) (d := 36) (v := .bool false) rfl rfl (by kernel_rfl) (by kernel_rfl) (by kernel_rfl) (fun _ _ _ h => h) (Or.inl ⟨by rfl, ?_⟩) (by assumption) ?_
  · intro V hSw; (try dsimp only at hSw); go_simp
  simp only [List.setIfInBounds_toArray, List.set_cons_zero, List.set_cons_succ]
  refine takeD (i := 21) (d := 37) (v := undef) rfl rfl (by kernel_rfl) (by kernel_rfl) (by kernel_rfl) (fun _ _ _ h => h) (Or.inr ⟨by rfl, rfl⟩) (by assumption) ?_
  simp only [List.setIfInBounds_toArray, List.set_cons_zero, List.set_cons_succ]
  refine takeD (i := 22) (d := 38) (v := undef) rfl rfl (by kernel_rfl) (by kernel_rfl) (by kernel_rfl) (fun _ _ _ h => h) (Or.inr ⟨by rfl, rfl⟩) (by assumption) ?_
  simp only [List.setIfInBounds_toArray, List.set_cons_zero, List.set_cons_succ]
  refine takeD (i := 23) (d := 39) (v := .bool false) rfl rfl (by kernel_rfl) (by kernel_rfl) (by kernel_rfl) (fun _ _ _ h => h) (Or.inl ⟨by rfl, ?_⟩) (by assumption) ?_
  · intro V hSw; (try dsimp only at hSw); go_simp
  simp only [List.setIfInBounds_toArray, List.set_cons_zero, List.set_cons_succ]
  refine takeD (i := 24) (d := 40) (v := .slice (some ⟨q, o, none⟩) c.length cap) rfl rfl (by kernel_rfl) (by kernel_rfl) (by kernel_rfl) (fun _ _ _ h => h) (Or.inl ⟨by rfl, ?_⟩) (by assumption) ?_
  · intro V hSw; (try dsimp only at hSw); go_simp
  simp only [List.setIfInBounds_toArray, List.set_cons_zero, List.set_cons_succ]
  refine takeD (i := 25) (d := 41) (v := .agg #[.int .i64 (k : Nat), .bool x]) rfl rfl (by kernel_rfl) (by kernel_rfl) (by kernel_rfl) (fun _ _ _ h => h) (Or.inl ⟨by rfl, ?_⟩) (by assumption) ?_
  · intro V hSw; (try dsimp only at hSw); go_simp
  simp only [List.setIfInBounds_toArray, List.set_cons_zero, List.set_cons_succ]
  refine takeD (i := 27) (d := 43) (v := .bool true) rfl rfl (by kernel_rfl) (by kernel_rfl) (by kernel_rfl) (fun _ _ _ h => h) (Or.inl ⟨by rfl, ?_⟩) (by assumption) ?_
  · intro V hSw; (try dsimp only at hSw); go_simp
  simp only [List.setIfInBounds_toArray, List.set_cons_zero, List.set_cons_succ]
  refine takeD (i := 39) (d := 55) (v := .bool true) rfl rfl (by kernel_rfl) (by kernel_rfl) (by kernel_rfl) (fun _ _ _ h => h) (Or.inl ⟨by rfl, ?_⟩) (by assumption) ?_
  · intro V hSw; (try dsimp only at hSw); go_simp
  simp only [List.setIfInBounds_toArray, List.set_cons_zero, List.set_cons_succ]
  refine wpAnyH_ready (rs := [26]) (by kernel_rfl) (by simp) ?_
  refine AllReadyH.cons (o := { dst := some 42, op := Op.call { callee := Callee.value (Operand.func 61), args := #[Operand.tmp 40, Operand.tmp 41], argTypes := #[31, 89] }, type := 4, pos := "found.go:54", after := #[{ on := 24, ground := Ground.data }, { on := 25, ground := Ground.data }, { on := 20, ground := Ground.chain }], guard := none }) rfl (fun K hK => ?_) AllReadyH.nil
  go_simp
  refine (HOut.out _ hD).mono ?_
  rintro e V1 ⟨rfl, hb⟩
  have hD1 := hD.trans (hb.mono hD.size)
  clear hb hD
  have hD := hD1
  clear hD1
  refine hK.out _ _ (HK.out _ (Tch.of_idle hD)) (fun hHeld2 => ?_)
  clear hK
  try simp only [Act.put, List.setIfInBounds_toArray, List.set_cons_zero, List.set_cons_succ]
  refine takeD (i := 28) (d := 44) (v := .bool true) rfl rfl (by kernel_rfl) (by kernel_rfl) (by kernel_rfl) (fun _ _ _ h => h) (Or.inl ⟨by rfl, ?_⟩) (by assumption) ?_
  · intro V hSw; (try dsimp only at hSw); go_simp
  simp only [List.setIfInBounds_toArray, List.set_cons_zero, List.set_cons_succ]
  refine takeD (i := 29) (d := 45) (v := .pointer (some ⟨N + 2, 0, none⟩)) rfl rfl (by kernel_rfl) (by kernel_rfl) (by kernel_rfl) (fun _ _ _ h => h) (Or.inl ⟨by rfl, ?_⟩) (by assumption) ?_
  · intro V hSw; (try dsimp only at hSw); go_simp
  simp only [List.setIfInBounds_toArray, List.set_cons_zero, List.set_cons_succ]
  refine takeD (i := 30) (d := 46) (v := .int .i64 (op)) rfl rfl (by kernel_rfl) (by kernel_rfl) (by kernel_rfl) (fun _ _ _ h => h) (Or.inl ⟨by rfl, ?_⟩) (by assumption) ?_
  · intro V hSw; (try dsimp only at hSw); go_simp
  simp only [List.setIfInBounds_toArray, List.set_cons_zero, List.set_cons_succ]
  refine wpAnyH_ready (rs := [31]) (by kernel_rfl) (by simp) ?_
  refine AllReadyH.cons (o := { dst := some 47, op := Op.call { callee := Callee.value (Operand.func 62), args := #[Operand.tmp 46], argTypes := #[3] }, type := 4, pos := "found.go:55", after := #[{ on := 30, ground := Ground.data }, { on := 28, ground := Ground.chain }, { on := 28, ground := Ground.guard }], guard := some (28, true) }) rfl (fun K hK => ?_) AllReadyH.nil
  go_simp
  refine (HBr.out _).mono ?_
  rintro e V2 ⟨rfl, rfl⟩
  refine hK.out _ _ (HK.out _ (Tch.of_idle hD)) (fun hHeld2 => ?_)
  clear hK
  try simp only [Act.put, List.setIfInBounds_toArray, List.set_cons_zero, List.set_cons_succ]
  refine takeD (i := 32) (d := 48) (v := .bool true) rfl rfl (by kernel_rfl) (by kernel_rfl) (by kernel_rfl) (fun _ _ _ h => h) (Or.inl ⟨by rfl, ?_⟩) (by assumption) ?_
  · intro V hSw; (try dsimp only at hSw); go_simp
  simp only [List.setIfInBounds_toArray, List.set_cons_zero, List.set_cons_succ]
  refine takeD (i := 33) (d := 49) (v := .bool true) rfl rfl (by kernel_rfl) (by kernel_rfl) (by kernel_rfl) (fun _ _ _ h => h) (Or.inl ⟨by rfl, ?_⟩) (by assumption) ?_
  · intro V hSw; (try dsimp only at hSw); go_simp
  simp only [List.setIfInBounds_toArray, List.set_cons_zero, List.set_cons_succ]
  refine takeD (i := 34) (d := 50) (v := .pointer (some ⟨N + 2, 4, none⟩)) rfl rfl (by kernel_rfl) (by kernel_rfl) (by kernel_rfl) (fun _ _ _ h => h) (Or.inl ⟨by rfl, ?_⟩) (by assumption) ?_
  · intro V hSw; (try dsimp only at hSw); go_simp
  simp only [List.setIfInBounds_toArray, List.set_cons_zero, List.set_cons_succ]
  refine takeD (i := 35) (d := 51) (v := .int .i64 imm) rfl rfl (by kernel_rfl) (by kernel_rfl) (by kernel_rfl) (fun _ _ _ h => h) (Or.inl ⟨by rfl, ?_⟩) (by assumption) ?_
  · intro V hSw; (try dsimp only at hSw); go_simp
  simp only [List.setIfInBounds_toArray, List.set_cons_zero, List.set_cons_succ]
  refine wpAnyH_ready (rs := [36]) (by kernel_rfl) (by simp) ?_
  refine AllReadyH.cons (o := { dst := some 52, op := Op.call { callee := Callee.value (Operand.func 45), args := #[Operand.tmp 51], argTypes := #[3] }, type := 4, pos := "found.go:55", after := #[{ on := 35, ground := Ground.data }, { on := 33, ground := Ground.chain }, { on := 33, ground := Ground.guard }], guard := some (33, true) }) rfl (fun K hK => ?_) AllReadyH.nil
  go_simp
  refine (HPl.out _).mono ?_
  rintro e V3 ⟨rfl, rfl⟩
  refine hK.out _ _ (HK.out _ (Tch.of_idle hD)) (fun hHeld2 => ?_)
  clear hK
  try simp only [Act.put, List.setIfInBounds_toArray, List.set_cons_zero, List.set_cons_succ]
  refine takeD (i := 37) (d := 53) (v := .bool false) rfl rfl (by kernel_rfl) (by kernel_rfl) (by kernel_rfl) (fun _ _ _ h => h) (Or.inl ⟨by rfl, ?_⟩) (by assumption) ?_
  · intro V hSw; (try dsimp only at hSw); go_simp
  simp only [List.setIfInBounds_toArray, List.set_cons_zero, List.set_cons_succ]
  refine takeD (i := 38) (d := 54) (v := .bool false) rfl rfl (by kernel_rfl) (by kernel_rfl) (by kernel_rfl) (fun _ _ _ h => h) (Or.inl ⟨by rfl, ?_⟩) (by assumption) ?_
  · intro V hSw; (try dsimp only at hSw); go_simp
  simp only [List.setIfInBounds_toArray, List.set_cons_zero, List.set_cons_succ]
  refine takeD (i := 40) (d := 56) (v := .bool true) rfl rfl (by kernel_rfl) (by kernel_rfl) (by kernel_rfl) (fun _ _ _ h => h) (Or.inl ⟨by rfl, ?_⟩) (by assumption) ?_
  · intro V hSw; (try dsimp only at hSw); go_simp
  simp only [List.setIfInBounds_toArray, List.set_cons_zero, List.set_cons_succ]
  refine takeD (i := 41) (d := 57) (v := .agg #[.int .i64 (op), .int .i64 ra, .int .i64 rb, .int .i64 rc, .int .i64 imm]) rfl rfl (by kernel_rfl) (by kernel_rfl) (by kernel_rfl) (fun _ _ _ h => h) (Or.inl ⟨by rfl, ?_⟩) (by assumption) ?_
  · intro V hSw; (try dsimp only at hSw); go_simp
  simp only [List.setIfInBounds_toArray, List.set_cons_zero, List.set_cons_succ]
  refine takeD (i := 43) (d := 59) (v := .int .u64 (m : Nat)) rfl rfl (by kernel_rfl) (by kernel_rfl) (by kernel_rfl) (fun _ _ _ h => h) (Or.inl ⟨by rfl, ?_⟩) (by assumption) ?_
  · intro V hSw; (try dsimp only at hSw); go_simp
  simp only [List.setIfInBounds_toArray, List.set_cons_zero, List.set_cons_succ]
  refine wpAnyH_ready (rs := [42]) (by kernel_rfl) (by simp) ?_
  refine AllReadyH.cons (o := { dst := some 58, op := Op.call { callee := Callee.value (Operand.func 63), args := #[Operand.tmp 57], argTypes := #[43] }, type := 91, pos := "found.go:56", after := #[{ on := 41, ground := Ground.data }, { on := 40, ground := Ground.chain }, { on := 40, ground := Ground.guard }], guard := some (40, true) }) rfl (fun K hK => ?_) AllReadyH.nil
  go_simp
  refine (HRd.out _).mono ?_
  rintro e V4 ⟨rfl, hb⟩
  have hD1 := hD.trans (hb.mono hD.size)
  clear hb hD
  have hD := hD1
  clear hD1
  refine hK.out _ _ (HK.out _ (Tch.of_idle hD)) (fun hHeld2 => ?_)
  clear hK
  try simp only [Act.put, List.setIfInBounds_toArray, List.set_cons_zero, List.set_cons_succ]
  refine takeD (i := 44) (d := 60) (v := .int .u64 (Go.bits .and .u64 ((readsM ⟨op, ra, rb, rc, imm⟩ : Nat) : Int) ((m : Nat) : Int))) rfl rfl (by kernel_rfl) (by kernel_rfl) (by kernel_rfl) (fun _ _ _ h => h) (Or.inl ⟨by rfl, ?_⟩) (by assumption) ?_
  · intro V hSw; (try dsimp only at hSw); go_simp
  simp only [List.setIfInBounds_toArray, List.set_cons_zero, List.set_cons_succ]
  refine takeD (i := 45) (d := 61) (v := .bool (Go.bits .and .u64 ((readsM ⟨op, ra, rb, rc, imm⟩ : Nat) : Int) ((m : Nat) : Int) != 0)) rfl rfl (by kernel_rfl) (by kernel_rfl) (by kernel_rfl) (fun _ _ _ h => h) (Or.inl ⟨by rfl, ?_⟩) (by assumption) ?_
  · intro V hSw; (try dsimp only at hSw); go_simp
  simp only [List.setIfInBounds_toArray, List.set_cons_zero, List.set_cons_succ]
  refine takeD (i := 46) (d := 62) (v := .bool (Go.bits .and .u64 ((readsM ⟨op, ra, rb, rc, imm⟩ : Nat) : Int) ((m : Nat) : Int) != 0)) rfl rfl (by kernel_rfl) (by kernel_rfl) (by kernel_rfl) (fun _ _ _ h => h) (Or.inl ⟨by rfl, ?_⟩) (by assumption) ?_
  · intro V hSw; (try dsimp only at hSw); go_simp
  simp only [List.setIfInBounds_toArray, List.set_cons_zero, List.set_cons_succ]
  refine takeD (i := 47) (d := 63) (v := .agg #[.bool false, .bool false, .bool false, .bool false, .bool false, .bool ob, .bool false, .bool (Go.bits .and .u64 ((readsM ⟨op, ra, rb, rc, imm⟩ : Nat) : Int) ((m : Nat) : Int) != 0), .bool false]) rfl rfl (by kernel_rfl) (by kernel_rfl) (by kernel_rfl) (fun _ _ _ h => h) (Or.inl ⟨by rfl, ?_⟩) (by assumption) ?_
  · intro V hSw; (try dsimp only at hSw); go_simp
  simp only [List.setIfInBounds_toArray, List.set_cons_zero, List.set_cons_succ]
  have hth := HTh.out _ hD
  have hone : ∀ v ∈ ([.bool false, .bool false, .bool false, .bool false, .bool false, .bool ob, .bool false, .bool (Go.bits .and .u64 ((readsM ⟨op, ra, rb, rc, imm⟩ : Nat) : Int) ((m : Nat) : Int) != 0), .bool false] : List Value), v.oneCell' = true := by simp [Value.oneCell']
  refine wpAnyH_ready (rs := [48]) (by kernel_rfl) (by simp) ?_
  refine AllReadyH.cons (o := { dst := none, op := Op.store 86 (Operand.tmp 6) (Operand.tmp 63), type := 0, pos := "found.go:49", after := #[{ on := 47, ground := Ground.data }, { on := 42, ground := Ground.chain }, { on := 0, ground := Ground.phase }, { on := 1, ground := Ground.phase }, { on := 2, ground := Ground.phase }, { on := 3, ground := Ground.phase }, { on := 4, ground := Ground.phase }, { on := 5, ground := Ground.phase }, { on := 6, ground := Ground.phase }, { on := 7, ground := Ground.phase }, { on := 8, ground := Ground.phase }, { on := 9, ground := Ground.phase }, { on := 10, ground := Ground.phase }, { on := 11, ground := Ground.phase }, { on := 12, ground := Ground.phase }, { on := 13, ground := Ground.phase }, { on := 14, ground := Ground.phase }, { on := 15, ground := Ground.phase }, { on := 16, ground := Ground.phase }, { on := 17, ground := Ground.phase }, { on := 18, ground := Ground.phase }, { on := 19, ground := Ground.phase }, { on := 20, ground := Ground.phase }, { on := 21, ground := Ground.phase }, { on := 22, ground := Ground.phase }, { on := 23, ground := Ground.phase }, { on := 24, ground := Ground.phase }, { on := 25, ground := Ground.phase }, { on := 26, ground := Ground.phase }, { on := 27, ground := Ground.phase }, { on := 28, ground := Ground.phase }, { on := 29, ground := Ground.phase }, { on := 30, ground := Ground.phase }, { on := 31, ground := Ground.phase }, { on := 32, ground := Ground.phase }, { on := 33, ground := Ground.phase }, { on := 34, ground := Ground.phase }, { on := 35, ground := Ground.phase }, { on := 36, ground := Ground.phase }, { on := 37, ground := Ground.phase }, { on := 38, ground := Ground.phase }, { on := 39, ground := Ground.phase }, { on := 40, ground := Ground.phase }, { on := 41, ground := Ground.phase }, { on := 42, ground := Ground.phase }, { on := 43, ground := Ground.phase }, { on := 44, ground := Ground.phase }, { on := 45, ground := Ground.phase }, { on := 46, ground := Ground.phase }, { on := 47, ground := Ground.phase }], guard := none }) rfl (fun K hK => ?_) AllReadyH.nil
  rw [if_pos (by rfl)]
  refine wp_store_mid _ _ _ rfl _ _ (List.toArray _) rfl rfl (by simpa using hth) ?_ (all_oneCell_toArray hone) ?_
  · first | exact Tryz.sizeFinds | simp [Tryz.sizeFinds]
  simp only [Act.put, List.toList_toArray]
  refine hK.out _ _ (HK.out _ (Tch.setCells (C := fun b => b = N + 1) (.inl rfl) _ _ (Tch.of_idle hD))) (fun hHeld2 => ?_)
  refine wpAnyH_done (by kernel_rfl) ?_ _
  have hret := Holds.sets [.bool false, .bool false, .bool false, .bool false, .bool false, .bool ob, .bool false, .bool (Go.bits .and .u64 ((readsM ⟨op, ra, rb, rc, imm⟩ : Nat) : Int) ((m : Nat) : Int) != 0), .bool false] 0 (Hs.out.2.1.below hD)
  go_wp2_with fail
  have hfinal := below_cells (B := N) (b := N + 1) (by omega) [.bool false, .bool false, .bool false, .bool false, .bool false, .bool ob, .bool false, .bool (Go.bits .and .u64 ((readsM ⟨op, ra, rb, rc, imm⟩ : Nat) : Int) ((m : Nat) : Int) != 0), .bool false] 0 _ ((show Below N w w2 by rw [← hN]; exact Hs.out.2.2.2).trans (hD.mono (by have := Hs.out.2.2.1.lt; omega)))
  refine bodyPost_ret (results_c rfl rfl (Tryz.loadFinds hret rfl)) rfl ⟨?_, hfinal⟩
  rw [bits_ne (readsM_lt Hl.out.1) Hm.out]
  rw [Hob.out]
  rfl

set_option maxRecDepth 100000 in
set_option maxHeartbeats 4000000 in
theorem fa_goF (a : Option Addr) (cap : Nat) (c : List In) (k m : Nat) (op : Int) (ra rb rc imm : Int) (x : Bool) (w : World) (N : Nat) (hN : w.heap.size = N) (hn : c.length ≤ 1024) (hF : FormsAt w) (hr : RowsIn w a 5 In.cells c) (hi : c[k]? = some ⟨op, ra, rb, rc, imm⟩) (hm : m < 256) (hl : legalP ⟨op, ra, rb, rc, imm⟩ = true) (h18 : op ≠ 18) (h17 : op ≠ 17) (h1 : op ≠ 1) (hgo : (decide (13 ≤ op) && decide (op ≤ 16)) = true) (hpl : isPl imm = false) :
    Calls Tryz.prog 42 #[.slice a c.length cap, .agg #[.int .i64 (k : Nat), .bool x], .int .u64 (m : Nat)] w fun e w' => e = .returned (.agg (nineV false false false false ((lgo c (k, x)).any (outS c.length)) true ((readsM ⟨op, ra, rb, rc, imm⟩ &&& m) != 0)).toArray) ∧ Below N w w' := by
  have hlgo : lgo c (k, x) = lgoI ⟨op, ra, rb, rc, imm⟩ (k, x) := lgo_some hi
  obtain ⟨q, o, rfl, hq, hrow⟩ := hr.row hi
  have hk : k < c.length := (List.getElem?_eq_some_iff.1 hi).1
  have hkk : (0 : Int) ≤ (k : Int) ∧ (k : Int) < (c.length : Int) := by omega
  have HF := Lib.hid (And.intro hF (And.intro hr (And.intro hrow hq))); clear hF hr hrow hq
  have Hn := Lib.hid hn; clear hn
  have Hm := Lib.hid hm; clear hm
  have Hl := Lib.hid (And.intro hl (And.intro hi hlgo)); clear hi hk hlgo
  have f18 : (op == 18) = false := by simpa using h18
  have f17 : (op == 17) = false := by simpa using h17
  have f1 : (op == 1) = false := by simpa using h1
  have hBr := fun (V : World) => bran_any (op) V
  rw [hgo] at hBr
  have HBr := Lib.hid hBr; clear hBr
  have hPl := fun (V : World) => isPl_any imm V
  rw [hpl] at hPl
  have HPl := Lib.hid hPl; clear hPl
  clear hl
  go_enter Tryz.func42, Tryz.ntmps42
  go_upto_region 1 with fail
  have hb1 : Below N w ((w.alloc (.cells #[.int .i64 (k : Nat), .bool x] 89)).alloc (.cells #[.bool false, .bool false, .bool false, .bool false, .bool false, .bool false, .bool false, .bool false, .bool false] 86)) := ((Below.refl _ w).alloc (by omega) _).alloc (by simp; omega) _
  have p1 : Holds ((w.alloc (.cells #[.int .i64 (k : Nat), .bool x] 89)).alloc (.cells #[.bool false, .bool false, .bool false, .bool false, .bool false, .bool false, .bool false, .bool false, .bool false] 86)) N 89 [.int .i64 (k : Nat), .bool x] := (newAt hN 89 [.int .i64 (k : Nat), .bool x]).alloc _
  have p2 : Holds ((w.alloc (.cells #[.int .i64 (k : Nat), .bool x] 89)).alloc (.cells #[.bool false, .bool false, .bool false, .bool false, .bool false, .bool false, .bool false, .bool false, .bool false] 86)) (N + 1) 86 (nineV false false false false false false false) := newAt (by simp [hN]) 86 (nineV false false false false false false false)
  have hs1 : ((w.alloc (.cells #[.int .i64 (k : Nat), .bool x] 89)).alloc (.cells #[.bool false, .bool false, .bool false, .bool false, .bool false, .bool false, .bool false, .bool false, .bool false] 86)).heap.size = N + 2 := by simp [hN]
  generalize (w.alloc (.cells #[.int .i64 (k : Nat), .bool x] 89)).alloc (.cells #[.bool false, .bool false, .bool false, .bool false, .bool false, .bool false, .bool false, .bool false, .bool false] 86) = w1 at *
  have hbw1 : Below w.heap.size w w1 := by rw [hN]; exact hb1
  have Hr := rangeAt_same HF.out.2.2.1 (hbw1.block q HF.out.2.2.2)
  have e0 := p1.cell (i := 0) rfl
  have r0 : w1.cell? ⟨q, o + k * 5, none⟩ = some (.int .i64 (op)) := Hr 0 _ rfl
  have r1 : w1.cell? ⟨q, o + k * 5 + 1, none⟩ = some (.int .i64 ra) := Hr 1 _ rfl
  have r2 : w1.cell? ⟨q, o + k * 5 + 2, none⟩ = some (.int .i64 rb) := Hr 2 _ rfl
  have r3 : w1.cell? ⟨q, o + k * 5 + 3, none⟩ = some (.int .i64 rc) := Hr 3 _ rfl
  have r4 : w1.cell? ⟨q, o + k * 5 + 4, none⟩ = some (.int .i64 imm) := Hr 4 _ rfl
  have hqi : Holds (w1.alloc (.cells #[.int .i64 (op), .int .i64 ra, .int .i64 rb, .int .i64 rc, .int .i64 imm] 43)) (N + 2) 43 (In.cells ⟨op, ra, rb, rc, imm⟩) := newAt hs1 43 (In.cells ⟨op, ra, rb, rc, imm⟩)
  have hb2 : Below w1.heap.size w1 (w1.alloc (.cells #[.int .i64 (op), .int .i64 ra, .int .i64 rb, .int .i64 rc, .int .i64 imm] 43)) := (Below.refl _ w1).alloc (Nat.le_refl _) _
  have hLg := legal_any ⟨op, ra, rb, rc, imm⟩ _ ((HF.out.1.below hbw1).below hb2)
  rw [Hl.out.1] at hLg
  simp only [In.val] at hLg
  have HLg := Lib.hid hLg; clear hLg
  have HB := Lib.hid (And.intro hbw1 (And.intro p1 (And.intro p2 (And.intro hs1 (And.intro hN (And.intro hqi hb2)))))); clear hb1 hbw1 p1 p2 hqi hb2 Hr
  go_wp2_with (go_at_call 14; refine HLg.out.mono ?_; rintro e w2 ⟨rfl, hb3⟩; refine Hid.out ?_)
  refine Lib.hid ?_
  have hB2 : Below w1.heap.size w1 w2 := HB.out.2.2.2.2.2.2.trans (hb3.mono (by simp))
  have hBw : Below w.heap.size w w2 := HB.out.1.trans (hB2.mono (by rw [hN, hs1]; omega))
  have s1 := HB.out.2.1.below hB2
  have s2 := HB.out.2.2.1.below hB2
  have s3 := HB.out.2.2.2.2.2.1.below hb3
  clear e0 r0 r1 r2 r3 r4 HLg
  have hlt2 := s3.lt
  have HK := Lib.hid (fun (V : World) (h : Tch (fun b => b = N + 1) w2 V) => (show V.cell? ⟨N, 0, none⟩ = some (.int .i64 (k : Nat)) ∧ V.cell? ⟨N, 1, none⟩ = some (.bool x) ∧ V.cell? ⟨N + 2, 0, none⟩ = some (.int .i64 (op)) ∧ V.cell? ⟨N + 2, 1, none⟩ = some (.int .i64 ra) ∧ V.cell? ⟨N + 2, 2, none⟩ = some (.int .i64 rb) ∧ V.cell? ⟨N + 2, 3, none⟩ = some (.int .i64 rc) ∧ V.cell? ⟨N + 2, 4, none⟩ = some (.int .i64 imm) from by
    have t1 := h.holds (b := N) (by omega) s1
    have t3 := h.holds (b := N + 2) (by omega) s3
    exact ⟨t1.cell (i := 0) rfl, t1.cell (i := 1) rfl, t3.cell (i := 0) rfl, t3.cell (i := 1) rfl, t3.cell (i := 2) rfl, t3.cell (i := 3) rfl, t3.cell (i := 4) rfl⟩))
  have HTh := Lib.hid (fun (V : World) (h : Below w2.heap.size w2 V) => (show V.there (N + 1) 0 9 from by
    have t2 := s2.below h
    intro j hj
    rw [Nat.zero_add]
    refine ⟨?_, t2.free j⟩
    rw [t2.cell (i := j) (v := (nineV false false false false false false false)[j]'(by simpa [nineV] using hj)) (List.getElem?_eq_getElem _)]
    rfl))
  have HOut := Lib.hid (fun (V : World) (h : Below w2.heap.size w2 V) => out_any (some ⟨q, o, none⟩) cap c (k, x) V Hn.out (HF.out.1.below (hBw.trans (h.mono hBw.size))) (HF.out.2.1.below (hBw.trans (h.mono hBw.size))))
  have hRd := fun (V : World) => reads_any ⟨op, ra, rb, rc, imm⟩ V Hl.out.1
  simp only [In.val] at hRd
  have HRd := Lib.hid hRd; clear hRd
  have Hs := Lib.hid (And.intro s1 (And.intro s2 (And.intro s3 hBw))); clear s1 s2 s3 hBw hB2 hb3 hlt2
  generalize hob : (lgo c (k, x)).any (outS c.length) = ob at HOut
  have Hob := Lib.hid hob; clear hob
  go_wp2_with fail
  refine wp_region_held_drew (S := fun V => V.cell? ⟨N, 0, none⟩ = some (.int .i64 (k : Nat)) ∧ V.cell? ⟨N, 1, none⟩ = some (.bool x) ∧ V.cell? ⟨N + 2, 0, none⟩ = some (.int .i64 (op)) ∧ V.cell? ⟨N + 2, 1, none⟩ = some (.int .i64 ra) ∧ V.cell? ⟨N + 2, 2, none⟩ = some (.int .i64 rb) ∧ V.cell? ⟨N + 2, 3, none⟩ = some (.int .i64 rc) ∧ V.cell? ⟨N + 2, 4, none⟩ = some (.int .i64 imm)) (by kernel_rfl) (HK.out _ (Tch.of_idle (below_drewN (Below.refl _ w2) 1))) (fun hHeld => ?_)
  have hD : Below w2.heap.size w2 w2.drew := below_drewN (Below.refl _ w2) 1
  refine takeD (i := 0) (d := 16) (v := .bool true) rfl rfl (by kernel_rfl) (by kernel_rfl) (by kernel_rfl) (fun _ _ _ h => h) (Or.inl ⟨by rfl, ?_⟩) (by assumption) ?_
  · intro V hSw; (try dsimp only at hSw); go_simp
  simp only [List.setIfInBounds_toArray, List.set_cons_zero, List.set_cons_succ]
  refine takeD (i := 1) (d := 17) (v := .bool false) rfl rfl (by kernel_rfl) (by kernel_rfl) (by kernel_rfl) (fun _ _ _ h => h) (Or.inl ⟨by rfl, ?_⟩) (by assumption) ?_
  · intro V hSw; (try dsimp only at hSw); go_simp
  simp only [List.setIfInBounds_toArray, List.set_cons_zero, List.set_cons_succ]
  refine takeD (i := 2) (d := 18) (v := .pointer (some ⟨N + 2, 0, none⟩)) rfl rfl (by kernel_rfl) (by kernel_rfl) (by kernel_rfl) (fun _ _ _ h => h) (Or.inl ⟨by rfl, ?_⟩) (by assumption) ?_
  · intro V hSw; (try dsimp only at hSw); go_simp
  simp only [List.setIfInBounds_toArray, List.set_cons_zero, List.set_cons_succ]
  refine takeD (i := 3) (d := 19) (v := .int .i64 (op)) rfl rfl (by kernel_rfl) (by kernel_rfl) (by kernel_rfl) (fun _ _ _ h => h) (Or.inl ⟨by rfl, ?_⟩) (by assumption) ?_
  · intro V hSw; (try dsimp only at hSw); go_simp
  simp only [List.setIfInBounds_toArray, List.set_cons_zero, List.set_cons_succ]
  refine takeD (i := 4) (d := 20) (v := .bool false) rfl rfl (by kernel_rfl) (by kernel_rfl) (by kernel_rfl) (fun _ _ _ h => h) (Or.inl ⟨by rfl, ?_⟩) (by assumption) ?_
  · intro V hSw; (try dsimp only at hSw); go_simp
  simp only [List.setIfInBounds_toArray, List.set_cons_zero, List.set_cons_succ]
  refine takeD (i := 5) (d := 21) (v := .bool false) rfl rfl (by kernel_rfl) (by kernel_rfl) (by kernel_rfl) (fun _ _ _ h => h) (Or.inl ⟨by rfl, ?_⟩) (by assumption) ?_
  · intro V hSw; (try dsimp only at hSw); go_simp
  simp only [List.setIfInBounds_toArray, List.set_cons_zero, List.set_cons_succ]
  refine takeD (i := 6) (d := 22) (v := undef) rfl rfl (by kernel_rfl) (by kernel_rfl) (by kernel_rfl) (fun _ _ _ h => h) (Or.inr ⟨by rfl, rfl⟩) (by assumption) ?_
  simp only [List.setIfInBounds_toArray, List.set_cons_zero, List.set_cons_succ]
  refine takeD (i := 7) (d := 23) (v := undef) rfl rfl (by kernel_rfl) (by kernel_rfl) (by kernel_rfl) (fun _ _ _ h => h) (Or.inr ⟨by rfl, rfl⟩) (by assumption) ?_
  simp only [List.setIfInBounds_toArray, List.set_cons_zero, List.set_cons_succ]
  refine takeD (i := 8) (d := 24) (v := undef) rfl rfl (by kernel_rfl) (by kernel_rfl) (by kernel_rfl) (fun _ _ _ h => h) (Or.inr ⟨by rfl, rfl⟩) (by assumption) ?_
  simp only [List.setIfInBounds_toArray, List.set_cons_zero, List.set_cons_succ]
  refine takeD (i := 9) (d := 25) (v := .bool false) rfl rfl (by kernel_rfl) (by kernel_rfl) (by kernel_rfl) (fun _ _ _ h => h) (Or.inl ⟨by rfl, ?_⟩) (by assumption) ?_
  · intro V hSw; (try dsimp only at hSw); go_simp
  simp only [List.setIfInBounds_toArray, List.set_cons_zero, List.set_cons_succ]
  refine takeD (i := 10) (d := 26) (v := .pointer (some ⟨N + 2, 0, none⟩)) rfl rfl (by kernel_rfl) (by kernel_rfl) (by kernel_rfl) (fun _ _ _ h => h) (Or.inl ⟨by rfl, ?_⟩) (by assumption) ?_
  · intro V hSw; (try dsimp only at hSw); go_simp
  simp only [List.setIfInBounds_toArray, List.set_cons_zero, List.set_cons_succ]
  refine takeD (i := 11) (d := 27) (v := .int .i64 (op)) rfl rfl (by kernel_rfl) (by kernel_rfl) (by kernel_rfl) (fun _ _ _ h => h) (Or.inl ⟨by rfl, ?_⟩) (by assumption) ?_
  · intro V hSw; (try dsimp only at hSw); go_simp
  simp only [List.setIfInBounds_toArray, List.set_cons_zero, List.set_cons_succ]
  refine takeD (i := 12) (d := 28) (v := .bool false) rfl rfl (by kernel_rfl) (by kernel_rfl) (by kernel_rfl) (fun _ _ _ h => h) (Or.inl ⟨by rfl, ?_⟩) (by assumption) ?_
  · intro V hSw; (try dsimp only at hSw); go_simp
  simp only [List.setIfInBounds_toArray, List.set_cons_zero, List.set_cons_succ]
  refine takeD (i := 13) (d := 29) (v := .bool false) rfl rfl (by kernel_rfl) (by kernel_rfl) (by kernel_rfl) (fun _ _ _ h => h) (Or.inl ⟨by rfl, ?_⟩) (by assumption) ?_
  · intro V hSw; (try dsimp only at hSw); go_simp
  simp only [List.setIfInBounds_toArray, List.set_cons_zero, List.set_cons_succ]
  refine takeD (i := 14) (d := 30) (v := undef) rfl rfl (by kernel_rfl) (by kernel_rfl) (by kernel_rfl) (fun _ _ _ h => h) (Or.inr ⟨by rfl, rfl⟩) (by assumption) ?_
  simp only [List.setIfInBounds_toArray, List.set_cons_zero, List.set_cons_succ]
  refine takeD (i := 15) (d := 31) (v := undef) rfl rfl (by kernel_rfl) (by kernel_rfl) (by kernel_rfl) (fun _ _ _ h => h) (Or.inr ⟨by rfl, rfl⟩) (by assumption) ?_
  simp only [List.setIfInBounds_toArray, List.set_cons_zero, List.set_cons_succ]
  refine takeD (i := 16) (d := 32) (v := .bool false) rfl rfl (by kernel_rfl) (by kernel_rfl) (by kernel_rfl) (fun _ _ _ h => h) (Or.inl ⟨by rfl, ?_⟩) (by assumption) ?_
  · intro V hSw; (try dsimp only at hSw); go_simp
  simp only [List.setIfInBounds_toArray, List.set_cons_zero, List.set_cons_succ]
  refine takeD (i := 17) (d := 33) (v := .pointer (some ⟨N + 2, 0, none⟩)) rfl rfl (by kernel_rfl) (by kernel_rfl) (by kernel_rfl) (fun _ _ _ h => h) (Or.inl ⟨by rfl, ?_⟩) (by assumption) ?_
  · intro V hSw; (try dsimp only at hSw); go_simp
  simp only [List.setIfInBounds_toArray, List.set_cons_zero, List.set_cons_succ]
  refine takeD (i := 18) (d := 34) (v := .int .i64 (op)) rfl rfl (by kernel_rfl) (by kernel_rfl) (by kernel_rfl) (fun _ _ _ h => h) (Or.inl ⟨by rfl, ?_⟩) (by assumption) ?_
  · intro V hSw; (try dsimp only at hSw); go_simp
  simp only [List.setIfInBounds_toArray, List.set_cons_zero, List.set_cons_succ]
  refine takeD (i := 19) (d := 35) (v := .bool false) rfl rfl (by kernel_rfl) (by kernel_rfl) (by kernel_rfl) (fun _ _ _ h => h) (Or.inl ⟨by rfl, ?_⟩) (by assumption) ?_
  · intro V hSw; (try dsimp only at hSw); go_simp
  simp only [List.setIfInBounds_toArray, List.set_cons_zero, List.set_cons_succ]
  refine takeD (i := 20) (d := 36) (v := .bool false) rfl rfl (by kernel_rfl) (by kernel_rfl) (by kernel_rfl) (fun _ _ _ h => h) (Or.inl ⟨by rfl, ?_⟩) (by assumption) ?_
  · intro V hSw; (try dsimp only at hSw); go_simp
  simp only [List.setIfInBounds_toArray, List.set_cons_zero, List.set_cons_succ]
  refine takeD (i := 21) (d := 37) (v := undef) rfl rfl (by kernel_rfl) (by kernel_rfl) (by kernel_rfl) (fun _ _ _ h => h) (Or.inr ⟨by rfl, rfl⟩) (by assumption) ?_
  simp only [List.setIfInBounds_toArray, List.set_cons_zero, List.set_cons_succ]
  refine takeD (i := 22) (d := 38) (v := undef) rfl rfl (by kernel_rfl) (by kernel_rfl) (by kernel_rfl) (fun _ _ _ h => h) (Or.inr ⟨by rfl, rfl⟩) (by assumption) ?_
  simp only [List.setIfInBounds_toArray, List.set_cons_zero, List.set_cons_succ]
  refine takeD (i := 23) (d := 39) (v := .bool false) rfl rfl (by kernel_rfl) (by kernel_rfl) (by kernel_rfl) (fun _ _ _ h => h) (Or.inl ⟨by rfl, ?_⟩) (by assumption) ?_
  · intro V hSw; (try dsimp only at hSw); go_simp
  simp only [List.setIfInBounds_toArray, List.set_cons_zero, List.set_cons_succ]
  refine takeD (i := 24) (d := 40) (v := .slice (some ⟨q, o, none⟩) c.length cap) rfl rfl (by kernel_rfl) (by kernel_rfl) (by kernel_rfl) (fun _ _ _ h => h) (Or.inl ⟨by rfl, ?_⟩) (by assumption) ?_
  · intro V hSw; (try dsimp only at hSw); go_simp
  simp only [List.setIfInBounds_toArray, List.set_cons_zero, List.set_cons_succ]
  refine takeD (i := 25) (d := 41) (v := .agg #[.int .i64 (k : Nat), .bool x]) rfl rfl (by kernel_rfl) (by kernel_rfl) (by kernel_rfl) (fun _ _ _ h => h) (Or.inl ⟨by rfl, ?_⟩) (by assumption) ?_
  · intro V hSw; (try dsimp only at hSw); go_simp
  simp only [List.setIfInBounds_toArray, List.set_cons_zero, List.set_cons_succ]
  refine takeD (i := 27) (d := 43) (v := .bool true) rfl rfl (by kernel_rfl) (by kernel_rfl) (by kernel_rfl) (fun _ _ _ h => h) (Or.inl ⟨by rfl, ?_⟩) (by assumption) ?_
  · intro V hSw; (try dsimp only at hSw); go_simp
  simp only [List.setIfInBounds_toArray, List.set_cons_zero, List.set_cons_succ]
  refine takeD (i := 39) (d := 55) (v := .bool true) rfl rfl (by kernel_rfl) (by kernel_rfl) (by kernel_rfl) (fun _ _ _ h => h) (Or.inl ⟨by rfl, ?_⟩) (by assumption) ?_
  · intro V hSw; (try dsimp only at hSw); go_simp
  simp only [List.setIfInBounds_toArray, List.set_cons_zero, List.set_cons_succ]
  refine wpAnyH_ready (rs := [26]) (by kernel_rfl) (by simp) ?_
  refine AllReadyH.cons (o := { dst := some 42, op := Op.call { callee := Callee.value (Operand.func 61), args := #[Operand.tmp 40, Operand.tmp 41], argTypes := #[31, 89] }, type := 4, pos := "found.go:54", after := #[{ on := 24, ground := Ground.data }, { on := 25, ground := Ground.data }, { on := 20, ground := Ground.chain }], guard := none }) rfl (fun K hK => ?_) AllReadyH.nil
  go_simp
  refine (HOut.out _ hD).mono ?_
  rintro e V1 ⟨rfl, hb⟩
  have hD1 := hD.trans (hb.mono hD.size)
  clear hb hD
  have hD := hD1
  clear hD1
  refine hK.out _ _ (HK.out _ (Tch.of_idle hD)) (fun hHeld2 => ?_)
  clear hK
  try simp only [Act.put, List.setIfInBounds_toArray, List.set_cons_zero, List.set_cons_succ]
  refine takeD (i := 28) (d := 44) (v := .bool true) rfl rfl (by kernel_rfl) (by kernel_rfl) (by kernel_rfl) (fun _ _ _ h => h) (Or.inl ⟨by rfl, ?_⟩) (by assumption) ?_
  · intro V hSw; (try dsimp only at hSw); go_simp
  simp only [List.setIfInBounds_toArray, List.set_cons_zero, List.set_cons_succ]
  refine takeD (i := 29) (d := 45) (v := .pointer (some ⟨N + 2, 0, none⟩)) rfl rfl (by kernel_rfl) (by kernel_rfl) (by kernel_rfl) (fun _ _ _ h => h) (Or.inl ⟨by rfl, ?_⟩) (by assumption) ?_
  · intro V hSw; (try dsimp only at hSw); go_simp
  simp only [List.setIfInBounds_toArray, List.set_cons_zero, List.set_cons_succ]
  refine takeD (i := 30) (d := 46) (v := .int .i64 (op)) rfl rfl (by kernel_rfl) (by kernel_rfl) (by kernel_rfl) (fun _ _ _ h => h) (Or.inl ⟨by rfl, ?_⟩) (by assumption) ?_
  · intro V hSw; (try dsimp only at hSw); go_simp
  simp only [List.setIfInBounds_toArray, List.set_cons_zero, List.set_cons_succ]
  refine wpAnyH_ready (rs := [31]) (by kernel_rfl) (by simp) ?_
  refine AllReadyH.cons (o := { dst := some 47, op := Op.call { callee := Callee.value (Operand.func 62), args := #[Operand.tmp 46], argTypes := #[3] }, type := 4, pos := "found.go:55", after := #[{ on := 30, ground := Ground.data }, { on := 28, ground := Ground.chain }, { on := 28, ground := Ground.guard }], guard := some (28, true) }) rfl (fun K hK => ?_) AllReadyH.nil
  go_simp
  refine (HBr.out _).mono ?_
  rintro e V2 ⟨rfl, rfl⟩
  refine hK.out _ _ (HK.out _ (Tch.of_idle hD)) (fun hHeld2 => ?_)
  clear hK
  try simp only [Act.put, List.setIfInBounds_toArray, List.set_cons_zero, List.set_cons_succ]
  refine takeD (i := 32) (d := 48) (v := .bool true) rfl rfl (by kernel_rfl) (by kernel_rfl) (by kernel_rfl) (fun _ _ _ h => h) (Or.inl ⟨by rfl, ?_⟩) (by assumption) ?_
  · intro V hSw; (try dsimp only at hSw); go_simp
  simp only [List.setIfInBounds_toArray, List.set_cons_zero, List.set_cons_succ]
  refine takeD (i := 33) (d := 49) (v := .bool true) rfl rfl (by kernel_rfl) (by kernel_rfl) (by kernel_rfl) (fun _ _ _ h => h) (Or.inl ⟨by rfl, ?_⟩) (by assumption) ?_
  · intro V hSw; (try dsimp only at hSw); go_simp
  simp only [List.setIfInBounds_toArray, List.set_cons_zero, List.set_cons_succ]
  refine takeD (i := 34) (d := 50) (v := .pointer (some ⟨N + 2, 4, none⟩)) rfl rfl (by kernel_rfl) (by kernel_rfl) (by kernel_rfl) (fun _ _ _ h => h) (Or.inl ⟨by rfl, ?_⟩) (by assumption) ?_
  · intro V hSw; (try dsimp only at hSw); go_simp
  simp only [List.setIfInBounds_toArray, List.set_cons_zero, List.set_cons_succ]
  refine takeD (i := 35) (d := 51) (v := .int .i64 imm) rfl rfl (by kernel_rfl) (by kernel_rfl) (by kernel_rfl) (fun _ _ _ h => h) (Or.inl ⟨by rfl, ?_⟩) (by assumption) ?_
  · intro V hSw; (try dsimp only at hSw); go_simp
  simp only [List.setIfInBounds_toArray, List.set_cons_zero, List.set_cons_succ]
  refine wpAnyH_ready (rs := [36]) (by kernel_rfl) (by simp) ?_
  refine AllReadyH.cons (o := { dst := some 52, op := Op.call { callee := Callee.value (Operand.func 45), args := #[Operand.tmp 51], argTypes := #[3] }, type := 4, pos := "found.go:55", after := #[{ on := 35, ground := Ground.data }, { on := 33, ground := Ground.chain }, { on := 33, ground := Ground.guard }], guard := some (33, true) }) rfl (fun K hK => ?_) AllReadyH.nil
  go_simp
  refine (HPl.out _).mono ?_
  rintro e V3 ⟨rfl, rfl⟩
  refine hK.out _ _ (HK.out _ (Tch.of_idle hD)) (fun hHeld2 => ?_)
  clear hK
  try simp only [Act.put, List.setIfInBounds_toArray, List.set_cons_zero, List.set_cons_succ]
  refine takeD (i := 37) (d := 53) (v := .bool true) rfl rfl (by kernel_rfl) (by kernel_rfl) (by kernel_rfl) (fun _ _ _ h => h) (Or.inl ⟨by rfl, ?_⟩) (by assumption) ?_
  · intro V hSw; (try dsimp only at hSw); go_simp
  simp only [List.setIfInBounds_toArray, List.set_cons_zero, List.set_cons_succ]
  refine takeD (i := 38) (d := 54) (v := .bool true) rfl rfl (by kernel_rfl) (by kernel_rfl) (by kernel_rfl) (fun _ _ _ h => h) (Or.inl ⟨by rfl, ?_⟩) (by assumption) ?_
  · intro V hSw; (try dsimp only at hSw); go_simp
  simp only [List.setIfInBounds_toArray, List.set_cons_zero, List.set_cons_succ]
  refine takeD (i := 40) (d := 56) (v := .bool true) rfl rfl (by kernel_rfl) (by kernel_rfl) (by kernel_rfl) (fun _ _ _ h => h) (Or.inl ⟨by rfl, ?_⟩) (by assumption) ?_
  · intro V hSw; (try dsimp only at hSw); go_simp
  simp only [List.setIfInBounds_toArray, List.set_cons_zero, List.set_cons_succ]
  refine takeD (i := 41) (d := 57) (v := .agg #[.int .i64 (op), .int .i64 ra, .int .i64 rb, .int .i64 rc, .int .i64 imm]) rfl rfl (by kernel_rfl) (by kernel_rfl) (by kernel_rfl) (fun _ _ _ h => h) (Or.inl ⟨by rfl, ?_⟩) (by assumption) ?_
  · intro V hSw; (try dsimp only at hSw); go_simp
  simp only [List.setIfInBounds_toArray, List.set_cons_zero, List.set_cons_succ]
  refine takeD (i := 43) (d := 59) (v := .int .u64 (m : Nat)) rfl rfl (by kernel_rfl) (by kernel_rfl) (by kernel_rfl) (fun _ _ _ h => h) (Or.inl ⟨by rfl, ?_⟩) (by assumption) ?_
  · intro V hSw; (try dsimp only at hSw); go_simp
  simp only [List.setIfInBounds_toArray, List.set_cons_zero, List.set_cons_succ]
  refine wpAnyH_ready (rs := [42]) (by kernel_rfl) (by simp) ?_
  refine AllReadyH.cons (o := { dst := some 58, op := Op.call { callee := Callee.value (Operand.func 63), args := #[Operand.tmp 57], argTypes := #[43] }, type := 91, pos := "found.go:56", after := #[{ on := 41, ground := Ground.data }, { on := 40, ground := Ground.chain }, { on := 40, ground := Ground.guard }], guard := some (40, true) }) rfl (fun K hK => ?_) AllReadyH.nil
  go_simp
  refine (HRd.out _).mono ?_
  rintro e V4 ⟨rfl, hb⟩
  have hD1 := hD.trans (hb.mono hD.size)
  clear hb hD
  have hD := hD1
  clear hD1
  refine hK.out _ _ (HK.out _ (Tch.of_idle hD)) (fun hHeld2 => ?_)
  clear hK
  try simp only [Act.put, List.setIfInBounds_toArray, List.set_cons_zero, List.set_cons_succ]
  refine takeD (i := 44) (d := 60) (v := .int .u64 (Go.bits .and .u64 ((readsM ⟨op, ra, rb, rc, imm⟩ : Nat) : Int) ((m : Nat) : Int))) rfl rfl (by kernel_rfl) (by kernel_rfl) (by kernel_rfl) (fun _ _ _ h => h) (Or.inl ⟨by rfl, ?_⟩) (by assumption) ?_
  · intro V hSw; (try dsimp only at hSw); go_simp
  simp only [List.setIfInBounds_toArray, List.set_cons_zero, List.set_cons_succ]
  refine takeD (i := 45) (d := 61) (v := .bool (Go.bits .and .u64 ((readsM ⟨op, ra, rb, rc, imm⟩ : Nat) : Int) ((m : Nat) : Int) != 0)) rfl rfl (by kernel_rfl) (by kernel_rfl) (by kernel_rfl) (fun _ _ _ h => h) (Or.inl ⟨by rfl, ?_⟩) (by assumption) ?_
  · intro V hSw; (try dsimp only at hSw); go_simp
  simp only [List.setIfInBounds_toArray, List.set_cons_zero, List.set_cons_succ]
  refine takeD (i := 46) (d := 62) (v := .bool (Go.bits .and .u64 ((readsM ⟨op, ra, rb, rc, imm⟩ : Nat) : Int) ((m : Nat) : Int) != 0)) rfl rfl (by kernel_rfl) (by kernel_rfl) (by kernel_rfl) (fun _ _ _ h => h) (Or.inl ⟨by rfl, ?_⟩) (by assumption) ?_
  · intro V hSw; (try dsimp only at hSw); go_simp
  simp only [List.setIfInBounds_toArray, List.set_cons_zero, List.set_cons_succ]
  refine takeD (i := 47) (d := 63) (v := .agg #[.bool false, .bool false, .bool false, .bool false, .bool false, .bool ob, .bool true, .bool (Go.bits .and .u64 ((readsM ⟨op, ra, rb, rc, imm⟩ : Nat) : Int) ((m : Nat) : Int) != 0), .bool false]) rfl rfl (by kernel_rfl) (by kernel_rfl) (by kernel_rfl) (fun _ _ _ h => h) (Or.inl ⟨by rfl, ?_⟩) (by assumption) ?_
  · intro V hSw; (try dsimp only at hSw); go_simp
  simp only [List.setIfInBounds_toArray, List.set_cons_zero, List.set_cons_succ]
  have hth := HTh.out _ hD
  have hone : ∀ v ∈ ([.bool false, .bool false, .bool false, .bool false, .bool false, .bool ob, .bool true, .bool (Go.bits .and .u64 ((readsM ⟨op, ra, rb, rc, imm⟩ : Nat) : Int) ((m : Nat) : Int) != 0), .bool false] : List Value), v.oneCell' = true := by simp [Value.oneCell']
  refine wpAnyH_ready (rs := [48]) (by kernel_rfl) (by simp) ?_
  refine AllReadyH.cons (o := { dst := none, op := Op.store 86 (Operand.tmp 6) (Operand.tmp 63), type := 0, pos := "found.go:49", after := #[{ on := 47, ground := Ground.data }, { on := 42, ground := Ground.chain }, { on := 0, ground := Ground.phase }, { on := 1, ground := Ground.phase }, { on := 2, ground := Ground.phase }, { on := 3, ground := Ground.phase }, { on := 4, ground := Ground.phase }, { on := 5, ground := Ground.phase }, { on := 6, ground := Ground.phase }, { on := 7, ground := Ground.phase }, { on := 8, ground := Ground.phase }, { on := 9, ground := Ground.phase }, { on := 10, ground := Ground.phase }, { on := 11, ground := Ground.phase }, { on := 12, ground := Ground.phase }, { on := 13, ground := Ground.phase }, { on := 14, ground := Ground.phase }, { on := 15, ground := Ground.phase }, { on := 16, ground := Ground.phase }, { on := 17, ground := Ground.phase }, { on := 18, ground := Ground.phase }, { on := 19, ground := Ground.phase }, { on := 20, ground := Ground.phase }, { on := 21, ground := Ground.phase }, { on := 22, ground := Ground.phase }, { on := 23, ground := Ground.phase }, { on := 24, ground := Ground.phase }, { on := 25, ground := Ground.phase }, { on := 26, ground := Ground.phase }, { on := 27, ground := Ground.phase }, { on := 28, ground := Ground.phase }, { on := 29, ground := Ground.phase }, { on := 30, ground := Ground.phase }, { on := 31, ground := Ground.phase }, { on := 32, ground := Ground.phase }, { on := 33, ground := Ground.phase }, { on := 34, ground := Ground.phase }, { on := 35, ground := Ground.phase }, { on := 36, ground := Ground.phase }, { on := 37, ground := Ground.phase }, { on := 38, ground := Ground.phase }, { on := 39, ground := Ground.phase }, { on := 40, ground := Ground.phase }, { on := 41, ground := Ground.phase }, { on := 42, ground := Ground.phase }, { on := 43, ground := Ground.phase }, { on := 44, ground := Ground.phase }, { on := 45, ground := Ground.phase }, { on := 46, ground := Ground.phase }, { on := 47, ground := Ground.phase }], guard := none }) rfl (fun K hK => ?_) AllReadyH.nil
  rw [if_pos (by rfl)]
  refine wp_store_mid _ _ _ rfl _ _ (List.toArray _) rfl rfl (by simpa using hth) ?_ (all_oneCell_toArray hone) ?_
  · first | exact Tryz.sizeFinds | simp [Tryz.sizeFinds]
  simp only [Act.put, List.toList_toArray]
  refine hK.out _ _ (HK.out _ (Tch.setCells (C := fun b => b = N + 1) (.inl rfl) _ _ (Tch.of_idle hD))) (fun hHeld2 => ?_)
  refine wpAnyH_done (by kernel_rfl) ?_ _
  have hret := Holds.sets [.bool false, .bool false, .bool false, .bool false, .bool false, .bool ob, .bool true, .bool (Go.bits .and .u64 ((readsM ⟨op, ra, rb, rc, imm⟩ : Nat) : Int) ((m : Nat) : Int) != 0), .bool false] 0 (Hs.out.2.1.below hD)
  go_wp2_with fail
  have hfinal := below_cells (B := N) (b := N + 1) (by omega) [.bool false, .bool false, .bool false, .bool false, .bool false, .bool ob, .bool true, .bool (Go.bits .and .u64 ((readsM ⟨op, ra, rb, rc, imm⟩ : Nat) : Int) ((m : Nat) : Int) != 0), .bool false] 0 _ ((show Below N w w2 by rw [← hN]; exact Hs.out.2.2.2).trans (hD.mono (by have := Hs.out.2.2.1.lt; omega)))
  refine bodyPost_ret (results_c rfl rfl (Tryz.loadFinds hret rfl)) rfl ⟨?_, hfinal⟩
  rw [bits_ne (readsM_lt Hl.out.1) Hm.out]
  rw [Hob.out]
  rfl

/-- At a spot that was met, in memory. -/
def fCells (n : Nat) (i : In) (s : Spot) (m : Nat) : List Value := (List.range 9).map fun k => .bool (fAt n k i s m)
theorem fCells_nine (n : Nat) (i : In) (s : Spot) (m : Nat) : fCells n i s m = nineV (fAt n 1 i s m) (fAt n 2 i s m) (fAt n 3 i s m) (fAt n 4 i s m) (fAt n 5 i s m) (fAt n 6 i s m) (fAt n 7 i s m) := rfl
theorem findsAt_any (a : Option Addr) (cap : Nat) (c : List In) (k m : Nat) (i : In) (x : Bool) (w : World) (hn : c.length ≤ 1024) (hF : FormsAt w) (hr : RowsIn w a 5 In.cells c) (hi : c[k]? = some i) (hm : m < 256) :
    Calls Tryz.prog 42 #[.slice a c.length cap, .agg #[.int .i64 (k : Nat), .bool x], .int .u64 (m : Nat)] w fun e w' => e = .returned (.agg (fCells c.length i (k, x) m).toArray) ∧ Below w.heap.size w w' := by
  have hany : (lgo c (k, x)).any (outS c.length) = fAt c.length 5 i (k, x) m := by
    rw [lgo_some (s := (k, x)) hi]
    show _ = (lgoI i (k, x)).any fun t => t.2 && decide (c.length ≤ t.1)
    congr 1
    funext t
    exact outS_eq _ _
  rw [fCells_nine, ← hany]
  have h2 : fAt c.length 2 i (k, x) m = (i.op == 18 && !x) := rfl
  have h3 : fAt c.length 3 i (k, x) m = (i.op == 17 && x) := rfl
  have h4 : fAt c.length 4 i (k, x) m = (i.op == 1 && x) := rfl
  have h1 : fAt c.length 1 i (k, x) m = !legalP i := rfl
  have h6 : fAt c.length 6 i (k, x) m = (legalP i && (decide (13 ≤ i.op) && decide (i.op ≤ 16)) && !isPl i.imm) := rfl
  have h7 : fAt c.length 7 i (k, x) m = (legalP i && (readsM i &&& m != 0)) := rfl
  rw [h1, h2, h3, h4, h6, h7]
  clear h1 h2 h3 h4 h6 h7 hany
  obtain ⟨op, ra, rb, rc, imm⟩ := i
  simp only
  have hz : ∀ o : Int, (o = 18 ∨ o = 17 ∨ o = 1) → legalP ⟨o, ra, rb, rc, imm⟩ = true := fun o h => by
    rcases h with rfl | rfl | rfl
    · show ((decide ((1 : Int) ≤ 18) && decide ((18 : Int) ≤ 18)) && (regPl (mask 18)).all (regOk _)) = true
      rw [show regPl (mask 18) = [] from by decide]; rfl
    · show ((decide ((1 : Int) ≤ 17) && decide ((17 : Int) ≤ 18)) && (regPl (mask 17)).all (regOk _)) = true
      rw [show regPl (mask 17) = [] from by decide]; rfl
    · show ((decide ((1 : Int) ≤ 1) && decide ((1 : Int) ≤ 18)) && (regPl (mask 1)).all (regOk _)) = true
      rw [show regPl (mask 1) = [] from by decide]; rfl
  by_cases h18 : op = 18
  · subst h18
    have hl := hz 18 (.inl rfl)
    have := fa_18 a cap c k m ra rb rc imm x w _ rfl hn hF hr hi hm hl
    simp only [hl, Bool.not_true, Bool.true_and, beq_self_eq_true]
    exact this
  by_cases h17 : op = 17
  · subst h17
    have hl := hz 17 (.inr (.inl rfl))
    have := fa_17 a cap c k m ra rb rc imm x w _ rfl hn hF hr hi hm hl
    simp only [hl, Bool.not_true, Bool.true_and, beq_self_eq_true]
    exact this
  by_cases h1 : op = 1
  · subst h1
    have hl := hz 1 (.inr (.inr rfl))
    have := fa_1 a cap c k m ra rb rc imm x w _ rfl hn hF hr hi hm hl
    simp only [hl, Bool.not_true, Bool.true_and, beq_self_eq_true]
    exact this
  have e18 : (op == 18) = false := by simpa using h18
  have e17 : (op == 17) = false := by simpa using h17
  have e1 : (op == 1) = false := by simpa using h1
  rw [e18, e17, e1]
  cases hl : legalP ⟨op, ra, rb, rc, imm⟩ with
  | false =>
    have := fa_ill a cap c k m op ra rb rc imm x w _ rfl hn hF hr hi hm hl h18 h17 h1
    simpa using this
  | true =>
    cases hgo : (decide (13 ≤ op) && decide (op ≤ 16)) with
    | false =>
      have := fa_oth a cap c k m op ra rb rc imm x w _ rfl hn hF hr hi hm hl h18 h17 h1 hgo
      simpa using this
    | true =>
      cases hpl : isPl imm with
      | true =>
        have := fa_goT a cap c k m op ra rb rc imm x w _ rfl hn hF hr hi hm hl h18 h17 h1 hgo hpl
        simpa using this
      | false =>
        have := fa_goF a cap c k m op ra rb rc imm x w _ rfl hn hF hr hi hm hl h18 h17 h1 hgo hpl
        simpa using this

end Go.Proofs.YteijhcibdglkeaaGreatDoor
