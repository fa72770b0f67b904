/- A node: Load, Store, Cas. Conditions: those stated in each theorem. -/
import Derived.Test.YtddajnpichchfaaNodeC
namespace Go.Proofs.Ytddajnpichchfaa
open Go.RowKit Go.BigFrame

section
variable {w : World} {lo a p S : Nat} {bs : List Nat} {ways : Nat} {bv : Value} {n : Nd}
theorem Nd.mark_u (n : Nd) (k : Int) (wr : Bool) : (n.mark k wr).u = n.u := by unfold Nd.mark; split <;> rfl
theorem Nd.mark_backs (n : Nd) (k : Int) (wr : Bool) : (n.mark k wr).backs = n.backs := by unfold Nd.mark; split <;> rfl
theorem Nd.lineOf_ok {n : Nd} {k : Int} (h : (n.lineOf k).2 = 0) : n.lineOf k = (k / 8, 0) := by
  unfold Nd.lineOf at *
  split
  · rfl
  · rename_i hc; rw [if_neg hc] at h; simp at h

set_option maxRecDepth 100000 in
set_option maxHeartbeats 1000000 in
theorem load_any (h : NodeAt w lo a p S bs ways bv n) (k : Int) (hk : k ≤ 9223372036854775807) (hl : n.backs.length ≤ 1000000) (h0 : 0 ≤ n.u) (hu : n.u < 4294967296) :
    Calls Try.prog 13 #[.pointer (some ⟨a, 0, none⟩), .int .i64 k] w fun e w' => ∃ v, e = .returned (.tuple #[.int .u64 (n.load k).2.1, .bool (n.load k).2.2.1, v, .int .i64 (n.load k).2.2.2.2]) ∧ NOut w lo a p S bs ways bv (n.load k).1 (n.load k).2.2.2.1 v w' := by
  have HL := Lib.hid (lineOf_any h k hk)
  unfold Nd.load
  by_cases he : (n.lineOf k).2 = 0
  · rw [if_neg (by simpa using he)]
    have e1 := Nd.lineOf_ok he
    rw [e1] at HL
    have HS := Lib.hid (state_any h (k / 8))
    clear he e1
    by_cases hs : stateL n.ss (k / 8) = 0
    · rw [if_pos hs]
      rw [hs] at HS
      have H := Lib.hid h
      clear hs h
      go_enter Try.func13, Try.ntmps13
      go_wp2_with fail
      refine HL.out.mono ?_
      rintro e w' ⟨rfl, rfl⟩
      go_wp2_with fail
      refine HS.out.mono ?_
      rintro e w1 ⟨rfl, hb⟩
      have h1 := H.out.below hb (Nat.le_refl _)
      have HT := Lib.hid (below_own (a := a) (p := p) (bs := bs) (bv := bv) hb)
      have HA := Lib.hid (ask_any h1 1 (k / 8) hl)
      clear hb h1
      go_wp2_with fail
      refine HA.out.mono ?_
      rintro e w2 ⟨v, rfl, hn⟩
      have HN := Lib.hid (hn.after HT.out); clear hn
      go_wp2
      exact bodyPost_ret (v := .tuple #[.int .u64 0, .bool false, v, .int .i64 0]) (by simp [results, Try.results13, go_sem]) rfl ⟨v, rfl, HN.out⟩
    · rw [if_neg hs]
      have hs' : (stateL n.ss (k / 8) == 0) = false := by simpa using hs
      have H := Lib.hid h
      have hmu := n.mark_u (k / 8) false
      generalize hst : stateL n.ss (k / 8) = st at *
      clear hs h hst
      go_enter Try.func13, Try.ntmps13
      go_wp2_with fail
      refine HL.out.mono ?_
      rintro e w' ⟨rfl, rfl⟩
      go_wp2_with fail
      refine HS.out.mono ?_
      rintro e w1 ⟨rfl, hb⟩
      have h1 := H.out.below hb (Nat.le_refl _)
      have HT := Lib.hid (below_own (a := a) (p := p) (bs := bs) (bv := bv) hb)
      have HA := Lib.hid (mark_ok h1 (k / 8) false)
      clear hb h1
      go_wp2_with fail
      refine HA.out.mono ?_
      rintro e w2 ⟨rfl, h2, hT2⟩
      have c2 := h2.c 2 rfl
      have hw := word_any h2.cache k hk (by rw [hmu]; exact h0) (by rw [hmu]; exact hu)
      have HW := Lib.hid hw
      have H2 := Lib.hid (And.intro h2 (HT.out.trans hT2))
      clear hw h2 hT2
      go_wp2_with fail
      refine HW.out.mono ?_
      rintro e w3 ⟨he, hc, hT⟩
      rw [wordL_val] at he
      subst he
      have HN := Lib.hid (NOut.self (H2.out.1.turn hc hT) (H2.out.2.trans (tch_own hT)))
      rw [hmu] at HN
      clear hc hT
      generalize hr : wordX (n.mark (k / 8) false).ss k = r at *
      have HR := Lib.hid hr; clear hr
      go_wp2
      exact bodyPost_ret (v := .tuple #[.int .u64 r.1, .bool true, .slice none 0 0, .int .i64 r.2]) (by simp [results, Try.results13, go_sem]) rfl ⟨_, by rw [HR.out], HN.out⟩
  · rw [if_pos he]
    have he' : ((n.lineOf k).2 != 0) = true := by simpa using he
    have HN := Lib.hid (NOut.idle h (Below.refl _ _))
    generalize n.lineOf k = r at *
    clear h he
    go_enter Try.func13, Try.ntmps13
    go_wp2_with fail
    refine HL.out.mono ?_
    rintro e w' ⟨rfl, rfl⟩
    go_wp2
    exact bodyPost_ret (v := .tuple #[.int .u64 0, .bool false, .slice none 0 0, .int .i64 r.2]) (by simp [results, Try.results13, go_sem]) rfl ⟨_, rfl, HN.out⟩

set_option maxRecDepth 100000 in
set_option maxHeartbeats 1000000 in
theorem store_any (h : NodeAt w lo a p S bs ways bv n) (k x : Int) (hk : k ≤ 9223372036854775807) (hl : n.backs.length ≤ 1000000) (h0 : 0 ≤ n.u) (hu : n.u < 4294967296) :
    Calls Try.prog 19 #[.pointer (some ⟨a, 0, none⟩), .int .i64 k, .int .u64 x] w fun e w' => ∃ v, e = .returned (.tuple #[.bool (n.store k x).2.1, v, .int .i64 (n.store k x).2.2.2]) ∧ NOut w lo a p S bs ways bv (n.store k x).1 (n.store k x).2.2.1 v w' := by
  have HL := Lib.hid (lineOf_any h k hk)
  unfold Nd.store
  by_cases he : (n.lineOf k).2 = 0
  · rw [if_neg (by simpa using he)]
    have e1 := Nd.lineOf_ok he
    rw [e1] at HL
    have HS := Lib.hid (state_any h (k / 8))
    clear he e1
    by_cases hs : stateL n.ss (k / 8) = 2
    · rw [if_neg (by simpa using hs)]
      rw [hs] at HS
      have H := Lib.hid h
      have hmu := n.mark_u (k / 8) true
      clear hs h
      go_enter Try.func19, Try.ntmps19
      go_wp2_with fail
      refine HL.out.mono ?_
      rintro e w' ⟨rfl, rfl⟩
      go_wp2_with fail
      refine HS.out.mono ?_
      rintro e w1 ⟨rfl, hb⟩
      have h1 := H.out.below hb (Nat.le_refl _)
      have HT := Lib.hid (below_own (a := a) (p := p) (bs := bs) (bv := bv) hb)
      have HA := Lib.hid (mark_ok h1 (k / 8) true)
      clear hb h1
      go_wp2_with fail
      refine HA.out.mono ?_
      rintro e w2 ⟨rfl, h2, hT2⟩
      have c2 := h2.c 2 rfl
      have hw := put_any h2.cache k x hk (by rw [hmu]; exact h0) (by rw [hmu]; exact hu)
      have HW := Lib.hid hw
      have H2 := Lib.hid (And.intro h2 (HT.out.trans hT2))
      clear hw h2 hT2
      go_wp2_with fail
      refine HW.out.mono ?_
      rintro e w3 ⟨he, hc, hT⟩
      rw [putL_val] at he
      subst he
      have HN := Lib.hid (NOut.self (H2.out.1.turn hc hT) (H2.out.2.trans (tch_own hT)))
      rw [hmu] at HN
      clear hc hT
      generalize hr : putX (n.mark (k / 8) true).ss k = r at *
      have HR := Lib.hid hr; clear hr
      go_wp2
      exact bodyPost_ret (v := .tuple #[.bool true, .slice none 0 0, .int .i64 r]) (by simp [results, Try.results19, go_sem]) rfl ⟨_, by rw [HR.out], HN.out⟩
    · rw [if_pos hs]
      have hs' : (stateL n.ss (k / 8) != 2) = true := by simpa using hs
      have H := Lib.hid h
      generalize hst : stateL n.ss (k / 8) = st at *
      clear hs h hst
      go_enter Try.func19, Try.ntmps19
      go_wp2_with fail
      refine HL.out.mono ?_
      rintro e w' ⟨rfl, rfl⟩
      go_wp2_with fail
      refine HS.out.mono ?_
      rintro e w1 ⟨rfl, hb⟩
      have h1 := H.out.below hb (Nat.le_refl _)
      have HT := Lib.hid (below_own (a := a) (p := p) (bs := bs) (bv := bv) hb)
      have HA := Lib.hid (ask_any h1 2 (k / 8) hl)
      clear hb h1
      go_wp2_with fail
      refine HA.out.mono ?_
      rintro e w2 ⟨v, rfl, hn⟩
      have HN := Lib.hid (hn.after HT.out); clear hn
      go_wp2
      exact bodyPost_ret (v := .tuple #[.bool false, v, .int .i64 0]) (by simp [results, Try.results19, go_sem]) rfl ⟨v, rfl, HN.out⟩
  · rw [if_pos he]
    have he' : ((n.lineOf k).2 != 0) = true := by simpa using he
    have HN := Lib.hid (NOut.idle h (Below.refl _ _))
    generalize n.lineOf k = r at *
    clear h he
    go_enter Try.func19, Try.ntmps19
    go_wp2_with fail
    refine HL.out.mono ?_
    rintro e w' ⟨rfl, rfl⟩
    go_wp2
    exact bodyPost_ret (v := .tuple #[.bool false, .slice none 0 0, .int .i64 r.2]) (by simp [results, Try.results19, go_sem]) rfl ⟨_, rfl, HN.out⟩

theorem wordL_u (ss : Sets) (u k : Int) : (wordL ss u k).2.1 = u ∨ (wordL ss u k).2.1 = u + 1 := by
  unfold wordL; (repeat' split) <;> simp

set_option maxRecDepth 100000 in
set_option maxHeartbeats 1000000 in
theorem cas_any (h : NodeAt w lo a p S bs ways bv n) (k old x : Int) (hk : k ≤ 9223372036854775807) (hl : n.backs.length ≤ 1000000) (h0 : 0 ≤ n.u) (hu : n.u < 4294967295) :
    Calls Try.prog 21 #[.pointer (some ⟨a, 0, none⟩), .int .i64 k, .int .u64 old, .int .u64 x] w fun e w' => ∃ v, e = .returned (.tuple #[.bool (n.cas k old x).2.1, .bool (n.cas k old x).2.2.1, v, .int .i64 (n.cas k old x).2.2.2.2]) ∧ NOut w lo a p S bs ways bv (n.cas k old x).1 (n.cas k old x).2.2.2.1 v w' := by
  have HL := Lib.hid (lineOf_any h k hk)
  unfold Nd.cas
  by_cases he : (n.lineOf k).2 = 0
  · rw [if_neg (by simpa using he)]
    have e1 := Nd.lineOf_ok he
    rw [e1] at HL
    have c5 := h.c 15 rfl
    clear he e1
    by_cases hv : n.live = true
    · rw [if_pos hv]
      rw [hv] at c5
      have HN := Lib.hid (NOut.idle h (Below.refl _ _))
      clear hv h
      go_enter Try.func21, Try.ntmps21
      go_wp2_with fail
      refine HL.out.mono ?_
      rintro e w' ⟨rfl, rfl⟩
      go_wp2
      exact bodyPost_ret (v := .tuple #[.bool false, .bool false, .slice none 0 0, .int .i64 41]) (by simp [results, Try.results21, go_sem]) rfl ⟨_, rfl, HN.out⟩
    · rw [if_neg hv]
      have hv' : n.live = false := by simpa using hv
      rw [hv'] at c5
      have HS := Lib.hid (state_any h (k / 8))
      clear hv hv'
      by_cases hs : stateL n.ss (k / 8) = 2
      · rw [if_neg (by simpa using hs)]
        rw [hs] at HS
        have H := Lib.hid h
        clear hs h
        have hru := wordL_u n.ss n.u k
        by_cases hold : (wordX n.ss k).1 = old
        · rw [if_neg (by simpa using hold)]
          have hq : ((wordX n.ss k).1 != old) = false := by simpa using hold
          clear hold
          go_enter Try.func21, Try.ntmps21
          go_wp2_with fail
          refine HL.out.mono ?_
          rintro e w' ⟨rfl, rfl⟩
          go_wp2_with fail
          refine HS.out.mono ?_
          rintro e w1 ⟨rfl, hb⟩
          have h1 := H.out.below hb (Nat.le_refl _)
          have HT := Lib.hid (below_own (a := a) (p := p) (bs := bs) (bv := bv) hb)
          have c2 := h1.c 2 rfl
          have HW := Lib.hid (word_any h1.cache k hk h0 (by omega))
          have H1 := Lib.hid h1
          clear hb h1
          go_wp2_with fail
          refine HW.out.mono ?_
          rintro e w3 ⟨he, hc, hT⟩
          rw [wordL_val] at he
          subst he
          have h3 := H1.out.turn hc hT
          have H3 := Lib.hid (And.intro h3 (HT.out.trans (tch_own hT)))
          have d2 := h3.c 2 rfl
          have HP := Lib.hid (put_any hc k x hk (by rcases hru with h | h <;> omega) (by rcases hru with h | h <;> omega))
          clear hc hT h3 c2 hru
          generalize wordX n.ss k = r at *
          go_wp2_with fail
          refine HP.out.mono ?_
          rintro e w4 ⟨he, hc, hT⟩
          rw [putL_val] at he
          subst he
          have HN := Lib.hid (NOut.self (H3.out.1.turn hc hT) (H3.out.2.trans (tch_own hT)))
          clear hc hT
          generalize hr : putX (wordL n.ss n.u k).1 k = r2 at *
          have HR := Lib.hid hr; clear hr
          go_wp2
          exact bodyPost_ret (v := .tuple #[.bool true, .bool true, .slice none 0 0, .int .i64 r2]) (by simp [results, Try.results21, go_sem]) rfl ⟨_, by rw [HR.out], HN.out⟩
        · rw [if_pos hold]
          have hq : ((wordX n.ss k).1 != old) = true := by simpa using hold
          clear hold
          go_enter Try.func21, Try.ntmps21
          go_wp2_with fail
          refine HL.out.mono ?_
          rintro e w' ⟨rfl, rfl⟩
          go_wp2_with fail
          refine HS.out.mono ?_
          rintro e w1 ⟨rfl, hb⟩
          have h1 := H.out.below hb (Nat.le_refl _)
          have HT := Lib.hid (below_own (a := a) (p := p) (bs := bs) (bv := bv) hb)
          have c2 := h1.c 2 rfl
          have HW := Lib.hid (word_any h1.cache k hk h0 (by omega))
          have H1 := Lib.hid h1
          clear hb h1
          go_wp2_with fail
          refine HW.out.mono ?_
          rintro e w3 ⟨he, hc, hT⟩
          rw [wordL_val] at he
          subst he
          have HN := Lib.hid (NOut.self (H1.out.turn hc hT) (HT.out.trans (tch_own hT)))
          clear hc hT c2 hru
          generalize hr : wordX n.ss k = r at *
          have HR := Lib.hid hr; clear hr
          go_wp2
          exact bodyPost_ret (v := .tuple #[.bool false, .bool true, .slice none 0 0, .int .i64 r.2]) (by simp [results, Try.results21, go_sem]) rfl ⟨_, by rw [HR.out], HN.out⟩
      · rw [if_pos hs]
        have hs' : (stateL n.ss (k / 8) != 2) = true := by simpa using hs
        have H := Lib.hid h
        generalize hst : stateL n.ss (k / 8) = st at *
        clear hs h hst
        go_enter Try.func21, Try.ntmps21
        go_wp2_with fail
        refine HL.out.mono ?_
        rintro e w' ⟨rfl, rfl⟩
        go_wp2_with fail
        refine HS.out.mono ?_
        rintro e w1 ⟨rfl, hb⟩
        have h1 := H.out.below hb (Nat.le_refl _)
        have HT := Lib.hid (below_own (a := a) (p := p) (bs := bs) (bv := bv) hb)
        have HA := Lib.hid (ask_any h1 2 (k / 8) hl)
        clear hb h1
        go_wp2_with fail
        refine HA.out.mono ?_
        rintro e w2 ⟨v, rfl, hn⟩
        have HN := Lib.hid (hn.after HT.out); clear hn
        go_wp2
        exact bodyPost_ret (v := .tuple #[.bool false, .bool false, v, .int .i64 0]) (by simp [results, Try.results21, go_sem]) rfl ⟨v, rfl, HN.out⟩
  · rw [if_pos he]
    have he' : ((n.lineOf k).2 != 0) = true := by simpa using he
    have HN := Lib.hid (NOut.idle h (Below.refl _ _))
    generalize n.lineOf k = r at *
    clear h he
    go_enter Try.func21, Try.ntmps21
    go_wp2_with fail
    refine HL.out.mono ?_
    rintro e w' ⟨rfl, rfl⟩
    go_wp2
    exact bodyPost_ret (v := .tuple #[.bool false, .bool false, .slice none 0 0, .int .i64 r.2]) (by simp [results, Try.results21, go_sem]) rfl ⟨_, rfl, HN.out⟩
end

end Go.Proofs.Ytddajnpichchfaa
