/- alive: the chapter's first examples. Conditions: those stated in each theorem. -/
import Derived.Test.YtgdfiggloifncaaSoftK
import Derived.Test.YtgdfiggloifncaaReqEq
namespace Go.Proofs.Ytgdfiggloifncaa
open Go.RowKit Go.BigFrame Go.Maps Go.ChangeMaps

theorem wpList_mm_wanted {w : World} {ops : Array Oper} {rest : List Oper} {o : Oper} {a : Act} {Q : Exit → Act → World → Prop} (hg : Region.wanted o (yielded ops a.tmps) = true) (mo x : Operand) (hop : o.op = Op.lookup 33 mo x false) (b c : Nat) (m : Int → Int) (ad : Int) (hm : a.eval mo = .map (some b)) (hx : a.eval x = .int .i64 ad) (h : MmAt w b c m) (hw : I64 ad)
    (hK : wpList Try.prog ops Q rest (a.put o.dst (.int .u64 (m ad))) w) : wpList Try.prog ops Q (o :: rest) a w := by
  obtain ⟨D, h1, h3⟩ := h
  refine wpList_step fun K' hK' => ?_
  rw [if_pos hg]
  obtain ⟨z, hrun, hat, -⟩ := h1.lookup_int Try.keyI Try.underlying33 Try.underlying26 (Try.zeroU w) (keyOf_int_mk Try.underlying3 hw)
  rw [h3.2 ad] at hat
  cases hat
  unfold Oper.wp
  simp [execOp, hop, hm, hx, hrun, Result.andThen]
  exact hK' _ _ hK

/-- The same, going on from the front. -/
def finF : Nat → PV × (Int → Int) → PV × (Int → Int)
  | 0, s => s
  | n + 1, s => if s.1.busy then finF n (stepV s) else s
theorem finF_stop {s : PV × (Int → Int)} (h : s.1.busy = false) : ∀ n, finF n s = s
  | 0 => rfl
  | n + 1 => by simp [finF, h]
theorem finF_succ : ∀ (n : Nat) (s : PV × (Int → Int)), finF (n + 1) s = if (finF n s).1.busy then stepV (finF n s) else finF n s
  | 0, s => rfl
  | n + 1, s => by
    rw [show finF (n + 1 + 1) s = if s.1.busy then finF (n + 1) (stepV s) else s from rfl]
    cases hb : s.1.busy with
    | true => rw [if_pos rfl, finF_succ n (stepV s)]; simp [finF, hb]
    | false => simp [finF, hb]
theorem finV_eq : ∀ (n : Nat) (s : PV × (Int → Int)), finV n s = finF n s
  | 0, _ => rfl
  | n + 1, s => by rw [finF_succ, ← finV_eq n s]; rfl

/-! ### The example's states -/
def m0 : Int → Int := upd (upd (fun _ => 0) 0 4) 9 5
def s1 : PV × (Int → Int) := finF 3000 (PV.zero.begin, m0)
def s2 : PV × (Int → Int) := finF 3000 (s1.1.load 9, s1.2)
def x3 : PV := (s2.1.store 9 7).load 9
def s4 : PV × (Int → Int) := finF 3000 (x3.commit, s2.2)
def L9 : Lg := ⟨[⟨9, 5⟩], [⟨9, 7⟩]⟩
theorem s1_x : s1.1 = ⟨.no, 4, 0, 1, true, false, 0, Lg.zero⟩ := by kernel_rfl
theorem s1_m : s1.2 1 = 1 := by kernel_rfl
theorem s2_x : s2.1 = ⟨.no, 4, 5, 2, true, false, 0, ⟨[⟨9, 5⟩], []⟩⟩ := by kernel_rfl
theorem x3_x : x3 = ⟨.no, 4, 7, 2, true, false, 0, L9⟩ := by kernel_rfl
theorem s4_x : s4.1 = ⟨.no, 4, 7, 3, false, false, 1, L9⟩ := by kernel_rfl
theorem s4_9 : s4.2 9 = 7 := by kernel_rfl
theorem s4_0 : s4.2 0 = 6 := by kernel_rfl
theorem s4_1 : s4.2 1 = 0 := by kernel_rfl
theorem w64_lit {n : Int} (h : 0 ≤ n ∧ n ≤ 18446744073709551615) : W64 n := WalkArith.wf_u64 h
theorem i64_lit {n : Int} (h : -9223372036854775808 ≤ n ∧ n ≤ 9223372036854775807) : I64 n := WalkArith.wf_i64 h
theorem m0_ok : ∀ a, I64 a → W64 (m0 a) := upd_ok (upd_ok (fun _ _ => w64_0) (w64_lit (n := 4) (by omega))) (w64_lit (n := 5) (by omega))
theorem finF_ok {s : PV × (Int → Int)} (h : OkS s) (n : Nat) : OkS (finF n s) := by rw [← finV_eq]; exact finV_ok h n
theorem s1_ok : OkS s1 := finF_ok (s := (PV.zero.begin, m0)) ⟨PV.begin_ok PV.ok_zero, m0_ok⟩ 3000
theorem s2_ok : OkS s2 := finF_ok (s := (s1.1.load 9, s1.2)) ⟨PV.load_ok s1_ok.1 (i64_lit (n := 9) (by omega)), s1_ok.2⟩ 3000
theorem x3_ok : x3.ok := PV.load_ok (PV.store_ok s2_ok.1 (i64_lit (n := 9) (by omega)) (w64_lit (n := 7) (by omega))) (i64_lit (n := 9) (by omega))
theorem s4_ok : OkS s4 := finF_ok (s := (x3.commit, s2.2)) ⟨PV.commit_ok x3_ok, s2_ok.2⟩ 3000

theorem finish_f {w0 w : World} {l : List Part} {i j p b c : Nat} {x : PV} {m : Int → Int} {s : PV × (Int → Int)} (h : Aparts w0 w ((l.set i (pathP p x)).set j (memP b c m))) (hij : i ≠ j) (hi : i < l.length) (hj : j < l.length) (hok : OkS (x, m)) (h0 : 0 ≤ x.pts) (h9 : x.pts ≤ 900000) (hc : c ≤ 900000)
    (hs : finF 3000 (x, m) = s) (hb : s.1.busy = false) : Calls Try.prog 16 #[.pointer (some ⟨p, 0, none⟩), .map (some b)] w fun e w' => e = .returned (.bool true) ∧ ∃ c', c' ≤ c + 3000 ∧ Aparts w0 w' ((l.set i (pathP p s.1)).set j (memP b c' s.2)) := by
  have := finish_a h hij hi hj hok h0 h9 hc
  rw [finV_eq, hs, hb] at this
  exact this

set_option maxRecDepth 100000 in
set_option maxHeartbeats 4000000 in
theorem alive_ok (w : World) : Calls Try.prog 30 #[] w fun e w' => e = .returned (.bool true) ∧ Below w.heap.size w w' := by
  have hmm := @run_makeMap Try.prog
  have HN := Lib.hid (new_a (Aparts.nil w))
  go_enter Try.func30, Try.ntmps30
  go_wp2_with (first | (go_at_call 10; refine HN.out.mono ?_; rintro e w1 ⟨p, rfl, h⟩; have H := Lib.hid h; have HM := Lib.hid (MmAt.made w1); have HT := Lib.hid ((Below.refl w1.heap.size w1).alloc (Nat.le_refl _) (.map #[] 0)); clear h) | (refine wpList_mput rfl _ _ _ (.inr rfl) _ _ _ _ _ rfl rfl rfl HM.out (i64_lit (by omega)) (w64_lit (by omega)) (by omega) ?_; intro w2 h2 ht2; have HM := Lib.hid h2; have HT := Lib.hid (HT.out.trans (ht2.below HT.out.size (fun k e => by omega))); clear h2 ht2) | fail)
  have H0 : Aparts w w2 [pathP p PV.zero, memP w1.heap.size 2 m0] := H.out.push HT.out ⟨⟨Nat.le_refl _, HM.out.lt⟩, HM.out⟩
  have hbw := HM.out.lt
  generalize w1.heap.size = b at *
  clear H HM HT
  refine (begin_a H0 (i := 0) rfl rfl).mono ?_
  rintro e w3 ⟨rfl, h⟩
  replace h : Aparts w w3 [pathP p (PV.zero.begin), memP b 2 m0] := h
  clear H0; have H0 := h; clear h
  go_wp2_with (fail)
  refine (want_a H0 (i := 0) rfl).mono ?_
  rintro e w4 ⟨rfl, h⟩
  have H0 := h.idle ((Below.refl _ w4).alloc (Nat.le_refl _) (.cells (Rq.cells ⟨1, 1, 0, 0⟩).toArray 48))
  simp only [Rq.cells] at H0 ⊢
  go_wp2_with (fail)
  refine (finish_f (l := [pathP p (PV.zero.begin), memP b 2 m0]) (i := 0) (j := 1) (s := s1) H0 (by decide) (by simp) (by simp) ⟨PV.begin_ok PV.ok_zero, m0_ok⟩ (by decide) (by decide) (by omega) rfl (by rw [s1_x]; rfl)).mono ?_
  rintro e w5 ⟨rfl, c1, hc5, h⟩
  replace h : Aparts w w5 [pathP p (s1.1), memP b c1 s1.2] := h
  rw [s1_x] at h
  clear H0; have H0 := h; clear h
  have HM := mem_a (j := 1) H0 rfl
  have e1 := s1_m
  go_wp2_with (first | (go_at_call 24; refine (live_a H0 (i := 0) rfl).mono ?_; rintro e w' ⟨rfl, rfl⟩) | (go_at_call 26; refine (points_a H0 (i := 0) rfl).mono ?_; rintro e w' ⟨rfl, rfl⟩) | (at_lookup; refine wpList_mm_wanted (by rfl) _ _ rfl b _ _ _ rfl rfl HM (i64_lit (by omega)) ?_) | fail)
  clear HM e1
  refine (load_a H0 (i := 0) rfl 9 (i64_lit (by omega)) rfl).mono ?_
  rintro e w6 ⟨rfl, h⟩
  replace h : Aparts w w6 [pathP p (PV.load ⟨.no, 4, 0, 1, true, false, 0, Lg.zero⟩ 9), memP b c1 s1.2] := h
  clear H0; have H0 := h; clear h
  go_wp2_with (fail)
  refine (finish_f (l := [pathP p (PV.load ⟨.no, 4, 0, 1, true, false, 0, Lg.zero⟩ 9), memP b c1 s1.2]) (i := 0) (j := 1) (s := s2) H0 (by decide) (by simp) (by simp) ⟨by rw [← s1_x]; exact PV.load_ok s1_ok.1 (i64_lit (n := 9) (by omega)), s1_ok.2⟩ (by decide) (by decide) (by omega) (by unfold s2; rw [s1_x]) (by rw [s2_x]; rfl)).mono ?_
  rintro e w7 ⟨rfl, c2, hc7, h⟩
  replace h : Aparts w w7 [pathP p (s2.1), memP b c2 s2.2] := h
  rw [s2_x] at h
  clear H0; have H0 := h; clear h
  go_wp2_with (first | (go_at_call 25; refine (value_a H0 (i := 0) rfl).mono ?_; rintro e w' ⟨rfl, rfl⟩) | (go_at_call 26; refine (points_a H0 (i := 0) rfl).mono ?_; rintro e w' ⟨rfl, rfl⟩) | fail)
  refine (store_a H0 (i := 0) rfl 9 7 (i64_lit (by omega)) (w64_lit (by omega)) rfl).mono ?_
  rintro e w8 ⟨rfl, h⟩
  replace h : Aparts w w8 [pathP p (PV.store ⟨.no, 4, 5, 2, true, false, 0, ⟨[⟨9, 5⟩], []⟩⟩ 9 7), memP b c2 s2.2] := h
  clear H0; have H0 := h; clear h
  go_wp2_with (fail)
  refine (load_a H0 (i := 0) rfl 9 (i64_lit (by omega)) rfl).mono ?_
  rintro e w9 ⟨rfl, h⟩
  replace h : Aparts w w9 [pathP p (x3), memP b c2 s2.2] := by unfold x3; rw [s2_x]; exact h
  rw [x3_x] at h
  clear H0; have H0 := h; clear h
  go_wp2_with (first | (go_at_call 25; refine (value_a H0 (i := 0) rfl).mono ?_; rintro e w' ⟨rfl, rfl⟩) | (go_at_call 23; refine (busy_a H0 (i := 0) rfl).mono ?_; rintro e w' ⟨rfl, rfl⟩) | fail)
  refine (commit_a H0 (i := 0) rfl rfl).mono ?_
  rintro e w10 ⟨rfl, h⟩
  replace h : Aparts w w10 [pathP p (PV.commit ⟨.no, 4, 7, 2, true, false, 0, L9⟩), memP b c2 s2.2] := h
  clear H0; have H0 := h; clear h
  go_wp2_with (fail)
  refine (finish_f (l := [pathP p (PV.commit ⟨.no, 4, 7, 2, true, false, 0, L9⟩), memP b c2 s2.2]) (i := 0) (j := 1) (s := s4) H0 (by decide) (by simp) (by simp) ⟨by rw [← x3_x]; exact PV.commit_ok x3_ok, s2_ok.2⟩ (by decide) (by decide) (by omega) (by unfold s4; rw [x3_x]) (by rw [s4_x]; rfl)).mono ?_
  rintro e w11 ⟨rfl, c4, hc11, h⟩
  replace h : Aparts w w11 [pathP p (s4.1), memP b c4 s4.2] := h
  rw [s4_x] at h
  clear H0; have H0 := h; clear h
  have HM := mem_a (j := 1) H0 rfl
  have e1 := s4_9
  have e2 := s4_0
  have e3 := s4_1
  go_wp2_with (first | (go_at_call 24; refine (live_a H0 (i := 0) rfl).mono ?_; rintro e w' ⟨rfl, rfl⟩) | (go_at_call 20; refine (ended_a H0 (i := 0) rfl).mono ?_; rintro e w' ⟨rfl, rfl⟩) | (at_lookup; refine wpList_mm_wanted (by rfl) _ _ rfl b _ _ _ rfl rfl HM (i64_lit (by omega)) ?_) | fail)
  go_ret
  exact ⟨rfl, H0.below⟩

end Go.Proofs.Ytgdfiggloifncaa
