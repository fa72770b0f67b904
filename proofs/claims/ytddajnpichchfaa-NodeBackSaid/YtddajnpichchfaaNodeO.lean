/- NodeNames: the walk. Conditions: those stated in each theorem. -/
import Derived.Test.YtddajnpichchfaaNodeN
namespace Go.Proofs.Ytddajnpichchfaa
open Go.RowKit Go.BigFrame Go.Sort

def nS0 : Nd := Nd.new 0 4 (newSets 1 1)
def nT0 : Nd := Nd.new 0 4 (newSets 1 1)
def nU0 : Nd := Nd.new 0 4 (newSets 1 1)
def nS1 : Nd := (nS0.load 8).1
def nS2 : Nd := (nS1.hear ⟨14, 0, 1, ⟨7, 0, 0, 0, 0, 0, 0, 0⟩⟩).1
def nS3 : Nd := (nS2.begin ).1
def nS4 : Nd := (nS3.load 8).1
def nS5 : Nd := (nS4.hear ⟨11, 0, 1, L8.zero⟩).1
def nS6 : Nd := (nS5.store 8 9).1
def nS7 : Nd := (nS6.hear ⟨15, 0, 1, L8.zero⟩).1
def nS8 : Nd := (nS7.begin ).1
def nS9 : Nd := (nS8.store 8 9).1
def nS10 : Nd := (nS9.hear ⟨12, 0, 1, L8.zero⟩).1
theorem eS0 : nS0.load 8 = (nS1, 0, false, [⟨1, 0, 1, L8.zero⟩], 0) := by kernel_rfl
theorem eS1 : nS1.hear ⟨14, 0, 1, ⟨7, 0, 0, 0, 0, 0, 0, 0⟩⟩ = (nS2, [⟨7, 0, 1, L8.zero⟩], 0) := by kernel_rfl
theorem eS2 : nS2.begin  = (nS3, 0) := by kernel_rfl
theorem eS3 : nS3.load 8 = (nS4, 7, true, [], 0) := by kernel_rfl
theorem eS4 : nS4.hear ⟨11, 0, 1, L8.zero⟩ = (nS5, [⟨4, 0, 1, L8.zero⟩], 0) := by kernel_rfl
theorem eS5 : nS5.store 8 9 = (nS6, false, [⟨2, 0, 1, L8.zero⟩], 0) := by kernel_rfl
theorem eS6 : nS6.hear ⟨15, 0, 1, L8.zero⟩ = (nS7, [⟨7, 0, 1, L8.zero⟩], 0) := by kernel_rfl
theorem eS7 : nS7.begin  = (nS8, 0) := by kernel_rfl
theorem eS8 : nS8.store 8 9 = (nS9, true, [], 0) := by kernel_rfl
theorem eS9 : nS9.hear ⟨12, 0, 1, L8.zero⟩ = (nS10, [⟨5, 0, 1, L8.zero⟩], 0) := by kernel_rfl
def nT1 : Nd := (nT0.store 8 9).1
def nT2 : Nd := (nT1.hear ⟨15, 0, 1, L8.zero⟩).1
def nT3 : Nd := (nT2.store 8 9).1
def nT4 : Nd := (nT3.drop 1).1
def nT5 : Nd := (nT4.store 8 1).1
def nT6 : Nd := (nT5.hear ⟨16, 0, 1, L8.zero⟩).1
def nT7 : Nd := (nT6.store 0 1).1
def nT8 : Nd := (nT7.hear ⟨15, 0, 0, L8.zero⟩).1
def nT9 : Nd := (nT8.begin ).1
def nT10 : Nd := (nT9.load 0).1
def nT11 : Nd := (nT10.cas 0 0 1).1
def nT12 : Nd := (nT11.begin ).1
def nT13 : Nd := (nT12.abortC 8).1
def nT14 : Nd := (nT13.hear ⟨13, 0, 0, L8.zero⟩).1
def nT15 : Nd := (nT14.commit ).1
def nT16 : Nd := (nT15.abortC 1).1
def nT17 : Nd := (nT16.drop 1).1
def nT18 : Nd := (nT17.drop 4).1
def nT19 : Nd := (nT18.load 32).1
def nT20 : Nd := (nT19.store (-1) 0).1
def nT21 : Nd := (nT20.hear ⟨11, 1, 0, L8.zero⟩).1
theorem eT0 : nT0.store 8 9 = (nT1, false, [⟨2, 0, 1, L8.zero⟩], 0) := by kernel_rfl
theorem eT1 : nT1.hear ⟨15, 0, 1, L8.zero⟩ = (nT2, [⟨7, 0, 1, L8.zero⟩], 0) := by kernel_rfl
theorem eT2 : nT2.store 8 9 = (nT3, true, [], 0) := by kernel_rfl
theorem eT3 : nT3.drop 1 = (nT4, [⟨3, 0, 1, ⟨9, 0, 0, 0, 0, 0, 0, 0⟩⟩], 0) := by kernel_rfl
theorem eT4 : nT4.store 8 1 = (nT5, false, [], 0) := by kernel_rfl
theorem eT5 : nT5.hear ⟨16, 0, 1, L8.zero⟩ = (nT6, [], 0) := by kernel_rfl
theorem eT6 : nT6.store 0 1 = (nT7, false, [⟨2, 0, 0, L8.zero⟩], 0) := by kernel_rfl
theorem eT7 : nT7.hear ⟨15, 0, 0, L8.zero⟩ = (nT8, [⟨7, 0, 0, L8.zero⟩], 0) := by kernel_rfl
theorem eT8 : nT8.begin  = (nT9, 0) := by kernel_rfl
theorem eT9 : nT9.load 0 = (nT10, 0, true, [], 0) := by kernel_rfl
theorem eT10 : nT10.cas 0 0 1 = (nT11, false, false, [], 41) := by kernel_rfl
theorem eT11 : nT11.begin  = (nT12, 41) := by kernel_rfl
theorem eT12 : nT12.abortC 8 = (nT13, 2) := by kernel_rfl
theorem eT13 : nT13.hear ⟨13, 0, 0, L8.zero⟩ = (nT14, [⟨5, 0, 0, L8.zero⟩], 0) := by kernel_rfl
theorem eT14 : nT14.commit  = (nT15, 40) := by kernel_rfl
theorem eT15 : nT15.abortC 1 = (nT16, 40) := by kernel_rfl
theorem eT16 : nT16.drop 1 = (nT17, [], 20) := by kernel_rfl
theorem eT17 : nT17.drop 4 = (nT18, [], 2) := by kernel_rfl
theorem eT18 : nT18.load 32 = (nT19, 0, false, [], 2) := by kernel_rfl
theorem eT19 : nT19.store (-1) 0 = (nT20, false, [], 2) := by kernel_rfl
theorem eT20 : nT20.hear ⟨11, 1, 0, L8.zero⟩ = (nT21, [], 30) := by kernel_rfl
def nU1 : Nd := (nU0.load 8).1
def nU2 : Nd := (nU1.hear ⟨14, 0, 1, ⟨7, 0, 0, 0, 0, 0, 0, 0⟩⟩).1
def nU3 : Nd := (nU2.load 8).1
theorem eU0 : nU0.load 8 = (nU1, 0, false, [⟨1, 0, 1, L8.zero⟩], 0) := by kernel_rfl
theorem eU1 : nU1.hear ⟨14, 0, 1, ⟨7, 0, 0, 0, 0, 0, 0, 0⟩⟩ = (nU2, [⟨7, 0, 1, L8.zero⟩], 0) := by kernel_rfl
theorem eU2 : nU2.load 8 = (nU3, 7, true, [], 0) := by kernel_rfl
theorem e_code5 : nS5.code = 1 := by kernel_rfl
theorem e_live5 : nS5.live = false := by kernel_rfl
theorem e_code10 : nS10.code = 1 := by kernel_rfl
theorem e_code14 : nT14.code = 2 := by kernel_rfl
theorem SlM.one {v : Value} {m : MsgV} (h : SlM v [m]) : ∃ g cap, v = .slice (some ⟨g, 0, none⟩) 1 cap := by
  rcases h with ⟨_, h⟩ | ⟨g, cap, h⟩
  · cases h
  · exact ⟨g, cap, h⟩
theorem SlM.none {v : Value} (h : SlM v []) : ∃ ad cap, v = .slice ad 0 cap := by
  rcases h with ⟨h, _⟩ | ⟨g, cap, h⟩
  · exact ⟨_, _, h⟩
  · exact ⟨_, _, h⟩
section
variable {w0 w w' : World} {a p S : Nat} {bs : List Nat} {ways : Nat} {n : Nd} {G : List (Nat × List Value)}
theorem NSt.one {g cap : Nat} {m : MsgV} (h : NSt w0 w a p S bs ways n (rowsM (.slice (some ⟨g, 0, none⟩) 1 cap) [m] ++ G)) : NSt w0 w a p S bs ways n ((g, m.cells) :: G) := by simpa [rowsM] using h
theorem NSt.less {v : Value} {ms : List MsgV} (h : NSt w0 w a p S bs ways n (rowsM v ms ++ G)) : NSt w0 w a p S bs ways n G := h.drop G (fun _ hx => List.mem_append.2 (.inr hx))
end

@[go_sem ↓ high] theorem eq_line00 (w : World) : (Op.equalIn 10000 36 (.agg #[.int .u64 0, .int .u64 0, .int .u64 0, .int .u64 0, .int .u64 0, .int .u64 0, .int .u64 0, .int .u64 0]) (.agg #[.int .u64 0, .int .u64 0, .int .u64 0, .int .u64 0, .int .u64 0, .int .u64 0, .int .u64 0, .int .u64 0])).run Try.prog w = .ok true w := by kernel_rfl
@[go_sem ↓ high] theorem eq_line99 (w : World) : (Op.equalIn 10000 36 (.agg #[.int .u64 9, .int .u64 0, .int .u64 0, .int .u64 0, .int .u64 0, .int .u64 0, .int .u64 0, .int .u64 0]) (.agg #[.int .u64 9, .int .u64 0, .int .u64 0, .int .u64 0, .int .u64 0, .int .u64 0, .int .u64 0, .int .u64 0])).run Try.prog w = .ok true w := by kernel_rfl

set_option maxHeartbeats 400000 in
theorem one_ok (w : World) : Calls Try.prog 12 #[] w fun e w' => ∃ a p S bs, e = .returned (.pointer (some ⟨a, 0, none⟩)) ∧ NSt w w' a p S bs 1 (Nd.new 0 4 (newSets 1 1)) [] := by
  have H := Lib.hid (nnew_ok 0 4 2 1 1 w (by omega) (by omega) (by omega) (by omega) (by omega) (by omega) (by omega) (by omega) (by omega))
  go_enter Try.func12, Try.ntmps12
  go_wp2_with fail
  refine H.out.mono ?_
  rintro e w1 ⟨a, p, S, bs, rfl, -, hs⟩
  have HS := Lib.hid hs; clear hs
  go_wp2
  go_ret
  exact ⟨a, p, S, bs, rfl, HS.out⟩

set_option maxHeartbeats 400000 in
theorem says_yes (g cap : Nat) (kind line : Int) (d : L8) (w : World) (hr : w.rangeAt g 0 (MsgV.cells ⟨kind, 0, line, d⟩)) :
    Calls Try.prog 16 #[.slice (some ⟨g, 0, none⟩) 1 cap, .int .i64 kind, .int .i64 line] w fun e w' => e = .returned (.bool true) ∧ w = w' := by
  have c0 : w.cell? ⟨g, 0, none⟩ = some (.int .i64 kind) := hr 0 _ rfl
  have c1 : w.cell? ⟨g, 1, none⟩ = some (.int .i64 0) := hr 1 _ rfl
  have c2 : w.cell? ⟨g, 2, none⟩ = some (.int .i64 line) := hr 2 _ rfl
  clear hr
  go_enter Try.func16, Try.ntmps16
  go_wp2
  go_ret
  exact ⟨rfl, rfl⟩

theorem NSt.rebase {w0 w1 w : World} {a p S : Nat} {bs : List Nat} {ways : Nat} {n : Nd} {G : List (Nat × List Value)} (h : NSt w1 w a p S bs ways n G) (hb : Below w0.heap.size w0 w1) : NSt w0 w a p S bs ways n G := by
  obtain ⟨bv, h1, h2⟩ := h.node
  exact ⟨⟨bv, ⟨h1.cache, h1.head, owns_mono h1.own (fun g hg => Nat.le_trans hb.size (owns_lt h1.own hg).1), h1.apart, h1.loose, fun k hk => Nat.le_trans hb.size (h1.above k hk)⟩, h2⟩, hb.trans (h.below.mono hb.size), h.rows⟩
/-- A law goes on with another node. -/
theorem NSt.base {w0 w : World} {a p S : Nat} {bs : List Nat} {ways : Nat} {n : Nd} {G : List (Nat × List Value)} (h : NSt w0 w a p S bs ways n G) : Below w0.heap.size w0 w := h.below

set_option maxRecDepth 100000 in
set_option maxHeartbeats 2000000 in
theorem nalive_ok (w : World) : Calls Try.prog 29 #[] w fun e w' => e = .returned (.bool true) ∧ Below w.heap.size w w' := by
  go_enter Try.func29, Try.ntmps29
  go_wp2_with fail
  refine (one_ok w).mono ?_
  rintro e w1 ⟨aU, pU, SU, bsU, rfl, hs⟩
  have HU : Hid (NSt w w1 aU pU SU bsU 1 nU0 []) := Lib.hid hs; clear hs
  have HC := Lib.hid (load_st HU.out 8 (by omega) (of_decide_eq_true (by kernel_rfl)) (of_decide_eq_true (by kernel_rfl)) (of_decide_eq_true (by kernel_rfl)))
  rw [eU0] at HC
  go_wp2_with fail
  refine HC.out.mono ?_
  rintro e w2 ⟨v, rfl, hv, hs⟩
  clear HC
  obtain ⟨g1, capg1, rfl⟩ := hv.one
  have HU := Lib.hid hs.one; clear hs hv
  have HC := Lib.hid (hear_st HU.out ⟨14, 0, 1, ⟨7, 0, 0, 0, 0, 0, 0, 0⟩⟩ (of_decide_eq_true (by kernel_rfl)) (of_decide_eq_true (by kernel_rfl)) (of_decide_eq_true (by kernel_rfl)))
  rw [eU1] at HC
  go_wp2_with fail
  refine HC.out.mono ?_
  rintro e w3 ⟨v, rfl, hv, hs⟩
  clear HC
  obtain ⟨g2, capg2, rfl⟩ := hv.one
  have HU := Lib.hid hs.one; clear hs hv
  have HC := Lib.hid (load_st HU.out 8 (by omega) (of_decide_eq_true (by kernel_rfl)) (of_decide_eq_true (by kernel_rfl)) (of_decide_eq_true (by kernel_rfl)))
  rw [eU2] at HC
  go_wp2_with fail
  refine HC.out.mono ?_
  rintro e w4 ⟨v4, rfl, -, hs⟩
  clear HC
  have HU := Lib.hid hs.less; clear hs
  go_wp2_with fail
  refine (says_yes g1 capg1 1 1 L8.zero w4 (HU.out.rows (g1, MsgV.cells ⟨1, 0, 1, L8.zero⟩) (by simp)).2).mono ?_
  rintro e w' ⟨rfl, rfl⟩
  go_wp2_with fail
  refine (says_yes g2 capg2 7 1 L8.zero w4 (HU.out.rows (g2, MsgV.cells ⟨7, 0, 1, L8.zero⟩) (by simp)).2).mono ?_
  rintro e w' ⟨rfl, rfl⟩
  go_wp2
  go_ret
  exact ⟨rfl, HU.out.below⟩


set_option maxRecDepth 100000 in
set_option maxHeartbeats 1000000 in
theorem nil_Find (k : Int) (w : World) : Calls Try.prog 25 #[.pointer none, .int .i64 k] w fun e w' => e = .returned (.tuple #[.agg Ent.zero.cells.toArray, .bool false]) ∧ Below w.heap.size w w' := by
  obtain ⟨W, eW, bW, hn, hr, -⟩ := ebox w Ent.zero
  have EW := Lib.hid eW; clear eW
  have Hn := Lib.hid hn; clear hn
  have Hb := Lib.hid bW; clear bW
  have Hld := Lib.hid (Try.load42 _ hr); clear hr
  go_enter Try.func25, Try.ntmps25
  go_wp2_with (refine wpList_store_mid rfl 42 (.tmp 4) (.tmp 8) rfl w.heap.size 0 Ent.zero.cells.toArray rfl rfl ?_ Try.size42 (oneEnt _) ?_; exact Hn.out; change wpList _ _ _ _ _ ((w.alloc (.cells Ent.zero.cells.toArray 42)).setCells w.heap.size 0 Ent.zero.cells); rw [← EW.out])
  exact bodyPost_ret (results_ct rfl rfl Hld.out rfl) rfl ⟨rfl, Hb.out⟩
set_option maxRecDepth 100000 in
set_option maxHeartbeats 1000000 in
theorem nil_Out (w : World) : Calls Try.prog 26 #[.pointer none] w fun e w' => e = .returned (.tuple #[.agg MsgV.zero.cells.toArray, .bool false]) ∧ Below w.heap.size w w' := by
  obtain ⟨W, eW, bW, hn, hr, -⟩ := mbox w MsgV.zero
  have EW := Lib.hid eW; clear eW
  have Hn := Lib.hid hn; clear hn
  have Hb := Lib.hid bW; clear bW
  have Hld := Lib.hid (Try.load52 _ hr); clear hr
  go_enter Try.func26, Try.ntmps26
  go_wp2_with (refine wpList_store_mid rfl 52 (.tmp 2) (.tmp 6) rfl w.heap.size 0 MsgV.zero.cells.toArray rfl rfl ?_ Try.size52 (oneMsg _) ?_; exact Hn.out; change wpList _ _ _ _ _ ((w.alloc (.cells MsgV.zero.cells.toArray 52)).setCells w.heap.size 0 MsgV.zero.cells); rw [← EW.out])
  exact bodyPost_ret (results_ct rfl rfl Hld.out rfl) rfl ⟨rfl, Hb.out⟩

set_option maxRecDepth 100000 in
set_option maxHeartbeats 8000000 in
theorem nnames_ok (w : World) : Calls Try.prog 4 #[] w fun e w' => e = .returned (.bool true) ∧ Below w.heap.size w w' := by
  go_enter Try.func4, Try.ntmps4
  go_wp2_with fail
  refine (one_ok w).mono ?_
  rintro e w1 ⟨aS, pS, SS, bsS, rfl, hs⟩
  have HS : Hid (NSt w w1 aS pS SS bsS 1 nS0 []) := Lib.hid hs; clear hs
  have HC := Lib.hid (load_st HS.out 8 (by omega) (of_decide_eq_true (by kernel_rfl)) (of_decide_eq_true (by kernel_rfl)) (of_decide_eq_true (by kernel_rfl)))
  rw [eS0] at HC
  go_wp2_with fail
  refine HC.out.mono ?_
  rintro e w2 ⟨v2, rfl, -, hs⟩
  clear HC
  have HS := Lib.hid hs.less; clear hs
  have HC := Lib.hid (hear_st HS.out ⟨14, 0, 1, ⟨7, 0, 0, 0, 0, 0, 0, 0⟩⟩ (of_decide_eq_true (by kernel_rfl)) (of_decide_eq_true (by kernel_rfl)) (of_decide_eq_true (by kernel_rfl)))
  rw [eS1] at HC
  go_wp2_with fail
  refine HC.out.mono ?_
  rintro e w3 ⟨v3, rfl, -, hs⟩
  clear HC
  have HS := Lib.hid hs.less; clear hs
  have HC := Lib.hid (begin_st HS.out  )
  rw [eS2] at HC
  go_wp2_with fail
  refine HC.out.mono ?_
  rintro e w4 ⟨rfl, hs⟩
  clear HC
  have HS := Lib.hid hs; clear hs
  have HC := Lib.hid (load_st HS.out 8 (by omega) (of_decide_eq_true (by kernel_rfl)) (of_decide_eq_true (by kernel_rfl)) (of_decide_eq_true (by kernel_rfl)))
  rw [eS3] at HC
  go_wp2_with fail
  refine HC.out.mono ?_
  rintro e w5 ⟨v5, rfl, -, hs⟩
  clear HC
  have HS := Lib.hid hs.less; clear hs
  have HC := Lib.hid (hear_st HS.out ⟨11, 0, 1, L8.zero⟩ (of_decide_eq_true (by kernel_rfl)) (of_decide_eq_true (by kernel_rfl)) (of_decide_eq_true (by kernel_rfl)))
  rw [eS4] at HC
  go_wp2_with fail
  refine HC.out.mono ?_
  rintro e w6 ⟨v, rfl, hv, hs⟩
  clear HC
  obtain ⟨g1, capg1, rfl⟩ := hv.one
  have HS := Lib.hid hs.one; clear hs hv
  go_wp2_with fail
  refine (says_yes g1 capg1 4 1 L8.zero w6 (HS.out.rows (g1, MsgV.cells ⟨4, 0, 1, L8.zero⟩) (by simp)).2).mono ?_
  rintro e w' ⟨rfl, rfl⟩
  have HC := Lib.hid (code_st HS.out)
  rw [e_code5] at HC
  go_wp2_with fail
  refine HC.out.mono ?_
  rintro e w' ⟨rfl, rfl⟩
  clear HC
  have HC := Lib.hid (live_st HS.out)
  rw [e_live5] at HC
  go_wp2_with fail
  refine HC.out.mono ?_
  rintro e w' ⟨rfl, rfl⟩
  clear HC
  have HC := Lib.hid (store_st HS.out 8 9 (by omega) (of_decide_eq_true (by kernel_rfl)) (of_decide_eq_true (by kernel_rfl)) (of_decide_eq_true (by kernel_rfl)))
  rw [eS5] at HC
  go_wp2_with fail
  refine HC.out.mono ?_
  rintro e w7 ⟨v, rfl, hv, hs⟩
  clear HC
  obtain ⟨g2, capg2, rfl⟩ := hv.one
  have HS := Lib.hid hs.one; clear hs hv
  go_wp2_with fail
  refine (says_yes g2 capg2 2 1 L8.zero w7 (HS.out.rows (g2, MsgV.cells ⟨2, 0, 1, L8.zero⟩) (by simp)).2).mono ?_
  rintro e w' ⟨rfl, rfl⟩
  have HC := Lib.hid (hear_st HS.out ⟨15, 0, 1, L8.zero⟩ (of_decide_eq_true (by kernel_rfl)) (of_decide_eq_true (by kernel_rfl)) (of_decide_eq_true (by kernel_rfl)))
  rw [eS6] at HC
  go_wp2_with fail
  refine HC.out.mono ?_
  rintro e w8 ⟨v8, rfl, -, hs⟩
  clear HC
  have HS := Lib.hid hs.less; clear hs
  have HC := Lib.hid (begin_st HS.out  )
  rw [eS7] at HC
  go_wp2_with fail
  refine HC.out.mono ?_
  rintro e w9 ⟨rfl, hs⟩
  clear HC
  have HS := Lib.hid hs; clear hs
  have HC := Lib.hid (store_st HS.out 8 9 (by omega) (of_decide_eq_true (by kernel_rfl)) (of_decide_eq_true (by kernel_rfl)) (of_decide_eq_true (by kernel_rfl)))
  rw [eS8] at HC
  go_wp2_with fail
  refine HC.out.mono ?_
  rintro e w10 ⟨v10, rfl, -, hs⟩
  clear HC
  have HS := Lib.hid hs.less; clear hs
  have HC := Lib.hid (hear_st HS.out ⟨12, 0, 1, L8.zero⟩ (of_decide_eq_true (by kernel_rfl)) (of_decide_eq_true (by kernel_rfl)) (of_decide_eq_true (by kernel_rfl)))
  rw [eS9] at HC
  go_wp2_with fail
  refine HC.out.mono ?_
  rintro e w11 ⟨v, rfl, hv, hs⟩
  clear HC
  obtain ⟨g3, capg3, rfl⟩ := hv.one
  have HS := Lib.hid hs.one; clear hs hv
  go_wp2_with fail
  refine (says_yes g3 capg3 5 1 L8.zero w11 (HS.out.rows (g3, MsgV.cells ⟨5, 0, 1, L8.zero⟩) (by simp)).2).mono ?_
  rintro e w' ⟨rfl, rfl⟩
  have hrow := (HS.out.rows (g3, MsgV.cells ⟨5, 0, 1, L8.zero⟩) (by simp)).2
  have r0 : w11.cell? ⟨g3, 3, none⟩ = some (.int .u64 0) := hrow 3 _ rfl
  have r1 : w11.cell? ⟨g3, 4, none⟩ = some (.int .u64 0) := hrow 4 _ rfl
  have r2 : w11.cell? ⟨g3, 5, none⟩ = some (.int .u64 0) := hrow 5 _ rfl
  have r3 : w11.cell? ⟨g3, 6, none⟩ = some (.int .u64 0) := hrow 6 _ rfl
  have r4 : w11.cell? ⟨g3, 7, none⟩ = some (.int .u64 0) := hrow 7 _ rfl
  have r5 : w11.cell? ⟨g3, 8, none⟩ = some (.int .u64 0) := hrow 8 _ rfl
  have r6 : w11.cell? ⟨g3, 9, none⟩ = some (.int .u64 0) := hrow 9 _ rfl
  have r7 : w11.cell? ⟨g3, 10, none⟩ = some (.int .u64 0) := hrow 10 _ rfl
  clear hrow
  have HC := Lib.hid (code_st HS.out)
  rw [e_code10] at HC
  go_wp2_with fail
  refine HC.out.mono ?_
  rintro e w' ⟨rfl, rfl⟩
  clear HC
  clear r0 r1 r2 r3 r4 r5 r6 r7
  have HB1 := Lib.hid HS.out.below
  go_wp2_with fail
  refine (one_ok w11).mono ?_
  rintro e w12 ⟨aT, pT, ST, bsT, rfl, hs⟩
  have HT : Hid (NSt w11 w12 aT pT ST bsT 1 nT0 []) := Lib.hid hs; clear hs
  have HC := Lib.hid (store_st HT.out 8 9 (by omega) (of_decide_eq_true (by kernel_rfl)) (of_decide_eq_true (by kernel_rfl)) (of_decide_eq_true (by kernel_rfl)))
  rw [eT0] at HC
  go_wp2_with fail
  refine HC.out.mono ?_
  rintro e w13 ⟨v13, rfl, -, hs⟩
  clear HC
  have HT := Lib.hid hs.less; clear hs
  have HC := Lib.hid (hear_st HT.out ⟨15, 0, 1, L8.zero⟩ (of_decide_eq_true (by kernel_rfl)) (of_decide_eq_true (by kernel_rfl)) (of_decide_eq_true (by kernel_rfl)))
  rw [eT1] at HC
  go_wp2_with fail
  refine HC.out.mono ?_
  rintro e w14 ⟨v14, rfl, -, hs⟩
  clear HC
  have HT := Lib.hid hs.less; clear hs
  have HC := Lib.hid (store_st HT.out 8 9 (by omega) (of_decide_eq_true (by kernel_rfl)) (of_decide_eq_true (by kernel_rfl)) (of_decide_eq_true (by kernel_rfl)))
  rw [eT2] at HC
  go_wp2_with fail
  refine HC.out.mono ?_
  rintro e w15 ⟨v15, rfl, -, hs⟩
  clear HC
  have HT := Lib.hid hs.less; clear hs
  have HC := Lib.hid (drop_st HT.out 1 (of_decide_eq_true (by kernel_rfl)))
  rw [eT3] at HC
  go_wp2_with fail
  refine HC.out.mono ?_
  rintro e w16 ⟨v, rfl, hv, hs⟩
  clear HC
  obtain ⟨g4, capg4, rfl⟩ := hv.one
  have HT := Lib.hid hs.one; clear hs hv
  have HC := Lib.hid (store_st HT.out 8 1 (by omega) (of_decide_eq_true (by kernel_rfl)) (of_decide_eq_true (by kernel_rfl)) (of_decide_eq_true (by kernel_rfl)))
  rw [eT4] at HC
  go_wp2_with fail
  refine HC.out.mono ?_
  rintro e w17 ⟨v, rfl, hv, hs⟩
  clear HC
  obtain ⟨am, capm, rfl⟩ := hv.none
  have HT := Lib.hid hs.less; clear hs hv
  have HC := Lib.hid (hear_st HT.out ⟨16, 0, 1, L8.zero⟩ (of_decide_eq_true (by kernel_rfl)) (of_decide_eq_true (by kernel_rfl)) (of_decide_eq_true (by kernel_rfl)))
  rw [eT5] at HC
  go_wp2_with fail
  refine HC.out.mono ?_
  rintro e w18 ⟨v, rfl, hv, hs⟩
  clear HC
  obtain ⟨ak, capk, rfl⟩ := hv.none
  have HT := Lib.hid hs.less; clear hs hv
  go_wp2_with fail
  refine (says_yes g4 capg4 3 1 ⟨9, 0, 0, 0, 0, 0, 0, 0⟩ w18 (HT.out.rows (g4, MsgV.cells ⟨3, 0, 1, ⟨9, 0, 0, 0, 0, 0, 0, 0⟩⟩) (by simp)).2).mono ?_
  rintro e w' ⟨rfl, rfl⟩
  have hrow := (HT.out.rows (g4, MsgV.cells ⟨3, 0, 1, ⟨9, 0, 0, 0, 0, 0, 0, 0⟩⟩) (by simp)).2
  have r0 : w18.cell? ⟨g4, 3, none⟩ = some (.int .u64 9) := hrow 3 _ rfl
  have r1 : w18.cell? ⟨g4, 4, none⟩ = some (.int .u64 0) := hrow 4 _ rfl
  have r2 : w18.cell? ⟨g4, 5, none⟩ = some (.int .u64 0) := hrow 5 _ rfl
  have r3 : w18.cell? ⟨g4, 6, none⟩ = some (.int .u64 0) := hrow 6 _ rfl
  have r4 : w18.cell? ⟨g4, 7, none⟩ = some (.int .u64 0) := hrow 7 _ rfl
  have r5 : w18.cell? ⟨g4, 8, none⟩ = some (.int .u64 0) := hrow 8 _ rfl
  have r6 : w18.cell? ⟨g4, 9, none⟩ = some (.int .u64 0) := hrow 9 _ rfl
  have r7 : w18.cell? ⟨g4, 10, none⟩ = some (.int .u64 0) := hrow 10 _ rfl
  clear hrow
  have HC := Lib.hid (store_st HT.out 0 1 (by omega) (of_decide_eq_true (by kernel_rfl)) (of_decide_eq_true (by kernel_rfl)) (of_decide_eq_true (by kernel_rfl)))
  rw [eT6] at HC
  go_wp2_with fail
  clear r0 r1 r2 r3 r4 r5 r6 r7
  refine HC.out.mono ?_
  rintro e w19 ⟨v19, rfl, -, hs⟩
  clear HC
  have HT := Lib.hid hs.less; clear hs
  have HC := Lib.hid (hear_st HT.out ⟨15, 0, 0, L8.zero⟩ (of_decide_eq_true (by kernel_rfl)) (of_decide_eq_true (by kernel_rfl)) (of_decide_eq_true (by kernel_rfl)))
  rw [eT7] at HC
  go_wp2_with fail
  refine HC.out.mono ?_
  rintro e w20 ⟨v20, rfl, -, hs⟩
  clear HC
  have HT := Lib.hid hs.less; clear hs
  have HC := Lib.hid (begin_st HT.out  )
  rw [eT8] at HC
  go_wp2_with fail
  refine HC.out.mono ?_
  rintro e w21 ⟨rfl, hs⟩
  clear HC
  have HT := Lib.hid hs; clear hs
  have HC := Lib.hid (load_st HT.out 0 (by omega) (of_decide_eq_true (by kernel_rfl)) (of_decide_eq_true (by kernel_rfl)) (of_decide_eq_true (by kernel_rfl)))
  rw [eT9] at HC
  go_wp2_with fail
  refine HC.out.mono ?_
  rintro e w22 ⟨v22, rfl, -, hs⟩
  clear HC
  have HT := Lib.hid hs.less; clear hs
  have HC := Lib.hid (cas_st HT.out 0 0 1 (by omega) (of_decide_eq_true (by kernel_rfl)) (of_decide_eq_true (by kernel_rfl)) (of_decide_eq_true (by kernel_rfl)))
  rw [eT10] at HC
  go_wp2_with fail
  refine HC.out.mono ?_
  rintro e w23 ⟨v23, rfl, -, hs⟩
  clear HC
  have HT := Lib.hid hs.less; clear hs
  have HC := Lib.hid (begin_st HT.out  )
  rw [eT11] at HC
  go_wp2_with fail
  refine HC.out.mono ?_
  rintro e w24 ⟨rfl, hs⟩
  clear HC
  have HT := Lib.hid hs; clear hs
  have HC := Lib.hid (nabort_st HT.out 8 )
  rw [eT12] at HC
  go_wp2_with fail
  refine HC.out.mono ?_
  rintro e w25 ⟨rfl, hs⟩
  clear HC
  have HT := Lib.hid hs; clear hs
  have HC := Lib.hid (hear_st HT.out ⟨13, 0, 0, L8.zero⟩ (of_decide_eq_true (by kernel_rfl)) (of_decide_eq_true (by kernel_rfl)) (of_decide_eq_true (by kernel_rfl)))
  rw [eT13] at HC
  go_wp2_with fail
  refine HC.out.mono ?_
  rintro e w26 ⟨v26, rfl, -, hs⟩
  clear HC
  have HT := Lib.hid hs.less; clear hs
  have HC := Lib.hid (code_st HT.out)
  rw [e_code14] at HC
  go_wp2_with fail
  refine HC.out.mono ?_
  rintro e w' ⟨rfl, rfl⟩
  clear HC
  have HC := Lib.hid (ncommit_st HT.out  )
  rw [eT14] at HC
  go_wp2_with fail
  refine HC.out.mono ?_
  rintro e w27 ⟨rfl, hs⟩
  clear HC
  have HT := Lib.hid hs; clear hs
  have HC := Lib.hid (nabort_st HT.out 1 )
  rw [eT15] at HC
  go_wp2_with fail
  refine HC.out.mono ?_
  rintro e w28 ⟨rfl, hs⟩
  clear HC
  have HT := Lib.hid hs; clear hs
  have HC := Lib.hid (drop_st HT.out 1 (of_decide_eq_true (by kernel_rfl)))
  rw [eT16] at HC
  go_wp2_with fail
  refine HC.out.mono ?_
  rintro e w29 ⟨v29, rfl, -, hs⟩
  clear HC
  have HT := Lib.hid hs.less; clear hs
  have HC := Lib.hid (drop_st HT.out 4 (of_decide_eq_true (by kernel_rfl)))
  rw [eT17] at HC
  go_wp2_with fail
  refine HC.out.mono ?_
  rintro e w30 ⟨v30, rfl, -, hs⟩
  clear HC
  have HT := Lib.hid hs.less; clear hs
  have HC := Lib.hid (load_st HT.out 32 (by omega) (of_decide_eq_true (by kernel_rfl)) (of_decide_eq_true (by kernel_rfl)) (of_decide_eq_true (by kernel_rfl)))
  rw [eT18] at HC
  go_wp2_with fail
  refine HC.out.mono ?_
  rintro e w31 ⟨v31, rfl, -, hs⟩
  clear HC
  have HT := Lib.hid hs.less; clear hs
  have HC := Lib.hid (store_st HT.out (-1) 0 (by omega) (of_decide_eq_true (by kernel_rfl)) (of_decide_eq_true (by kernel_rfl)) (of_decide_eq_true (by kernel_rfl)))
  rw [eT19] at HC
  go_wp2_with fail
  refine HC.out.mono ?_
  rintro e w32 ⟨v32, rfl, -, hs⟩
  clear HC
  have HT := Lib.hid hs.less; clear hs
  have HC := Lib.hid (hear_st HT.out ⟨11, 1, 0, L8.zero⟩ (of_decide_eq_true (by kernel_rfl)) (of_decide_eq_true (by kernel_rfl)) (of_decide_eq_true (by kernel_rfl)))
  rw [eT20] at HC
  go_wp2_with fail
  refine HC.out.mono ?_
  rintro e w33 ⟨v33, rfl, -, hs⟩
  clear HC
  have HT := Lib.hid hs.less; clear hs
  have HB2 := Lib.hid (HB1.out.trans (HT.out.below.mono HB1.out.size))
  clear HT HS HB1
  go_wp2_with fail
  refine (nnew_bad 2 4 2 1 1 w33 (by omega)).mono ?_
  rintro e w34 ⟨rfl, hb⟩
  have HB2 := Lib.hid (HB2.out.trans (hb.mono HB2.out.size)); clear hb
  go_wp2_with fail
  refine (nnew_bad 0 4 5 1 1 w34 (by omega)).mono ?_
  rintro e w35 ⟨rfl, hb⟩
  have HB2 := Lib.hid (HB2.out.trans (hb.mono HB2.out.size)); clear hb
  go_wp2_with fail
  refine (nnew_bad 0 65 1 1 1 w35 (by omega)).mono ?_
  rintro e w36 ⟨rfl, hb⟩
  have HB2 := Lib.hid (HB2.out.trans (hb.mono HB2.out.size)); clear hb
  go_wp2_with fail
  refine (nil_Load w36).mono ?_
  rintro e w37 ⟨rfl, hb⟩
  have HB2 := Lib.hid (HB2.out.trans (hb.mono HB2.out.size)); clear hb
  go_wp2_with fail
  refine (nil_Store w37).mono ?_
  rintro e w38 ⟨rfl, hb⟩
  have HB2 := Lib.hid (HB2.out.trans (hb.mono HB2.out.size)); clear hb
  go_wp2_with fail
  refine (nil_Cas w38).mono ?_
  rintro e w39 ⟨rfl, hb⟩
  have HB2 := Lib.hid (HB2.out.trans (hb.mono HB2.out.size)); clear hb
  go_wp2_with fail
  refine (nil_Begin w39).mono ?_
  rintro e w40 ⟨rfl, hb⟩
  have HB2 := Lib.hid (HB2.out.trans (hb.mono HB2.out.size)); clear hb
  go_wp2_with fail
  refine (nil_Commit w40).mono ?_
  rintro e w41 ⟨rfl, hb⟩
  have HB2 := Lib.hid (HB2.out.trans (hb.mono HB2.out.size)); clear hb
  go_wp2_with fail
  refine (nil_Abort w41).mono ?_
  rintro e w42 ⟨rfl, hb⟩
  have HB2 := Lib.hid (HB2.out.trans (hb.mono HB2.out.size)); clear hb
  go_wp2_with fail
  refine (nil_Hear w42).mono ?_
  rintro e w43 ⟨rfl, hb⟩
  have HB2 := Lib.hid (HB2.out.trans (hb.mono HB2.out.size)); clear hb
  go_wp2_with fail
  refine (nil_Drop w43).mono ?_
  rintro e w44 ⟨rfl, hb⟩
  have HB2 := Lib.hid (HB2.out.trans (hb.mono HB2.out.size)); clear hb
  go_wp2_with fail
  refine (nil_Find 0 w44).mono ?_
  rintro e w45 ⟨rfl, hb⟩
  have HB2 := Lib.hid (HB2.out.trans (hb.mono HB2.out.size)); clear hb
  obtain ⟨W1, eW, bW, hn, -, -⟩ := ebox w45 Ent.zero
  have HB3 := Lib.hid (HB2.out.trans (bW.mono HB2.out.size))
  have EW := Lib.hid eW
  have Hn := Lib.hid hn
  clear eW bW hn HB2
  go_wp2_with (refine wpList_store_mid rfl 42 (.tmp 61) (.tmp 365) rfl w45.heap.size 0 Ent.zero.cells.toArray rfl rfl ?_ Try.size42 (oneEnt _) ?_; exact Hn.out; change wpList _ _ _ _ _ ((w45.alloc (.cells Ent.zero.cells.toArray 42)).setCells w45.heap.size 0 Ent.zero.cells); rw [← EW.out])
  refine (nil_Out W1).mono ?_
  rintro e W2 ⟨rfl, hb⟩
  have HB4 := Lib.hid (HB3.out.trans (hb.mono HB3.out.size)); clear hb
  obtain ⟨W3, eW, bW, hn, -, -⟩ := mbox W2 MsgV.zero
  have HB2 := Lib.hid (HB4.out.trans (bW.mono HB4.out.size))
  have EW3 := Lib.hid eW
  have Hn3 := Lib.hid hn
  clear eW bW hn HB3 HB4 EW Hn
  go_wp2_with (refine wpList_store_mid rfl 52 (.tmp 63) (.tmp 370) rfl W2.heap.size 0 MsgV.zero.cells.toArray rfl rfl ?_ Try.size52 (oneMsg _) ?_; exact Hn3.out; change wpList _ _ _ _ _ ((W2.alloc (.cells MsgV.zero.cells.toArray 52)).setCells W2.heap.size 0 MsgV.zero.cells); rw [← EW3.out])
  refine (nil_All W3).mono ?_
  rintro e w46 ⟨rfl, hb⟩
  have HB2 := Lib.hid (HB2.out.trans (hb.mono HB2.out.size)); clear hb
  go_wp2_with fail
  refine (nil_Backs w46).mono ?_
  rintro e w47 ⟨rfl, hb⟩
  have HB2 := Lib.hid (HB2.out.trans (hb.mono HB2.out.size)); clear hb
  go_wp2_with fail
  refine (nil_Live w47).mono ?_
  rintro e w48 ⟨rfl, hb⟩
  have HB2 := Lib.hid (HB2.out.trans (hb.mono HB2.out.size)); clear hb
  go_wp2_with fail
  refine (nil_Code w48).mono ?_
  rintro e w49 ⟨rfl, hb⟩
  have HB2 := Lib.hid (HB2.out.trans (hb.mono HB2.out.size)); clear hb
  go_wp2_with fail
  refine (nalive_ok w49).mono ?_
  rintro e w50 ⟨rfl, hb⟩
  have HB2 := Lib.hid (HB2.out.trans (hb.mono HB2.out.size)); clear hb
  go_wp2
  go_ret
  exact ⟨rfl, HB2.out⟩

end Go.Proofs.Ytddajnpichchfaa
