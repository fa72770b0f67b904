/- What a code answers; the chapter's first example. Conditions: those stated in each theorem. -/
import Derived.Test.YthjbcpgncnchoaaLbV
import Derived.Test.YthjbcpgncnchoaaLbS
import Derived.Laws.MakeOwn
import Derived.Laws.StructEq
import Derived.ChangeKeysEq
namespace Go.Proofs.Ythjbcpgncnchoaa
open Go.RowKit Go.BigFrame

def nine : L8 := ⟨9, 9, 9, 9, 9, 9, 9, 9⟩
def begS (m : List Int) : Ps := ⟨0, nine, m, false, 0, 0⟩
def ranP (l : List In) (m : List Int) : Ro := playP l 0 504 1 20000 (begS m)
/-- The three registers; 77 where it did not run to its end. -/
def ansP (R : Ro) : Value := if R.fine then .agg #[.int .u64 R.regs.x0, .int .u64 R.regs.x1, .int .u64 R.regs.x2] else .agg #[.int .u64 77, .int .u64 0, .int .u64 0]
theorem nine_ok : nine.Ok := fun k hk => by
  match k, hk with
  | 0, _ => exact ⟨by decide, by decide⟩
  | 1, _ => exact ⟨by decide, by decide⟩
  | 2, _ => exact ⟨by decide, by decide⟩
  | 3, _ => exact ⟨by decide, by decide⟩
  | 4, _ => exact ⟨by decide, by decide⟩
  | 5, _ => exact ⟨by decide, by decide⟩
  | 6, _ => exact ⟨by decide, by decide⟩
  | 7, _ => exact ⟨by decide, by decide⟩
theorem Try.sizeThree : (Try.prog.info? 48).map (·.size) = some 3 := by kernel_rfl
theorem Try.loadThree {w : World} {b : Nat} {x y z : Int} (h : Holds w b 48 [.int .u64 x, .int .u64 y, .int .u64 z]) : (loadVar 48 ⟨b, 0, none⟩).run Try.prog w = .ok (.agg #[.int .u64 x, .int .u64 y, .int .u64 z]) w :=
  run_loadVar_mid w b 0 48 [.int .u64 x, .int .u64 y, .int .u64 z] _ h.full Try.underlying48 rfl Try.sizeThree

theorem ans_fin {w V : World} {N mb : Nat} {R : Ro} (hz : Holds V N 48 [.int .u64 0, .int .u64 0, .int .u64 0]) (hp : PlO w V mb R) (hN : w.heap.size ≤ N) (o : Obj) (x y z : Int) :
    Holds ((((V.setCell ⟨N, 0, none⟩ (.int .u64 x)).setCell ⟨N, 1, none⟩ (.int .u64 y)).setCell ⟨N, 2, none⟩ (.int .u64 z)).alloc o) N 48 [.int .u64 x, .int .u64 y, .int .u64 z] ∧ PlO w ((((V.setCell ⟨N, 0, none⟩ (.int .u64 x)).setCell ⟨N, 1, none⟩ (.int .u64 y)).setCell ⟨N, 2, none⟩ (.int .u64 z)).alloc o) mb R := by
  have hne : mb ≠ N := hp.1.ne hz (by decide)
  exact ⟨(((hz.set 0 _).set 1 _).set 2 _).alloc o, (Holds.other (Holds.other (Holds.other hp.1 hne _) hne _) hne _).alloc o, (((hp.2.setCell (p := ⟨N, 0, none⟩) (.inr hN) _).setCell (p := ⟨N, 1, none⟩) (.inr hN) _).setCell (p := ⟨N, 2, none⟩) (.inr hN) _).alloc o⟩
set_option maxRecDepth 100000 in
set_option maxHeartbeats 2000000 in
theorem answers_any (a : Option Addr) (ca : Nat) (l : List In) (mb : Nat) (m : List Int) (w : World) (ha : RowsIn w a 5 In.cells l) (hn : ∀ ad, a = some ad → ad.block ≠ mb) (hl : l.length ≤ 1024) (hm : Holds w mb 24 (memC m)) (hlen : m.length = 504) (hu : ∀ v ∈ m, U64 v) :
    Calls Try.prog 22 #[.slice a l.length ca, .slice (some ⟨mb, 0, none⟩) 504 504] w fun e w' => e = .returned (ansP (ranP l m)) ∧ PlO w w' mb (ranP l m) := by
  have hPl : ∀ W, RowsIn W a 5 In.cells l → Holds W mb 24 (memC m) → Calls Try.prog 34 #[.slice a l.length ca, .slice (some ⟨mb, 0, none⟩) 504 504, .agg #[.int .u64 9, .int .u64 9, .int .u64 9, .int .u64 9, .int .u64 9, .int .u64 9, .int .u64 9, .int .u64 9], .int .i64 0, .int .i64 504, .int .i64 1, .int .i64 20000] W fun e w' => e = .returned (.agg #[.bool (ranP l m).fine, .int .u64 (ranP l m).regs.x0, .int .u64 (ranP l m).regs.x1, .int .u64 (ranP l m).regs.x2, .int .u64 (ranP l m).regs.x3, .int .u64 (ranP l m).regs.x4, .int .u64 (ranP l m).regs.x5, .int .u64 (ranP l m).regs.x6, .int .u64 (ranP l m).regs.x7, .int .i64 (ranP l m).steps]) ∧ PlO W w' mb (ranP l m) := fun W h1 h2 =>
    play_any a ca l mb (begS m) 0 504 1 20000 W h1 hn hl h2 hlen ⟨nine_ok, hu, by simp [begS]⟩ ⟨rfl, rfl, rfl, rfl⟩ (by decide) (by decide) (by decide)
  have HPl := Lib.hid (hPl _ (ha.below ((Below.refl _ w).alloc (Nat.le_refl _) (.cells #[.int .u64 0, .int .u64 0, .int .u64 0] 48))) (hm.alloc _))
  have hz := Holds.new w 48 [.int .u64 0, .int .u64 0, .int .u64 0]
  have hne : w.heap.size ≠ mb := fun e => by have := hm.lt; omega
  have Hm := Lib.hid hm; clear hm
  clear hPl
  obtain ⟨R, hR⟩ : ∃ R, ranP l m = R := ⟨_, rfl⟩
  rw [hR] at HPl ⊢
  clear hR
  obtain ⟨f, x, n, mm⟩ := R
  simp only [ansP]
  obtain ⟨x0, x1, x2, x3, x4, x5, x6, x7⟩ := x
  simp only at HPl ⊢
  cases f with
  | true =>
    go_enter Try.func22, Try.ntmps22
    go_wp2_with (go_at_call 34; (with_reducible refine HPl.out.mono ?_); rintro e V ⟨rfl, hp⟩; have hzv := hp.2.holds hne hz; have hlv := hzv.lt; have z0 := hzv.cell (i := 0) rfl; have z1 := hzv.cell (i := 1) rfl; have z2 := hzv.cell (i := 2) rfl; have f0 := hzv.free 0; have f1 := hzv.free 1; have f2 := hzv.free 2; have Hzv := Lib.hid hzv; have HP := Lib.hid (show PlO w V mb _ from ⟨hp.1, ((Tch.refl _ w).alloc _).trans hp.2⟩); clear hp hzv)
    have hf := ans_fin Hzv.out HP.out (Nat.le_refl _) (.cells #[.bool true, .int .u64 x0, .int .u64 x1, .int .u64 x2, .int .u64 x3, .int .u64 x4, .int .u64 x5, .int .u64 x6, .int .u64 x7, .int .i64 n] 65) x0 x1 x2
    exact bodyPost_ret (results_c rfl rfl (Try.loadThree hf.1)) rfl ⟨rfl, hf.2⟩
  | false =>
    go_enter Try.func22, Try.ntmps22
    go_wp2_with (go_at_call 34; (with_reducible refine HPl.out.mono ?_); rintro e V ⟨rfl, hp⟩; have hzv := hp.2.holds hne hz; have hlv := hzv.lt; have z0 := hzv.cell (i := 0) rfl; have z1 := hzv.cell (i := 1) rfl; have z2 := hzv.cell (i := 2) rfl; have f0 := hzv.free 0; have f1 := hzv.free 1; have f2 := hzv.free 2; have Hzv := Lib.hid hzv; have HP := Lib.hid (show PlO w V mb _ from ⟨hp.1, ((Tch.refl _ w).alloc _).trans hp.2⟩); clear hp hzv)
    have hf := ans_fin Hzv.out HP.out (Nat.le_refl _) (.cells #[.bool false, .int .u64 x0, .int .u64 x1, .int .u64 x2, .int .u64 x3, .int .u64 x4, .int .u64 x5, .int .u64 x6, .int .u64 x7, .int .i64 n] 65) 77 0 0
    exact bodyPost_ret (results_c rfl rfl (Try.loadThree hf.1)) rfl ⟨rfl, hf.2⟩

/-! ### The chapter's first example -/
def mem0 : List Int := List.replicate 504 0
def alPush : List In := (codeQPush (queueP 0 2) 7).out
def alPop : List In := (codeQPop (queueP 0 2)).out
def memA : List Int := (ranP alPush mem0).mem
def memB : List Int := (ranP alPop memA).mem
set_option maxRecDepth 1000000 in
theorem al_run : ((ranP alPush mem0).fine = true ∧ (ranP alPush mem0).regs.x0 = 1 ∧ (ranP alPush mem0).regs.x1 = 0 ∧ (ranP alPush mem0).regs.x2 = 0) ∧ ((ranP alPop memA).fine = true ∧ (ranP alPop memA).regs.x0 = 1 ∧ (ranP alPop memA).regs.x1 = 7 ∧ (ranP alPop memA).regs.x2 = 0) ∧ ((ranP alPop memB).fine = true ∧ (ranP alPop memB).regs.x0 = 0 ∧ (ranP alPop memB).regs.x1 = 0 ∧ (ranP alPop memB).regs.x2 = 0) ∧ memA.length = 504 ∧ memB.length = 504 ∧ memA.all (fun v => decide (0 ≤ v) && decide (v < 18446744073709551616)) = true ∧ memB.all (fun v => decide (0 ≤ v) && decide (v < 18446744073709551616)) = true := by decide +kernel

theorem mem0_u : ∀ v ∈ mem0, U64 v := fun v hv => by rw [List.eq_of_mem_replicate hv]; exact ⟨by decide, by decide⟩
theorem all_u {m : List Int} (h : m.all (fun v => decide (0 ≤ v) && decide (v < 18446744073709551616)) = true) : ∀ v ∈ m, U64 v := fun v hv => by
  have := List.all_eq_true.1 h v hv
  simp only [Bool.and_eq_true, decide_eq_true_eq] at this
  exact this
theorem queue02 : (queueP 0 2).mayBe = true := by decide +kernel
theorem al_len : alPush.length ≤ 1024 ∧ alPop.length ≤ 1024 := by decide +kernel
theorem eqItems_step (d i : Nat) (is : List Nat) (xs ys : Array Value) (a b : Int) (w : World) (h1 : (part 24 xs (i * 1)).run Try.prog w = .ok (.int .u64 a) w) (h2 : (part 24 ys (i * 1)).run Try.prog w = .ok (.int .u64 b) w) :
    (Op.eqItems (d + 1) 24 1 xs ys (i :: is)).run Try.prog w = if a == b then (Op.eqItems (d + 1) 24 1 xs ys is).run Try.prog w else .ok false w := by
  simp only [Op.eqItems, Sem.run_bind, h1, h2, Result.andThen_ok, run_equalIn_int w d 24 .u64 .u64 a b Try.underlying24]
  cases a == b <;> simp
/-- '==' of two arrays of three numbers. -/
theorem eq_three (a b c a' b' c' : Int) (w : World) : (Op.equalIn 10000 48 (.agg #[.int .u64 a, .int .u64 b, .int .u64 c]) (.agg #[.int .u64 a', .int .u64 b', .int .u64 c'])).run Try.prog w = .ok (a == a' && (b == b' && c == c')) w := by
  rw [run_equalIn_array w 9999 _ _ Try.underlying48 (show Try.prog.info? 24 = some (Try.prog.info? 24).get! from by kernel_rfl), show Try.prog.cellsOf 24 = 1 from by kernel_rfl, show List.range 3 = [0, 1, 2] from rfl]
  rw [eqItems_step 9998 0 _ _ _ a a' w (by kernel_rfl) (by kernel_rfl), eqItems_step 9998 1 _ _ _ b b' w (by kernel_rfl) (by kernel_rfl), eqItems_step 9998 2 _ _ _ c c' w (by kernel_rfl) (by kernel_rfl)]
  cases a == a' <;> cases b == b' <;> cases c == c' <;> simp [Op.eqItems]
theorem Try.infoU : (Try.prog.info? 24).map (fun i => (i.zero, i.size, i.bytes)) = some (some (.int .u64 0), 1, 8) := by kernel_rfl
theorem make504 (w : World) : (Instr.makeSlice 45 (.int .i64 504) (.int .i64 504)).run Try.prog w = .ok (.slice (some ⟨w.heap.size, 0, none⟩) 504 504) (w.alloc (.cells (memC mem0).toArray 24)) := by
  obtain ⟨i0, hi0, hz0, hz1, hz2⟩ := info_parts Try.infoU
  have h := run_makeSlice (P := Try.prog) w 45 24 i0 _ Try.underlying45 hi0 hz0 .i64 .i64 504 504 (by decide) (by decide) (by rw [hz1]; decide) (by rw [hz2]; decide) (by decide)
  rw [h, hz1]
  exact congrArg (fun z => Result.ok _ (w.alloc (.cells z _))) (by kernel_rfl)
/-- Where the example stands. -/
structure Al (w W : World) (m : List Int) (v1 v2 : Value) : Prop where
  m : Holds W w.heap.size 24 (memC m)
  r1 : W.ownsRow (w.heap.size + 1) 40 5 v1 alPush.length (flatI alPush)
  r2 : W.ownsRow (w.heap.size + 1) 40 5 v2 alPop.length (flatI alPop)
  below : Below w.heap.size w W
theorem Al.next {w W V : World} {m : List Int} {v1 v2 : Value} {R : Ro} (h : Al w W m v1 v2) (hp : PlO W V w.heap.size R) : Al w V R.mem v1 v2 :=
  ⟨hp.1, owns_same h.r1 (fun g e => hp.2.block g (owns_lt h.r1 e).2 (fun e2 => by have := (owns_lt h.r1 e).1; omega)), owns_same h.r2 (fun g e => hp.2.block g (owns_lt h.r2 e).2 (fun e2 => by have := (owns_lt h.r2 e).1; omega)), h.below.trans (hp.2.below h.below.size (fun k e => by rw [e]; exact Nat.le_refl _))⟩
theorem owns_below {w w' : World} {lo : Nat} {e : TypeId} {size : Nat} {v : Value} {n : Nat} {xs : List Value} (h : w.ownsRow lo e size v n xs) (hb : Below w.heap.size w w') : w'.ownsRow lo e size v n xs := owns_same h (fun g e => hb.block g (owns_lt h e).2)
theorem rows_code {w : World} {lo : Nat} {ad : Option Addr} {cap : Nat} {l : List In} (h : w.ownsRow lo 40 5 (.slice ad l.length cap) l.length (flatI l)) : RowsIn w ad 5 In.cells l := by
  rcases owns_form h with ⟨_, h0, _⟩ | ⟨g, c, e, _⟩
  · exact .inl (List.eq_nil_of_length_eq_zero h0)
  · simp only [Value.slice.injEq] at e
    obtain ⟨rfl, _, rfl⟩ := e
    refine .inr ⟨g, 0, rfl, (owns_lt h rfl).2, fun k y hy j v hj => ?_⟩
    rw [Nat.zero_add]
    exact (owns_cell h (g := g) rfl (flatI_at l k y hy j v hj)).1
theorem row_apart {W : World} {lo n cap k : Nat} {ad : Option Addr} {xs : List Value} {t : TypeId} (h : W.ownsRow lo t 5 (.slice ad n cap) n xs) (hk : k < lo) : ∀ a, ad = some a → a.block ≠ k := fun a e e2 => by
  subst e
  have := (owns_lt h (g := a.block) rfl).1
  omega
theorem ansA1 : ansP (ranP alPush mem0) = .agg #[.int .u64 1, .int .u64 0, .int .u64 0] := by
  obtain ⟨⟨h0, h1, h2, h3⟩, _⟩ := al_run
  unfold ansP; rw [h0, h1, h2, h3]; rfl
theorem ansA2 : ansP (ranP alPop memA) = .agg #[.int .u64 1, .int .u64 7, .int .u64 0] := by
  obtain ⟨_, ⟨h0, h1, h2, h3⟩, _⟩ := al_run
  unfold ansP; rw [h0, h1, h2, h3]; rfl
theorem ansA3 : ansP (ranP alPop memB) = .agg #[.int .u64 0, .int .u64 0, .int .u64 0] := by
  obtain ⟨_, _, ⟨h0, h1, h2, h3⟩, _⟩ := al_run
  unfold ansP; rw [h0, h1, h2, h3]; rfl
theorem al_ans1 {w W : World} {ad1 : Option Addr} {cap1 : Nat} {v2 : Value} (h : Al w W mem0 (.slice ad1 alPush.length cap1) v2) : Calls Try.prog 22 #[.slice ad1 alPush.length cap1, .slice (some ⟨w.heap.size, 0, none⟩) 504 504] W fun e w' => e = .returned (.agg #[.int .u64 1, .int .u64 0, .int .u64 0]) ∧ Al w w' memA (.slice ad1 alPush.length cap1) v2 := by
  have := answers_any ad1 cap1 alPush w.heap.size mem0 W (rows_code h.r1) (row_apart h.r1 (by omega)) al_len.1 h.m List.length_replicate mem0_u
  rw [ansA1] at this
  exact this.mono fun e w' hh => ⟨hh.1, h.next hh.2⟩
theorem al_ans2 {w W : World} {ad2 : Option Addr} {cap2 : Nat} {v1 : Value} (h : Al w W memA v1 (.slice ad2 alPop.length cap2)) : Calls Try.prog 22 #[.slice ad2 alPop.length cap2, .slice (some ⟨w.heap.size, 0, none⟩) 504 504] W fun e w' => e = .returned (.agg #[.int .u64 1, .int .u64 7, .int .u64 0]) ∧ Al w w' memB v1 (.slice ad2 alPop.length cap2) := by
  have := answers_any ad2 cap2 alPop w.heap.size memA W (rows_code h.r2) (row_apart h.r2 (by omega)) al_len.2 h.m al_run.2.2.2.1 (all_u al_run.2.2.2.2.2.1)
  rw [ansA2] at this
  exact this.mono fun e w' hh => ⟨hh.1, h.next hh.2⟩
theorem al_ans3 {w W : World} {ad2 : Option Addr} {cap2 : Nat} {v1 : Value} (h : Al w W memB v1 (.slice ad2 alPop.length cap2)) : Calls Try.prog 22 #[.slice ad2 alPop.length cap2, .slice (some ⟨w.heap.size, 0, none⟩) 504 504] W fun e w' => e = .returned (.agg #[.int .u64 0, .int .u64 0, .int .u64 0]) ∧ Below w.heap.size w w' := by
  have := answers_any ad2 cap2 alPop w.heap.size memB W (rows_code h.r2) (row_apart h.r2 (by omega)) al_len.2 h.m al_run.2.2.2.2.1 (all_u al_run.2.2.2.2.2.2)
  rw [ansA3] at this
  exact this.mono fun e w' hh => ⟨hh.1, (h.next hh.2).below⟩
set_option maxRecDepth 100000 in
set_option maxHeartbeats 4000000 in
theorem alive_any (w : World) : Calls Try.prog 20 #[] w fun e w' => e = .returned (.bool true) ∧ Below w.heap.size w w' := by
  have hmk := make504
  have HP : Hid (∀ W, Calls Try.prog 21 #[.int .i64 0, .int .i64 2, .int .u64 7] W fun e w' => LibO W (queueP 0 2) alPush e w') := Lib.hid (fun W => QueuePush_any 0 2 (by unfold I64; omega) (by unfold I64; omega) 7 (by omega) W)
  have HQ : Hid (∀ W, Calls Try.prog 23 #[.int .i64 0, .int .i64 2] W fun e w' => LibO W (queueP 0 2) alPop e w') := Lib.hid (fun W => QueuePop_any 0 2 (by unfold I64; omega) (by unfold I64; omega) W)
  have HM0 := Lib.hid (show Holds (w.alloc (.cells (memC mem0).toArray 24)) w.heap.size 24 (memC mem0) from Holds.new w _ _)
  have HB0 := Lib.hid ((Below.refl _ w).alloc (Nat.le_refl _) (.cells (memC mem0).toArray 24))
  have e1 := eq_three 1 0 0 1 0 0
  have e2 := eq_three 1 7 0 1 7 0
  have e3 := eq_three 0 0 0 0 0 0
  simp only [beq_self_eq_true, Bool.and_self] at e1 e2 e3
  go_enter Try.func20, Try.ntmps20
  go_wp2_with (first | (go_at_call 21; (with_reducible refine (HP.out _).mono ?_); rintro e V ⟨v, n, rfl, hb, h3, h4⟩; obtain ⟨rfl, hrow⟩ := h3 queue02; obtain ⟨ad1, cap1, rfl⟩ := row_form hrow; have HM1 := Lib.hid (HM0.out.below hb); have HR1 := Lib.hid (show V.ownsRow (w.heap.size + 1) 40 5 (.slice ad1 alPush.length cap1) alPush.length (flatI alPush) from owns_mono hrow (fun g e => by have := (owns_lt hrow e).1; simpa using this)); have HB1 := Lib.hid (HB0.out.trans (hb.mono HB0.out.size)); clear hb h3 h4 hrow) | (go_at_call 23; (with_reducible refine (HQ.out _).mono ?_); rintro e V2 ⟨v, n, rfl, hb, h3, h4⟩; obtain ⟨rfl, hrow⟩ := h3 queue02; obtain ⟨ad2, cap2, rfl⟩ := row_form hrow; have HA := Lib.hid (show Al w V2 mem0 (.slice ad1 alPush.length cap1) (.slice ad2 alPop.length cap2) from ⟨HM1.out.below hb, owns_below HR1.out hb, owns_mono hrow (fun g e => by have h5 := (owns_lt hrow e).1; have h6 := HM1.out.lt; omega), HB1.out.trans (hb.mono HB1.out.size)⟩); clear hb h3 h4 hrow) | (go_at_call 22; (with_reducible refine (al_ans1 HA.out).mono ?_); rintro e V3 ⟨rfl, h⟩; have HA := Lib.hid h; clear h) | (go_at_call 22; (with_reducible refine (al_ans2 HA.out).mono ?_); rintro e V4 ⟨rfl, h⟩; have HA := Lib.hid h; clear h) | (go_at_call 22; (with_reducible refine (al_ans3 HA.out).mono ?_); rintro e V5 ⟨rfl, h⟩; have HZ := Lib.hid h; clear h))
  refine bodyPost_ret (results_tmp rfl _ _ _) rfl ⟨rfl, HZ.out⟩

end Go.Proofs.Ythjbcpgncnchoaa
