/- A core that is made anew: New. Conditions: those stated in each theorem. -/
import Derived.Test.YtpgfcjfmhgifiaaMdA
import Derived.Test.YtpgfcjfmhgifiaaCame
import Derived.Laws.AppendOwnNone
namespace Go.Proofs.Ytpgfcjfmhgifiaa
open Go.RowKit Go.BigFrame

theorem Try.infoIn : (Try.prog.info? 51).map (fun i => (i.zero, i.size, i.bytes)) = some (some (.agg #[.int .i64 0, .int .i64 0, .int .i64 0, .int .i64 0, .int .i64 0]), 5, 40) := by kernel_rfl
theorem owns_zero (w : World) (t : TypeId) (n : Nat) : (w.alloc (.cells #[] t)).ownsRow w.heap.size t n (.slice (some ⟨w.heap.size, 0, none⟩) 0 0) 0 [] :=
  ⟨by simp, .inr ⟨w.heap.size, 0, #[], rfl, Nat.le_refl _, new_block w _, Nat.le_refl _, by unfold maxLen; omega, by simp, by simp⟩⟩
/-- A core that was made anew lies at bc. -/
def fileZ : List Value := [.int .u64 0, .int .u64 0, .int .u64 0, .int .u64 0, .int .u64 0, .int .u64 0, .int .u64 0, .int .u64 0, .int .i64 0, .pointer none, .bool true]
def NewC (w : World) (bc : Nat) (f s o : Int) : Prop := ∃ (id wd : Int) (v : Value) (bf bl bp : Nat),
  Holds w bc 73 [.int .i64 id, v, .int .u64 wd, .pointer (some ⟨bf, 0, none⟩), .pointer (some ⟨bl, 0, none⟩), .pointer (some ⟨bp, 0, none⟩), .int .i64 0, .int .i64 0, .bool false, .bool false, .int .i64 0, .int .i64 0, .int .i64 0, .int .i64 0, .int .u64 0, .int .u64 0, .int .u64 0, .bool false, .slice none 0 0, .int .i64 0, .bool false, .bool false, .nilIface, .slice none 0 0] ∧
  Holds w bf 90 fileZ ∧ CtAt w bl (Ct.new f s o)
theorem NewC.below {w w' : World} {bc : Nat} {f s o : Int} (h : NewC w bc f s o) (hb : Below w.heap.size w w') : NewC w' bc f s o := by
  obtain ⟨id, wd, v, bf, bl, bp, h1, h2, h3⟩ := h
  exact ⟨id, wd, v, bf, bl, bp, (hb.block bc h1.lt).trans h1, (hb.block bf h2.lt).trans h2, (hb.block bl h3.head.lt).trans h3.head, h3.ln4⟩
theorem NewC.lt {w : World} {bc : Nat} {f s o : Int} (h : NewC w bc f s o) : bc < w.heap.size := by obtain ⟨_, _, _, _, _, _, h1, _⟩ := h; exact h1.lt
/-- Words of instructions: each cell is one. -/
def Ones (xs : List Value) : Prop := ∀ u ∈ xs, u.oneCell' = true

set_option maxRecDepth 100000 in
set_option maxHeartbeats 1000000 in
theorem clone_any (ad : Addr) (n cap : Nat) (xs : List Value) (w : World) (hl : xs.length = n * 5) (hx : ∀ j u, xs[j]? = some u → w.cell? (ad.add j) = some u) (h1 : Ones xs) (hn : n ≤ 100000) :
    Calls Try.prog 8 #[.slice (some ad) n cap] w fun e w' => ∃ ad' cap', e = .returned (.slice ad' n cap') ∧ Below w.heap.size w w' := by
  obtain ⟨i0, hi0, hz0, hz1, hz2⟩ := info_parts Try.infoIn
  have Hi := Lib.hid hi0; clear hi0
  have Hz0 := Lib.hid hz0; clear hz0
  have Hz1 := Lib.hid hz1; clear hz1
  have Hz2 := Lib.hid hz2; clear hz2
  have hb := (Below.refl _ w).alloc (Nat.le_refl _) (.cells #[] 51)
  have hx0 : ∀ j u, xs[j]? = some u → (w.alloc (.cells #[] 51)).cell? (ad.add j) = some u := fun j u hu => (hb.cell (World.block_lt_of_cell? _ _ (hx j u hu))).trans (hx j u hu)
  have Hx := Lib.hid hx0; clear hx hx0
  have Hb := Lib.hid hb; clear hb
  have hq : ∀ W : World, (binOp BinOp.eql 22 (.slice (some ad) n cap) (.slice none 0 0)).run Try.prog W = .ok (.bool false) W := fun W => by kernel_rfl
  go_enter Try.func8, Try.ntmps8
  go_wp2_with (at_builtin; refine wpList_append_own_at _ rfl (.tmp 5) (.tmp 6) 22 rfl w.heap.size 51 i0 _ 5 40 Try.underlying22 Hi.out Hz0.out Hz1.out Hz2.out rfl (by decide) (.slice (some ⟨w.heap.size, 0, none⟩) 0 0) 0 [] rfl (owns_zero w _ _) ad n cap xs rfl hl Hx.out h1 (by unfold maxLen; omega) (by omega) (by simp) ?_; intro v3 w3 hown3 hgrow3 _ _; refine Hid.out ?_)
  refine Lib.hid ?_
  have Hb3 := Lib.hid (Hb.out.grown hgrow3 (by simp) (fun g e => by cases e; exact Nat.le_refl _))
  rw [Nat.zero_add] at hown3
  obtain ⟨ad3, cap3, rfl⟩ : ∃ ad3 cap3, v3 = .slice ad3 n cap3 := by
    rcases owns_form hown3 with ⟨rfl, h2, _⟩ | ⟨g, cap, rfl, _⟩
    · exact ⟨none, 0, by rw [h2]⟩
    · exact ⟨_, _, rfl⟩
  clear hown3 hgrow3
  go_wp2
  go_ret
  exact ⟨_, _, rfl, Hb3.out⟩

set_option maxRecDepth 100000 in
set_option maxHeartbeats 2000000 in
theorem corenew_ok {id lines f s o : Int} (ad : Addr) (n cap : Nat) (xs : List Value) (w : World) (hl : xs.length = n * 5) (hx : ∀ j u, xs[j]? = some u → w.cell? (ad.add j) = some u) (h1 : Ones xs) (hn : n ≤ 1024)
    (hi : 0 ≤ id ∧ id < 4) (hq : 2 ≤ lines ∧ lines ≤ 64) (hm : MayB f s o) :
    Calls Try.prog 4 #[.int .i64 id, .slice (some ad) n cap, bud f s o, .int .i64 lines] w fun e w' => ∃ bc, e = .returned (.tuple #[.pointer (some ⟨bc, 0, none⟩), .int .i64 0]) ∧ w.heap.size ≤ bc ∧ NewC w' bc f s o ∧ Below w.heap.size w w' := by
  have hn1 : (n : Int) ≤ 1024 := by omega
  have g1 : decide (id < 0) = false := by simp; omega
  have g2 : decide (4 ≤ id) = false := by simp; omega
  have g2' : decide (id < 4) = true := by simp; omega
  have g3 : decide (1024 < (n : Int)) = false := by simp; omega
  have g4 : decide (lines < 2) = false := by simp; omega
  have g5 : decide (64 < lines) = false := by simp; omega
  have q1 : IntKind.i64.wrap (lines - 1) = lines - 1 := by rw [IntKind.wrap_i64]; omega
  have q2 : IntKind.u64.wrap (lines - 1) = lines - 1 := by rw [IntKind.wrap_u64]; omega
  have q3 : IntKind.u64.wrap ((lines - 1) * 8) = (lines - 1) * 8 := by rw [IntKind.wrap_u64]; omega
  have HN := Lib.hid (fun V => new_ok hm V); clear hm
  unfold bud at *
  go_enter Try.func4, Try.ntmps4
  go_wp2_with (go_at_call 7; refine (HN.out _).mono ?_; rintro e w1 ⟨bl, rfl, hbl, hct, hb1⟩; refine Hid.out ?_)
  refine Lib.hid ?_
  have hx1 : ∀ j u, xs[j]? = some u → w1.cell? (ad.add j) = some u := fun j u hu => (hb1.cell (by have := World.block_lt_of_cell? _ _ (hx j u hu); simp; omega)).trans ((((Below.refl _ w).alloc (Nat.le_refl _) _).cell (World.block_lt_of_cell? _ _ (hx j u hu))).trans (hx j u hu))
  have Hb1 := Lib.hid (((Below.refl _ w).alloc (Nat.le_refl _) (.cells #[.int .i64 f, .int .i64 s, .int .i64 o] 24)).trans (hb1.mono (by simp)))
  have Hct := Lib.hid hct
  have HC := Lib.hid (clone_any ad n cap xs w1 hl hx1 h1 (by omega))
  clear hct hb1 hbl hx1 hx
  go_wp2_with (go_at_call 8; refine HC.out.mono ?_; rintro e w2 ⟨adc, capc, rfl, hb2⟩; refine Hid.out ?_)
  refine Lib.hid ?_
  have Hct := Lib.hid (⟨(hb2.block bl Hct.out.head.lt).trans Hct.out.head, Hct.out.ln4⟩ : CtAt w2 bl (Ct.new f s o))
  have Hb2 := Lib.hid (Hb1.out.trans (hb2.mono Hb1.out.size)); clear hb2 HC
  go_wp2_with (go_at_call 9; refine (regsnew_any _).mono ?_; rintro e w3 ⟨rfl, hf3, hb3⟩; refine Hid.out ?_)
  refine Lib.hid ?_
  have Hct := Lib.hid (⟨(hb3.block bl Hct.out.head.lt).trans Hct.out.head, Hct.out.ln4⟩ : CtAt w3 bl (Ct.new f s o))
  have Hf3 := Lib.hid hf3
  have Hb3 := Lib.hid (Hb2.out.trans (hb3.mono Hb2.out.size)); clear hb3 hf3
  go_wp2_with (go_at_call 10; refine (softnew_any _).mono ?_; rintro e w4 ⟨bp, rfl, hb4⟩; refine Hid.out ?_)
  refine Lib.hid ?_
  have Hct := Lib.hid (⟨(hb4.block bl Hct.out.head.lt).trans Hct.out.head, Hct.out.ln4⟩ : CtAt w4 bl (Ct.new f s o))
  have Hf4 := Lib.hid (show Holds w4 _ _ _ from (hb4.block _ Hf3.out.lt).trans Hf3.out)
  have Hb4 := Lib.hid (Hb3.out.trans (hb4.mono Hb3.out.size)); clear hb4 Hf3
  have hE : ∀ L, Holds (w4.alloc (.cells (List.toArray L) 73)) w4.heap.size 73 L := fun L => Holds.new w4 _ L
  have HE := Lib.hid hE; clear hE
  go_wp2_with fail
  refine bodyPost_ret (results_tmp2 rfl _ _ _) rfl ⟨_, rfl, Hb4.out.size, ⟨id, (lines - 1) * 8, .slice adc n capc, _, _, _, HE.out _, Hf4.out.alloc _, ⟨Hct.out.head.alloc _, Hct.out.ln4⟩⟩, Hb4.out.alloc Hb4.out.size _⟩

set_option maxRecDepth 100000 in
set_option maxHeartbeats 2000000 in
theorem corenew_no {id lines f s o : Int} (ad : Option Addr) (n cap : Nat) (w : World) (h : ¬ (0 ≤ id ∧ id < 4 ∧ n ≤ 1024 ∧ 2 ≤ lines ∧ lines ≤ 64 ∧ MayB f s o)) :
    Calls Try.prog 4 #[.int .i64 id, .slice ad n cap, bud f s o, .int .i64 lines] w fun e w' => e = .returned (.tuple #[.pointer none, .int .i64 2]) ∧ Below w.heap.size w w' := by
  have HB := Lib.hid ((Below.refl _ w).alloc (Nat.le_refl _) (.cells #[.int .i64 f, .int .i64 s, .int .i64 o] 24))
  by_cases h1 : id < 0
  · have g1 : decide (id < 0) = true := by simp; omega
    clear h
    unfold bud
    go_enter Try.func4, Try.ntmps4
    go_wp2_with fail
    exact bodyPost_ret (results_tmp2 rfl _ _ _) rfl ⟨rfl, HB.out⟩
  have g1 : decide (id < 0) = false := by simp; omega
  by_cases h2 : 4 ≤ id
  · have g2 : decide (4 ≤ id) = true := by simp; omega
    have g2' : decide (id < 4) = false := by simp; omega
    clear h
    unfold bud
    go_enter Try.func4, Try.ntmps4
    go_wp2_with fail
    exact bodyPost_ret (results_tmp2 rfl _ _ _) rfl ⟨rfl, HB.out⟩
  have g2 : decide (4 ≤ id) = false := by simp; omega
  have g2' : decide (id < 4) = true := by simp; omega
  by_cases h3 : 1024 < n
  · have g3 : decide (1024 < (n : Int)) = true := by simp; omega
    clear h
    unfold bud
    go_enter Try.func4, Try.ntmps4
    go_wp2_with fail
    exact bodyPost_ret (results_tmp2 rfl _ _ _) rfl ⟨rfl, HB.out⟩
  have g3 : decide (1024 < (n : Int)) = false := by simp; omega
  by_cases h4 : lines < 2
  · have g4 : decide (lines < 2) = true := by simp; omega
    clear h
    unfold bud
    go_enter Try.func4, Try.ntmps4
    go_wp2_with fail
    exact bodyPost_ret (results_tmp2 rfl _ _ _) rfl ⟨rfl, HB.out⟩
  have g4 : decide (lines < 2) = false := by simp; omega
  by_cases h5 : 64 < lines
  · have g5 : decide (64 < lines) = true := by simp; omega
    clear h
    unfold bud
    go_enter Try.func4, Try.ntmps4
    go_wp2_with fail
    exact bodyPost_ret (results_tmp2 rfl _ _ _) rfl ⟨rfl, HB.out⟩
  have g5 : decide (64 < lines) = false := by simp; omega
  have hm : ¬ MayB f s o := fun hm => h ⟨by omega, by omega, by omega, by omega, by omega, hm⟩
  have HN := Lib.hid (fun V => new_no hm V); clear hm h
  unfold bud at *
  go_enter Try.func4, Try.ntmps4
  go_wp2_with (go_at_call 7; refine (HN.out _).mono ?_; rintro e w1 ⟨rfl, hb1⟩; refine Hid.out ?_)
  refine Lib.hid ?_
  have HF := Lib.hid (HB.out.trans (hb1.mono (by simp))); clear hb1
  go_wp2_with fail
  exact bodyPost_ret (results_tmp2 rfl _ _ _) rfl ⟨rfl, HF.out⟩

end Go.Proofs.Ytpgfcjfmhgifiaa
