/- A code that is run alone: the document's Play. Conditions: those stated in each theorem. -/
import Derived.Test.YthjbcpgncnchoaaLbU
import Derived.Test.YthjbcpgncnchoaaCame
import Derived.Deep.CutBlock
namespace Go.Proofs.Ythjbcpgncnchoaa
open Go.RowKit Go.BigFrame

def runC (fine : Bool) (x : L8) (n : Int) : List Value := [.bool fine, .int .u64 x.x0, .int .u64 x.x1, .int .u64 x.x2, .int .u64 x.x3, .int .u64 x.x4, .int .u64 x.x5, .int .u64 x.x6, .int .u64 x.x7, .int .i64 n]
def runV (fine : Bool) (x : L8) (n : Int) : Value := .agg (runC fine x n).toArray
theorem Try.sizeRun : (Try.prog.info? 65).map (·.size) = some 10 := by kernel_rfl
theorem oneRun (f : Bool) (x : L8) (n : Int) : ((runC f x n).toArray).all (·.oneCell') = true := by simp [runC, Value.oneCell']
theorem Try.loadRun {w : World} {b : Nat} (f : Bool) (x : L8) (n : Int) (h : Holds w b 65 (runC f x n)) : (loadVar 65 ⟨b, 0, none⟩).run Try.prog w = .ok (runV f x n) w :=
  run_loadVar_mid w b 0 65 (runC f x n) _ h.full Try.underlying65 rfl Try.sizeRun
theorem runC_set {f : Bool} {x : L8} {n : Int} {k : Nat} (h : k < 8) (v : Int) : (runC f x n).set (1 + k) (.int .u64 v) = runC f (x.set k v) n := by
  match k, h with
  | 0, _ => rfl | 1, _ => rfl | 2, _ => rfl | 3, _ => rfl | 4, _ => rfl | 5, _ => rfl | 6, _ => rfl | 7, _ => rfl
/-- A run under way: r its box, o the answer's, mb memory's. -/
structure Py (w W : World) (r o mb : Nat) (s : Ps) : Prop where
  br : Holds W r 65 (runC false s.regs s.steps)
  bo : Holds W o 65 (runC false L8.zero 0)
  bm : Holds W mb 24 (memC s.mem)
  tch : Tch (· = mb) w W
  nr : w.heap.size ≤ r ∧ w.heap.size ≤ o ∧ r ≠ o
section
variable {w W V : World} {r o mb : Nat} {s : Ps}
theorem Py.next (h : Py w W r o mb s) (hb : Below W.heap.size W V) : Py w V r o mb s :=
  ⟨h.br.below hb, h.bo.below hb, h.bm.below hb, h.tch.trans (Tch.of_idle hb), h.nr⟩
theorem Py.cong {s' : Ps} (h : Py w W r o mb s) (h1 : s'.regs = s.regs) (h2 : s'.steps = s.steps) (h3 : s'.mem = s.mem) : Py w W r o mb s' :=
  ⟨by rw [h1, h2]; exact h.br, h.bo, by rw [h3]; exact h.bm, h.tch, h.nr⟩
theorem Py.step (h : Py w W r o mb s) (n : Int) (s' : Ps) (h1 : s'.regs = s.regs) (h2 : n = s'.steps) (h3 : s'.mem = s.mem) : Py w (W.setCell ⟨r, 9, none⟩ (.int .i64 n)) r o mb s' :=
  ⟨by rw [h1, ← h2]; exact h.br.set 9 _, h.bo.other (Ne.symm h.nr.2.2) _, by rw [h3]; exact h.bm.other (h.bm.ne h.br (by decide)) _, h.tch.setCell (p := ⟨r, 9, none⟩) (.inr h.nr.1) _, h.nr⟩
theorem Py.reg (h : Py w W r o mb s) {k : Nat} (hk : k < 8) (v : Int) (s' : Ps) (h1 : s'.regs = s.regs.set k v) (h2 : s'.steps = s.steps) (h3 : s'.mem = s.mem) : Py w (W.setCell ⟨r, 1 + k, none⟩ (.int .u64 v)) r o mb s' :=
  ⟨by rw [h1, h2, ← runC_set hk]; exact h.br.set (1 + k) _, h.bo.other (Ne.symm h.nr.2.2) _, by rw [h3]; exact h.bm.other (h.bm.ne h.br (by decide)) _, h.tch.setCell (p := ⟨r, 1 + k, none⟩) (.inr h.nr.1) _, h.nr⟩
theorem Py.put (h : Py w W r o mb s) (k : Nat) (v : Int) (s' : Ps) (h1 : s'.regs = s.regs) (h2 : s'.steps = s.steps) (h3 : s'.mem = s.mem.set k v) : Py w (W.setCell ⟨mb, k, none⟩ (.int .u64 v)) r o mb s' :=
  ⟨by rw [h1, h2]; exact h.br.other (Ne.symm (h.bm.ne h.br (by decide))) _, h.bo.other (Ne.symm (h.bm.ne h.bo (by decide))) _, by rw [h3, memC_set]; exact h.bm.set k _, h.tch.setCell (p := ⟨mb, k, none⟩) (.inl rfl) _, h.nr⟩
/-- An instruction's cells, later. -/
theorem rows_later {a : Option Addr} {l : List In} (h : RowsIn w a 5 In.cells l) (ht : Tch (· = mb) w W) (hn : ∀ ad, a = some ad → ad.block ≠ mb) {k : Nat} {x : In} (hx : l[k]? = some x) : ∃ q c, a = some ⟨q, c, none⟩ ∧ W.rangeAt q (c + k * 5) x.cells := by
  obtain ⟨q, c, rfl, hq, hr⟩ := h.row hx
  exact ⟨q, c, rfl, fun i v hv => (World.cell?_of_block (a := ⟨q, c + k * 5 + i, none⟩) (ht.block q hq (hn _ rfl))).trans (hr i v hv)⟩
end

/-- What a run leaves. -/
def PlO (w w' : World) (mb : Nat) (R : Ro) : Prop := Holds w' mb 24 (memC R.mem) ∧ Tch (· = mb) w w'
section
variable {w W V : World} {r o mb : Nat} {s : Ps}
/-- The cells of a run under way. -/
theorem Py.cells (h : Py w W r o mb s) : W.cell? ⟨r, 0, none⟩ = some (.bool false) ∧ W.cell? ⟨r, 1, none⟩ = some (.int .u64 s.regs.x0) ∧ W.cell? ⟨r, 2, none⟩ = some (.int .u64 s.regs.x1) ∧ W.cell? ⟨r, 3, none⟩ = some (.int .u64 s.regs.x2) ∧ W.cell? ⟨r, 4, none⟩ = some (.int .u64 s.regs.x3) ∧ W.cell? ⟨r, 5, none⟩ = some (.int .u64 s.regs.x4) ∧ W.cell? ⟨r, 6, none⟩ = some (.int .u64 s.regs.x5) ∧ W.cell? ⟨r, 7, none⟩ = some (.int .u64 s.regs.x6) ∧ W.cell? ⟨r, 8, none⟩ = some (.int .u64 s.regs.x7) ∧ W.cell? ⟨r, 9, none⟩ = some (.int .i64 s.steps) :=
  ⟨h.br.cell (i := 0) rfl, h.br.cell (i := 1) rfl, h.br.cell (i := 2) rfl, h.br.cell (i := 3) rfl, h.br.cell (i := 4) rfl, h.br.cell (i := 5) rfl, h.br.cell (i := 6) rfl, h.br.cell (i := 7) rfl, h.br.cell (i := 8) rfl, h.br.cell (i := 9) rfl⟩
theorem Py.there (h : Py w W r o mb s) : W.there o 0 10 := h.bo.there (o := 0) (n := 10) (Nat.le_refl _)
/-- The answer is laid. -/
theorem Py.fin (h : Py w W r o mb s) (f : Bool) (x : L8) (n : Int) : Holds (W.setCells o 0 (runC f x n)) o 65 (runC f x n) ∧ Holds (W.setCells o 0 (runC f x n)) mb 24 (memC s.mem) ∧ Tch (· = mb) w (W.setCells o 0 (runC f x n)) :=
  ⟨h.bo.sets (runC f x n) 0, Holds.others (h.bm.ne h.bo (by decide)) _ _ h.bm, Tch.setCells (.inr h.nr.2.1) _ _ h.tch⟩
theorem Py.stop (h : Py w W r o mb s) (f : Bool) (x : L8) (n : Int) {R : Ro} (h1 : R.fine = f) (h2 : R.regs = x) (h3 : (R.steps : Int) = n) (h4 : R.mem = s.mem) : (Ending.returned (runV f x n) = .returned (runV R.fine R.regs R.steps)) ∧ PlO w (W.setCells o 0 (runC f x n)) mb R := by
  rw [h1, h2, h3]
  refine ⟨rfl, ?_⟩
  unfold PlO
  rw [h4]
  exact (h.fin f x n).2
end
theorem eff_laid {V : World} {N : Nat} (h : Holds V N 82 Ef.zero.cells) (ek en er ev ea : Int) : Holds (((((V.setCell ⟨N, 0, none⟩ (.int .i64 ek)).setCell ⟨N, 1, none⟩ (.int .i64 en)).setCell ⟨N, 2, none⟩ (.int .i64 er)).setCell ⟨N, 3, none⟩ (.int .u64 ev)).setCell ⟨N, 4, none⟩ (.int .u64 ea)) N 82 (Ef.cells ⟨ek, en, er, ev, ea⟩) :=
  (((((h.set 0 _).set 1 _).set 2 _).set 3 _).set 4 _)
theorem Py.fin2 {w W : World} {r o mb : Nat} {s : Ps} (h : Py w W r o mb s) (v : Value) (f : Bool) (x : L8) (n : Int) : Holds ((W.setCell ⟨r, 0, none⟩ v).setCells o 0 (runC f x n)) o 65 (runC f x n) ∧ Holds ((W.setCell ⟨r, 0, none⟩ v).setCells o 0 (runC f x n)) mb 24 (memC s.mem) ∧ Tch (· = mb) w ((W.setCell ⟨r, 0, none⟩ v).setCells o 0 (runC f x n)) :=
  ⟨(h.bo.other (Ne.symm h.nr.2.2) v).sets (runC f x n) 0, Holds.others (h.bm.ne h.bo (by decide)) _ _ (h.bm.other (h.bm.ne h.br (by decide)) v), Tch.setCells (.inr h.nr.2.1) _ _ (h.tch.setCell (p := ⟨r, 0, none⟩) (.inr h.nr.1) v)⟩
theorem eff_new (V : World) (ek en er ev ea : Int) : Holds (V.alloc (.cells #[.int .i64 ek, .int .i64 en, .int .i64 er, .int .u64 ev, .int .u64 ea] 82)) V.heap.size 82 (Ef.cells ⟨ek, en, er, ev, ea⟩) := Holds.new V 82 (Ef.cells ⟨ek, en, er, ev, ea⟩)
theorem eff_below {W V : World} (h : Below W.heap.size W V) (ek en er ev ea : Int) : Below W.heap.size W (((((V.setCell ⟨W.heap.size, 0, none⟩ (.int .i64 ek)).setCell ⟨W.heap.size, 1, none⟩ (.int .i64 en)).setCell ⟨W.heap.size, 2, none⟩ (.int .i64 er)).setCell ⟨W.heap.size, 3, none⟩ (.int .u64 ev)).setCell ⟨W.heap.size, 4, none⟩ (.int .u64 ea)) :=
  (((((h.setCell (Nat.le_refl _) _).setCell (Nat.le_refl _) _).setCell (Nat.le_refl _) _).setCell (Nat.le_refl _) _).setCell (Nat.le_refl _) _)
theorem below_in {W V : World} {o : Obj} (h : Below (W.alloc o).drew.heap.size (W.alloc o).drew V) : Below W.heap.size W V :=
  (below_drew1 ((Below.refl _ W).alloc (Nat.le_refl _) o)).trans (h.mono (by show W.heap.size ≤ (W.alloc o).heap.size; simp))
theorem below_out {W V : World} (h : Below W.drew.heap.size W.drew V) (o : Obj) : Below W.heap.size W (V.alloc o) :=
  ((below_drew1 (Below.refl _ W)).trans h).alloc h.size o
def stepsOf (r : Nat) (w : World) : Nat := (intOf ((w.cell? ⟨r, 9, none⟩).getD undef)).toNat
theorem Py.steps {w W : World} {r o mb : Nat} {s : Ps} (h : Py w W r o mb s) : stepsOf r W = s.steps := by
  unfold stepsOf
  rw [h.cells.2.2.2.2.2.2.2.2.2]
  simp [intOf]

set_option maxRecDepth 100000 in
set_option maxHeartbeats 16000000 in
theorem play_any (a : Option Addr) (ca : Nat) (l : List In) (mb : Nat) (s : Ps) (fr hi bl : Int) (most : Nat) (w : World) (ha : RowsIn w a 5 In.cells l) (hn : ∀ ad, a = some ad → ad.block ≠ mb) (hl : l.length ≤ 1024) (hm : Holds w mb 24 (memC s.mem)) (hlen : s.mem.length = 504) (hok : s.Ok) (hs0 : s.pc = 0 ∧ s.ins = false ∧ s.beg = 0 ∧ s.steps = 0) (hf : 0 ≤ fr ∧ fr ≤ 504) (hh : 0 ≤ hi ∧ hi ≤ 504) (hmo : most ≤ 1000000) :
    Calls Try.prog 34 #[.slice a l.length ca, .slice (some ⟨mb, 0, none⟩) 504 504, s.regs.val, .int .i64 fr, .int .i64 hi, .int .i64 bl, .int .i64 most] w fun e w' => e = .returned (runV (playP l fr hi bl most s).fine (playP l fr hi bl most s).regs (playP l fr hi bl most s).steps) ∧ PlO w w' mb (playP l fr hi bl most s) := by
  obtain ⟨R, hR⟩ : ∃ R, playP l fr hi bl most s = R := ⟨_, rfl⟩
  rw [hR]
  have hp0 : Py w (((w.alloc (.cells s.regs.cells.toArray 63)).alloc (.cells (runC false L8.zero 0).toArray 65)).alloc (.cells (runC false s.regs 0).toArray 65)) (w.heap.size + 1 + 1) (w.heap.size + 1) mb s :=
    ⟨by rw [show ((s.steps : Nat) : Int) = 0 by rw [hs0.2.2.2]; rfl]; exact newAt (by simp) _ _, (newAt (by simp) _ _).alloc _, ((hm.alloc _).alloc _).alloc _, (((Tch.refl _ w).alloc _).alloc _).alloc _, by omega, by omega, by omega⟩
  have HP0 := Lib.hid hp0; clear hp0
  have HR0 := Lib.hid hR; clear hR
  have Ha := Lib.hid ha; clear ha
  have Hn := Lib.hid hn; clear hn
  clear hm
  have Hok := Lib.hid hok; clear hok
  have Hs0 := Lib.hid hs0; clear hs0
  have Hlen := Lib.hid hlen; clear hlen
  have hu1 : IntKind.u64.wrap fr = fr := by rw [IntKind.wrap_u64]; omega
  have hu2 : IntKind.u64.wrap hi = hi := by rw [IntKind.wrap_u64]; omega
  have Hl := Lib.hid hl; clear hl
  go_enter Try.func34, Try.ntmps34
  unfold L8.val
  go_wp2_with fail
  change Code.wp _ _ _ _ (((w.alloc (.cells s.regs.cells.toArray 63)).alloc (.cells (runC false L8.zero 0).toArray 65)).alloc (.cells (runC false s.regs 0).toArray 65))
  generalize ((w.alloc (.cells s.regs.cells.toArray 63)).alloc (.cells (runC false L8.zero 0).toArray 65)).alloc (.cells (runC false s.regs 0).toArray 65) = W0 at *
  generalize hr : w.heap.size + 1 + 1 = r at *
  generalize ho : w.heap.size + 1 = o at *
  go_loopw [16, 17, 18] (fun u16 u17 u18 wr => ∃ (pc : Int) (regs : L8) (mem : List Int) (ins : Bool) (beg : Int) (steps : Nat), steps ≤ most ∧ u16 = .int .i64 pc ∧ u17 = .bool ins ∧ u18 = .int .i64 beg ∧ mem.length = 504 ∧ Ps.Ok ⟨pc, regs, mem, ins, beg, steps⟩ ∧ playP l fr hi bl (most - steps) ⟨pc, regs, mem, ins, beg, steps⟩ = R ∧ Py w wr r o mb ⟨pc, regs, mem, ins, beg, steps⟩) (fun _ _ _ wr => most - stepsOf r wr)
  case atStart => exact ⟨s.pc, s.regs, s.mem, s.ins, s.beg, s.steps, by rw [Hs0.out.2.2.2]; omega, by rw [Hs0.out.1], by rw [Hs0.out.2.1], by rw [Hs0.out.2.2.1], Hlen.out, Hok.out, by have e : most - s.steps = most := (by rw [Hs0.out.2.2.2]; omega); rw [e]; exact HR0.out, HP0.out⟩
  case round =>
    clear HP0 HR0 Hok Hs0 Hlen
    obtain ⟨pc, regs, mem, ins, beg, steps, hst, rfl, rfl, rfl, hlen, hok, hR, hpy⟩ := hrel
    have hms := hpy.steps
    simp only at hms
    obtain ⟨x0, x1, x2, x3, x4, x5, x6, x7, x8, x9⟩ := hpy.cells
    simp only at x1 x2 x3 x4 x5 x6 x7 x8 x9
    have hth := hpy.there
    have HP := Lib.hid hpy; clear hpy
    have HR := Lib.hid hR; clear hR
    have Hok := Lib.hid hok; clear hok
    have Hlen := Lib.hid hlen; clear hlen
    have Hth := Lib.hid hth; clear hth
    have Hms := Lib.hid hms; clear hms
    by_cases hlt : pc < l.length
    · have d1 : decide (pc < (l.length : Int)) = true := by simpa using hlt
      by_cases hse : steps = most
      · have d2 : decide ((steps : Int) < (most : Int)) = false := by simp; omega
        have d2' : decide ((most : Int) ≤ (steps : Int)) = true := by simp; omega
        have d2n : decide (most ≤ steps) = true := by simp; omega
        subst hse
        go_wp2_with (refine wpList_store_mid rfl 65 (.tmp 14) (.tmp 34) rfl o 0 (runC false regs steps).toArray rfl rfl ?_ Try.sizeRun (oneRun _ _ _) ?_; exact Hth.out; change wpList _ _ _ _ _ (World.setCells wr o 0 (runC false regs steps)))
        have hRR : R = ⟨false, regs, steps, mem⟩ := by
          rw [← HR.out, Nat.sub_self]
          unfold playP
          rw [if_pos hlt]
        subst hRR
        exact bodyPost_ret (results_c rfl rfl (Try.loadRun false regs steps (HP.out.fin false regs steps).1)) rfl (HP.out.stop false regs steps rfl rfl rfl rfl)
      · have d2 : decide ((steps : Int) < (most : Int)) = true := by simp; omega
        have d2' : decide ((most : Int) ≤ (steps : Int)) = false := by simp; omega
        have d2n : decide (most ≤ steps) = false := by simp; omega
        by_cases hneg : pc < 0
        · have d3 : decide (pc < 0) = true := by simpa using hneg
          go_wp2_with (refine wpList_store_mid rfl 65 (.tmp 14) (.tmp 34) rfl o 0 (runC false regs steps).toArray rfl rfl ?_ Try.sizeRun (oneRun _ _ _) ?_; exact Hth.out; change wpList _ _ _ _ _ (World.setCells wr o 0 (runC false regs steps)))
          have hRR : R = ⟨false, regs, steps, mem⟩ := by
            rw [← HR.out]
            obtain ⟨f, hf1⟩ : ∃ f, most - steps = f + 1 := ⟨most - steps - 1, by omega⟩
            rw [hf1]
            unfold playP
            rw [if_pos hlt, if_pos hneg]
          subst hRR
          exact bodyPost_ret (results_c rfl rfl (Try.loadRun false regs steps (HP.out.fin false regs steps).1)) rfl (HP.out.stop false regs steps rfl rfl rfl rfl)
        · have d3 : decide (pc < 0) = false := by simpa using hneg
          obtain ⟨n, rfl⟩ : ∃ n : Nat, pc = n := ⟨pc.toNat, by omega⟩
          have hbn : (0 : Int) ≤ n ∧ (n : Int) < l.length := by omega
          have hpos : Hid (most - steps = (most - (steps + 1)) + 1) := Lib.hid (by omega)
          obtain ⟨x, hx⟩ : ∃ x, l[n]? = some x := ⟨l[n], List.getElem?_eq_getElem (by omega)⟩
          have hstep : playP l fr hi bl (most - steps) ⟨n, regs, mem, ins, beg, steps⟩ = match effP (doP x regs n) fr hi ⟨n, regs, mem, ins, beg, steps⟩ with | none => ⟨false, regs, steps + 1, mem⟩ | some s' => playP l fr hi bl (most - (steps + 1)) s' := by
            rw [hpos.out]
            have hx2 : l.getD (n : Int).toNat In.zero = x := by simp [List.getD, hx]
            conv => lhs; unfold playP
            simp only
            rw [if_pos hlt, if_neg hneg, hx2]
            cases effP (doP x regs n) fr hi ⟨n, regs, mem, ins, beg, steps⟩ <;> rfl
          rw [HR.out] at hstep
          have hu := doP_u (i := x) (pc := n) Hok.out.regs
          have HDo := Lib.hid (fun V => rdo_any x regs n V Hok.out.regs)
          have hwst : IntKind.i64.wrap ((steps : Int) + 1) = (steps : Int) + 1 := IntWalk.i64_in _ (by omega)
          have x9f := HP.out.br.free 9
          have HS1 := Lib.hid (HP.out.step ((steps : Int) + 1) ⟨n, regs, mem, ins, beg, steps + 1⟩ rfl (by simp) rfl)
          go_upto_region 9 with (fail)
          clear x0 x1 x2 x3 x4 x5 x6 x7 x8 x9 x9f
          obtain ⟨q, c, rfl, hrow⟩ := rows_later Ha.out HS1.out.tch Hn.out hx
          obtain ⟨op, xa, xb, xc, imm⟩ := x
          generalize hW1 : wr.setCell ⟨r, 9, none⟩ (.int .i64 ((steps : Int) + 1)) = W1 at *
          have c0 : W1.cell? ⟨q, c + n * 5, none⟩ = some (.int .i64 op) := hrow 0 _ rfl
          have c1 : W1.cell? ⟨q, c + n * 5 + 1, none⟩ = some (.int .i64 xa) := hrow 1 _ rfl
          have c2 : W1.cell? ⟨q, c + n * 5 + 2, none⟩ = some (.int .i64 xb) := hrow 2 _ rfl
          have c3 : W1.cell? ⟨q, c + n * 5 + 3, none⟩ = some (.int .i64 xc) := hrow 3 _ rfl
          have c4 : W1.cell? ⟨q, c + n * 5 + 4, none⟩ = some (.int .i64 imm) := hrow 4 _ rfl
          have hqW : q < W1.heap.size := World.block_lt_of_cell? _ _ c0
          have hrW : r < W1.heap.size := HS1.out.br.lt
          obtain ⟨y0, y1, y2, y3, y4, y5, y6, y7, y8, y9⟩ := HS1.out.cells
          simp only at y1 y2 y3 y4 y5 y6 y7 y8
          clear hrow hx y0 y9
          have hW1r : stepsOf r W1 = steps + 1 := HS1.out.steps
          clear hW1
          simp only [In.val, L8.val] at HDo
          have hev : Ef.value (doP ⟨op, xa, xb, xc, imm⟩ regs n) = .agg #[.int .i64 (doP ⟨op, xa, xb, xc, imm⟩ regs n).kind, .int .i64 (doP ⟨op, xa, xb, xc, imm⟩ regs n).next, .int .i64 (doP ⟨op, xa, xb, xc, imm⟩ regs n).reg, .int .u64 (doP ⟨op, xa, xb, xc, imm⟩ regs n).val, .int .u64 (doP ⟨op, xa, xb, xc, imm⟩ regs n).addr] := rfl
          rw [hev] at HDo
          clear hev
          obtain ⟨hu1', hu2', hu3'⟩ := hu
          generalize doP ⟨op, xa, xb, xc, imm⟩ regs n = e at *
          obtain ⟨ek, en, er, ev, ea⟩ := e
          simp only at HDo hu1' hu2' hu3'
          have Hu3 := Lib.hid hu3'; clear hu3'
          have Hstep := Lib.hid hstep; clear hstep
          go_cut [19] from 39 to 46 (fun o19 wx => ∃ qe : Nat, o19 = .pointer (some ⟨qe, 0, none⟩) ∧ Holds wx qe 82 (Ef.cells ⟨ek, en, er, ev, ea⟩) ∧ Py w wx r o mb ⟨n, regs, mem, ins, beg, steps + 1⟩)
          case first =>
            go_region_law (go_simp; go_at_call 61; (with_reducible refine (HDo.out _).mono ?_); rintro e V ⟨rfl, hb⟩; have HV := Lib.hid hb; (try (have hz := ((Holds.new W1 82 Ef.zero.cells).drew).below hb; have z0 := hz.cell (i := 0) rfl; have z1 := hz.cell (i := 1) rfl; have z2 := hz.cell (i := 2) rfl; have z3 := hz.cell (i := 3) rfl; have z4 := hz.cell (i := 4) rfl; have f0 := hz.free 0; have f1 := hz.free 1; have f2 := hz.free 2; have f3 := hz.free 3; have f4 := hz.free 4; have Hz := Lib.hid hz; clear hz)); clear hb)
            all_goals go_wp2_with fail
            all_goals go_meet
            all_goals (case rel => first | (with_reducible exact ⟨_, rfl, eff_new V ek en er ev ea, HS1.out.next (below_out HV.out _)⟩) | (with_reducible exact ⟨_, rfl, eff_laid Hz.out ek en er ev ea, HS1.out.next (eff_below (below_in HV.out) ek en er ev ea)⟩))
          case rest =>
          obtain ⟨qe, rfl, hq, hp⟩ := hcut
          clear c0 c1 c2 c3 c4 y1 y2 y3 y4 y5 y6 y7 y8 hW1r HDo HS1
          have e0 : wc.cell? ⟨qe, 0, none⟩ = some (.int .i64 ek) := hq.cell (i := 0) rfl
          have e1 : wc.cell? ⟨qe, 1, none⟩ = some (.int .i64 en) := hq.cell (i := 1) rfl
          have e2 : wc.cell? ⟨qe, 2, none⟩ = some (.int .i64 er) := hq.cell (i := 2) rfl
          have e3 : wc.cell? ⟨qe, 3, none⟩ = some (.int .u64 ev) := hq.cell (i := 3) rfl
          have e4 : wc.cell? ⟨qe, 4, none⟩ = some (.int .u64 ea) := hq.cell (i := 4) rfl
          have hqr : qe ≠ r := hq.ne hp.br (by decide)
          have hqm : qe ≠ mb := hq.ne hp.bm (by decide)
          obtain ⟨x0, x1, x2, x3, x4, x5, x6, x7, x8, x9⟩ := hp.cells
          simp only [Int.natCast_add, Int.natCast_one] at x1 x2 x3 x4 x5 x6 x7 x8 x9
          have hth := hp.there
          have HTh := Lib.hid hth; clear hth
          have hps := hp.steps
          simp only at hps
          have HP1 := Lib.hid hp; clear hp
          clear hq
          by_cases k1 : ek = 1
          · subst k1
            obtain ⟨kr, hkr, hk8⟩ : ∃ kr : Nat, er = kr ∧ kr < 8 := ⟨er.toNat, by have := Hu3.out (.inl rfl); omega, by have := Hu3.out (.inl rfl); omega⟩
            subst hkr
            have hbk : (0 : Int) ≤ kr ∧ (kr : Int) < 8 := by omega
            have hcr : wc.cell? ⟨r, 1 + kr, none⟩ = some (.int .u64 (regs.get kr)) := by
              refine HP1.out.br.cell (i := 1 + kr) ?_
              show (runC false regs _)[1 + kr]? = _
              have := L8.cell_get regs hk8
              match kr, hk8 with
              | 0, _ => rfl | 1, _ => rfl | 2, _ => rfl | 3, _ => rfl | 4, _ => rfl | 5, _ => rfl | 6, _ => rfl | 7, _ => rfl
            have hfr := HP1.out.br.free (1 + kr)
            have hpy := HP1.out.reg hk8 ev ⟨en, regs.set kr ev, mem, ins, beg, steps + 1⟩ rfl rfl rfl
            have HPY := Lib.hid hpy; clear hpy
            go_wp2_with fail
            go_roundw
            case rel =>
              have h := Hstep.out
              rw [show effP ⟨1, en, kr, ev, ea⟩ fr hi ⟨n, regs, mem, ins, beg, steps⟩ = some ⟨en, regs.set kr ev, mem, ins, beg, steps + 1⟩ from by simp [effP]] at h
              have h2 : playP l fr hi bl (most - (steps + 1)) ⟨en, regs.set kr ev, mem, ins, beg, steps + 1⟩ = R := h.symm
              clear h
              refine ⟨en, regs.set kr ev, mem, ins, beg, steps + 1, by omega, rfl, rfl, rfl, Hlen.out, ⟨L8.Ok.set Hok.out.regs kr hu1', Hok.out.mem, ⟨by have := Hok.out.beg.1; simp only at this ⊢; omega, by have := Hok.out.beg.2; simp only at this ⊢; omega⟩⟩, h2, ?_⟩
              with_reducible exact HPY.out
            case measure =>
              rw [Hms.out]
              have h := (HPY.out).steps
              simp only at h
              rw [h]
              omega
          · by_cases k2 : ek = 2
            · subst k2
              have HPY := Lib.hid (HP1.out.cong (s' := ⟨en, regs, mem, ins, beg, steps + 1⟩) rfl rfl rfl)
              go_wp2_with fail
              go_roundw
              case rel =>
                have h := Hstep.out
                rw [show effP ⟨2, en, er, ev, ea⟩ fr hi ⟨n, regs, mem, ins, beg, steps⟩ = some ⟨en, regs, mem, ins, beg, steps + 1⟩ from by simp [effP]] at h
                have h2 : playP l fr hi bl (most - (steps + 1)) ⟨en, regs, mem, ins, beg, steps + 1⟩ = R := h.symm
                clear h
                refine ⟨en, regs, mem, ins, beg, steps + 1, by omega, rfl, rfl, rfl, Hlen.out, ⟨Hok.out.regs, Hok.out.mem, ⟨by have := Hok.out.beg.1; simp only at this ⊢; omega, by have := Hok.out.beg.2; simp only at this ⊢; omega⟩⟩, h2, ?_⟩
                with_reducible exact HPY.out
              case measure =>
                rw [Hms.out]
                have h := (HPY.out).steps
                simp only at h
                rw [h]
                omega
            · by_cases k3 : ek = 3
              · subst k3
                cases hins : ins with
                | false =>
                  subst hins
                  go_wp2_with (refine wpList_store_mid rfl 65 (.tmp 14) (.tmp 87) rfl o 0 (runC false regs ((steps : Int) + 1)).toArray rfl rfl ?_ Try.sizeRun (oneRun _ _ _) ?_; exact HTh.out; change wpList _ _ _ _ _ (World.setCells wc o 0 (runC false regs ((steps : Int) + 1))))
                  have hRR : R = ⟨false, regs, steps + 1, mem⟩ := by
                    have h := Hstep.out
                    rw [show effP ⟨3, en, er, ev, ea⟩ fr hi ⟨n, regs, mem, false, beg, steps⟩ = none from by simp [effP]] at h
                    exact h
                  subst hRR
                  exact bodyPost_ret (results_c rfl rfl (Try.loadRun false regs ((steps : Int) + 1) (HP1.out.fin false regs ((steps : Int) + 1)).1)) rfl (HP1.out.stop false regs ((steps : Int) + 1) rfl rfl (by simp) rfl)
                | true =>
                  subst hins
                  by_cases g1 : ea < fr
                  · have f1 : decide (ea < fr) = true := by simpa using g1
                    have f1' : decide (fr ≤ ea) = false := by simp; omega
                    go_wp2_with (refine wpList_store_mid rfl 65 (.tmp 14) (.tmp 87) rfl o 0 (runC false regs ((steps : Int) + 1)).toArray rfl rfl ?_ Try.sizeRun (oneRun _ _ _) ?_; exact HTh.out; change wpList _ _ _ _ _ (World.setCells wc o 0 (runC false regs ((steps : Int) + 1))))
                    have hRR : R = ⟨false, regs, steps + 1, mem⟩ := by
                      have h := Hstep.out
                      rw [show effP ⟨3, en, er, ev, ea⟩ fr hi ⟨n, regs, mem, true, beg, steps⟩ = none from by simp [effP, g1]] at h
                      exact h
                    subst hRR
                    exact bodyPost_ret (results_c rfl rfl (Try.loadRun false regs ((steps : Int) + 1) (HP1.out.fin false regs ((steps : Int) + 1)).1)) rfl (HP1.out.stop false regs ((steps : Int) + 1) rfl rfl (by simp) rfl)
                  · have f1 : decide (ea < fr) = false := by simpa using g1
                    have f1' : decide (fr ≤ ea) = true := by simp; omega
                    by_cases g2 : hi ≤ ea
                    · have f2 : decide (hi ≤ ea) = true := by simpa using g2
                      have f2' : decide (ea < hi) = false := by simp; omega
                      go_wp2_with (refine wpList_store_mid rfl 65 (.tmp 14) (.tmp 87) rfl o 0 (runC false regs ((steps : Int) + 1)).toArray rfl rfl ?_ Try.sizeRun (oneRun _ _ _) ?_; exact HTh.out; change wpList _ _ _ _ _ (World.setCells wc o 0 (runC false regs ((steps : Int) + 1))))
                      have hRR : R = ⟨false, regs, steps + 1, mem⟩ := by
                        have h := Hstep.out
                        rw [show effP ⟨3, en, er, ev, ea⟩ fr hi ⟨n, regs, mem, true, beg, steps⟩ = none from by simp [effP, g2]] at h
                        exact h
                      subst hRR
                      exact bodyPost_ret (results_c rfl rfl (Try.loadRun false regs ((steps : Int) + 1) (HP1.out.fin false regs ((steps : Int) + 1)).1)) rfl (HP1.out.stop false regs ((steps : Int) + 1) rfl rfl (by simp) rfl)
                    · have f2 : decide (hi ≤ ea) = false := by simpa using g2
                      have f2' : decide (ea < hi) = true := by simp; omega
                      have g3 : ¬ (504 ≤ ea) := by omega
                      have f3 : decide (504 ≤ ea) = false := by simpa using g3
                      have f3' : decide (ea < 504) = true := by simp; omega
                      obtain ⟨ka, hka⟩ : ∃ ka : Nat, ea = ka := ⟨ea.toNat, by unfold U64 at hu2'; omega⟩
                      subst hka
                      have hba : (0 : Int) ≤ ka ∧ (ka : Int) < 504 := by omega
                      have hkm : ka < mem.length := by have := Hlen.out; omega
                      have hcm : wc.cell? ⟨mb, ka, none⟩ = some (.int .u64 (mem.getD ka 0)) := HP1.out.bm.cell (i := ka) (memC_at hkm)
                      have hfm := HP1.out.bm.free ka
                      obtain ⟨kr, hkr, hk8⟩ : ∃ kr : Nat, er = kr ∧ kr < 8 := ⟨er.toNat, by have := Hu3.out (.inr rfl); omega, by have := Hu3.out (.inr rfl); omega⟩
                      subst hkr
                      have hbk : (0 : Int) ≤ kr ∧ (kr : Int) < 8 := by omega
                      have hcr : wc.cell? ⟨r, 1 + kr, none⟩ = some (.int .u64 (regs.get kr)) := by
                        refine HP1.out.br.cell (i := 1 + kr) ?_
                        show (runC false regs _)[1 + kr]? = _
                        match kr, hk8 with
                        | 0, _ => rfl | 1, _ => rfl | 2, _ => rfl | 3, _ => rfl | 4, _ => rfl | 5, _ => rfl | 6, _ => rfl | 7, _ => rfl
                      have hfr := HP1.out.br.free (1 + kr)
                      have hgu : U64 (mem.getD ka 0) := Hok.out.mem _ (by simp [List.getD, List.getElem?_eq_getElem hkm])
                      have HPY := Lib.hid ((HP1.out.reg hk8 (mem.getD ka 0) ⟨en, regs.set kr (mem.getD ka 0), mem, true, beg, steps + 1⟩ rfl rfl rfl).next (below_drew1 (Below.refl _ _)))
                      have hok1 : Ps.Ok ⟨en, regs.set kr (mem.getD ka 0), mem, true, beg, steps + 1⟩ := ⟨L8.Ok.set Hok.out.regs kr hgu, Hok.out.mem, ⟨by have := Hok.out.beg.1; simp only at this ⊢; omega, by have := Hok.out.beg.2; simp only at this ⊢; omega⟩⟩
                      have HOk1 := Lib.hid hok1; clear hok1
                      have he3 : effP ⟨3, en, kr, ev, ka⟩ fr hi ⟨n, regs, mem, true, beg, steps⟩ = some ⟨en, regs.set kr (mem.getD ka 0), mem, true, beg, steps + 1⟩ := by
                        unfold effP
                        rw [if_neg (by simp), if_neg (by simp), if_pos (.inl rfl), if_neg (by simp; have := Hlen.out; omega), if_pos rfl]
                        simp [List.getD]
                      generalize mem.getD ka 0 = gv at *
                      go_upto_region 20 with (fail)
                      go_still_tail 9, (by kernel_rfl)
                      change wpList _ _ _ _ _ wc.drew
                      go_wp2
                      go_roundw
                      case rel =>
                        have h := Hstep.out
                        rw [he3] at h
                        have h2 : playP l fr hi bl (most - (steps + 1)) ⟨en, regs.set kr gv, mem, true, beg, steps + 1⟩ = R := h.symm
                        clear h
                        refine ⟨en, regs.set kr gv, mem, true, beg, steps + 1, by omega, rfl, rfl, rfl, Hlen.out, HOk1.out, h2, ?_⟩
                        with_reducible exact HPY.out
                      case measure =>
                        rw [Hms.out]
                        have h := (HPY.out).steps
                        simp only at h
                        rw [h]
                        omega
              · by_cases k4 : ek = 4
                · subst k4
                  cases hins : ins with
                  | false =>
                    subst hins
                    go_wp2_with (refine wpList_store_mid rfl 65 (.tmp 14) (.tmp 87) rfl o 0 (runC false regs ((steps : Int) + 1)).toArray rfl rfl ?_ Try.sizeRun (oneRun _ _ _) ?_; exact HTh.out; change wpList _ _ _ _ _ (World.setCells wc o 0 (runC false regs ((steps : Int) + 1))))
                    have hRR : R = ⟨false, regs, steps + 1, mem⟩ := by
                      have h := Hstep.out
                      rw [show effP ⟨4, en, er, ev, ea⟩ fr hi ⟨n, regs, mem, false, beg, steps⟩ = none from by simp [effP]] at h
                      exact h
                    subst hRR
                    exact bodyPost_ret (results_c rfl rfl (Try.loadRun false regs ((steps : Int) + 1) (HP1.out.fin false regs ((steps : Int) + 1)).1)) rfl (HP1.out.stop false regs ((steps : Int) + 1) rfl rfl (by simp) rfl)
                  | true =>
                    subst hins
                    by_cases g1 : ea < fr
                    · have f1 : decide (ea < fr) = true := by simpa using g1
                      have f1' : decide (fr ≤ ea) = false := by simp; omega
                      go_wp2_with (refine wpList_store_mid rfl 65 (.tmp 14) (.tmp 87) rfl o 0 (runC false regs ((steps : Int) + 1)).toArray rfl rfl ?_ Try.sizeRun (oneRun _ _ _) ?_; exact HTh.out; change wpList _ _ _ _ _ (World.setCells wc o 0 (runC false regs ((steps : Int) + 1))))
                      have hRR : R = ⟨false, regs, steps + 1, mem⟩ := by
                        have h := Hstep.out
                        rw [show effP ⟨4, en, er, ev, ea⟩ fr hi ⟨n, regs, mem, true, beg, steps⟩ = none from by simp [effP, g1]] at h
                        exact h
                      subst hRR
                      exact bodyPost_ret (results_c rfl rfl (Try.loadRun false regs ((steps : Int) + 1) (HP1.out.fin false regs ((steps : Int) + 1)).1)) rfl (HP1.out.stop false regs ((steps : Int) + 1) rfl rfl (by simp) rfl)
                    · have f1 : decide (ea < fr) = false := by simpa using g1
                      have f1' : decide (fr ≤ ea) = true := by simp; omega
                      by_cases g2 : hi ≤ ea
                      · have f2 : decide (hi ≤ ea) = true := by simpa using g2
                        have f2' : decide (ea < hi) = false := by simp; omega
                        go_wp2_with (refine wpList_store_mid rfl 65 (.tmp 14) (.tmp 87) rfl o 0 (runC false regs ((steps : Int) + 1)).toArray rfl rfl ?_ Try.sizeRun (oneRun _ _ _) ?_; exact HTh.out; change wpList _ _ _ _ _ (World.setCells wc o 0 (runC false regs ((steps : Int) + 1))))
                        have hRR : R = ⟨false, regs, steps + 1, mem⟩ := by
                          have h := Hstep.out
                          rw [show effP ⟨4, en, er, ev, ea⟩ fr hi ⟨n, regs, mem, true, beg, steps⟩ = none from by simp [effP, g2]] at h
                          exact h
                        subst hRR
                        exact bodyPost_ret (results_c rfl rfl (Try.loadRun false regs ((steps : Int) + 1) (HP1.out.fin false regs ((steps : Int) + 1)).1)) rfl (HP1.out.stop false regs ((steps : Int) + 1) rfl rfl (by simp) rfl)
                      · have f2 : decide (hi ≤ ea) = false := by simpa using g2
                        have f2' : decide (ea < hi) = true := by simp; omega
                        have g3 : ¬ (504 ≤ ea) := by omega
                        have f3 : decide (504 ≤ ea) = false := by simpa using g3
                        have f3' : decide (ea < 504) = true := by simp; omega
                        obtain ⟨ka, hka⟩ : ∃ ka : Nat, ea = ka := ⟨ea.toNat, by unfold U64 at hu2'; omega⟩
                        subst hka
                        have hba : (0 : Int) ≤ ka ∧ (ka : Int) < 504 := by omega
                        have hkm : ka < mem.length := by have := Hlen.out; omega
                        have hcm : wc.cell? ⟨mb, ka, none⟩ = some (.int .u64 (mem.getD ka 0)) := HP1.out.bm.cell (i := ka) (memC_at hkm)
                        have hfm := HP1.out.bm.free ka
                        have HPY := Lib.hid (HP1.out.put ka ev ⟨en, regs, mem.set ka ev, true, beg, steps + 1⟩ rfl rfl rfl)
                        have hlm : (mem.set ka ev).length = 504 := by rw [List.length_set]; exact Hlen.out
                        have HLm := Lib.hid hlm; clear hlm
                        have hok1 : Ps.Ok ⟨en, regs, mem.set ka ev, true, beg, steps + 1⟩ := ⟨Hok.out.regs, fun v hv => by rcases List.mem_or_eq_of_mem_set hv with h | h; exact Hok.out.mem v h; rw [h]; exact hu1', ⟨by have := Hok.out.beg.1; simp only at this ⊢; omega, by have := Hok.out.beg.2; simp only at this ⊢; omega⟩⟩
                        have HOk1 := Lib.hid hok1; clear hok1
                        have he4 : effP ⟨4, en, er, ev, ka⟩ fr hi ⟨n, regs, mem, true, beg, steps⟩ = some ⟨en, regs, mem.set ka ev, true, beg, steps + 1⟩ := by
                          unfold effP
                          rw [if_neg (by simp), if_neg (by simp), if_pos (.inr rfl), if_neg (by simp; have := Hlen.out; omega), if_neg (by simp)]
                          simp
                        go_wp2_with fail
                        go_roundw
                        case rel =>
                          have h := Hstep.out
                          rw [he4] at h
                          have h2 : playP l fr hi bl (most - (steps + 1)) ⟨en, regs, mem.set ka ev, true, beg, steps + 1⟩ = R := h.symm
                          clear h
                          refine ⟨en, regs, mem.set ka ev, true, beg, steps + 1, by omega, rfl, rfl, rfl, HLm.out, HOk1.out, h2, ?_⟩
                          with_reducible exact HPY.out
                        case measure =>
                          rw [Hms.out]
                          have h := (HPY.out).steps
                          simp only at h
                          rw [h]
                          omega
                · by_cases k5 : ek = 5
                  · subst k5
                    cases hins : ins with
                    | true =>
                      subst hins
                      go_wp2_with (refine wpList_store_mid rfl 65 (.tmp 14) (.tmp 109) rfl o 0 (runC false regs ((steps : Int) + 1)).toArray rfl rfl ?_ Try.sizeRun (oneRun _ _ _) ?_; exact HTh.out; change wpList _ _ _ _ _ (World.setCells wc o 0 (runC false regs ((steps : Int) + 1))))
                      have hRR : R = ⟨false, regs, steps + 1, mem⟩ := by
                        have h := Hstep.out
                        rw [show effP ⟨5, en, er, ev, ea⟩ fr hi ⟨n, regs, mem, true, beg, steps⟩ = none from by simp [effP]] at h
                        exact h
                      subst hRR
                      exact bodyPost_ret (results_c rfl rfl (Try.loadRun false regs ((steps : Int) + 1) (HP1.out.fin false regs ((steps : Int) + 1)).1)) rfl (HP1.out.stop false regs ((steps : Int) + 1) rfl rfl (by simp) rfl)
                    | false =>
                      subst hins
                      have hbg : 0 ≤ beg ∧ beg ≤ 1000000 := ⟨Hok.out.beg.1, by have := Hok.out.beg.2; simp only at this; omega⟩
                      have HPY := Lib.hid (HP1.out.cong (s' := ⟨en, regs, mem, true, beg + 1, steps + 1⟩) rfl rfl rfl)
                      have hok1 : Ps.Ok ⟨en, regs, mem, true, beg + 1, steps + 1⟩ := ⟨Hok.out.regs, Hok.out.mem, ⟨by have := Hok.out.beg.1; simp only at this ⊢; omega, by have := Hok.out.beg.2; simp only at this ⊢; omega⟩⟩
                      have HOk1 := Lib.hid hok1; clear hok1
                      go_wp2_with fail
                      go_roundw
                      case rel =>
                        have h := Hstep.out
                        rw [show effP ⟨5, en, er, ev, ea⟩ fr hi ⟨n, regs, mem, false, beg, steps⟩ = some ⟨en, regs, mem, true, beg + 1, steps + 1⟩ from by simp [effP]] at h
                        have h2 : playP l fr hi bl (most - (steps + 1)) ⟨en, regs, mem, true, beg + 1, steps + 1⟩ = R := h.symm
                        clear h
                        refine ⟨en, regs, mem, true, beg + 1, steps + 1, by omega, rfl, rfl, rfl, Hlen.out, HOk1.out, h2, ?_⟩
                        with_reducible exact HPY.out
                      case measure =>
                        rw [Hms.out]
                        have h := (HPY.out).steps
                        simp only at h
                        rw [h]
                        omega
                  · by_cases k6 : ek = 6
                    · subst k6
                      cases hins : ins with
                      | false =>
                        subst hins
                        go_wp2_with (refine wpList_store_mid rfl 65 (.tmp 14) (.tmp 116) rfl o 0 (runC false regs ((steps : Int) + 1)).toArray rfl rfl ?_ Try.sizeRun (oneRun _ _ _) ?_; exact HTh.out; change wpList _ _ _ _ _ (World.setCells wc o 0 (runC false regs ((steps : Int) + 1))))
                        have hRR : R = ⟨false, regs, steps + 1, mem⟩ := by
                          have h := Hstep.out
                          rw [show effP ⟨6, en, er, ev, ea⟩ fr hi ⟨n, regs, mem, false, beg, steps⟩ = none from by simp [effP]] at h
                          exact h
                        subst hRR
                        exact bodyPost_ret (results_c rfl rfl (Try.loadRun false regs ((steps : Int) + 1) (HP1.out.fin false regs ((steps : Int) + 1)).1)) rfl (HP1.out.stop false regs ((steps : Int) + 1) rfl rfl (by simp) rfl)
                      | true =>
                        subst hins
                        have HPY := Lib.hid (HP1.out.cong (s' := ⟨en, regs, mem, false, beg, steps + 1⟩) rfl rfl rfl)
                        have hok1 : Ps.Ok ⟨en, regs, mem, false, beg, steps + 1⟩ := ⟨Hok.out.regs, Hok.out.mem, ⟨by have := Hok.out.beg.1; simp only at this ⊢; omega, by have := Hok.out.beg.2; simp only at this ⊢; omega⟩⟩
                        have HOk1 := Lib.hid hok1; clear hok1
                        go_wp2_with fail
                        go_roundw
                        case rel =>
                          have h := Hstep.out
                          rw [show effP ⟨6, en, er, ev, ea⟩ fr hi ⟨n, regs, mem, true, beg, steps⟩ = some ⟨en, regs, mem, false, beg, steps + 1⟩ from by simp [effP]] at h
                          have h2 : playP l fr hi bl (most - (steps + 1)) ⟨en, regs, mem, false, beg, steps + 1⟩ = R := h.symm
                          clear h
                          refine ⟨en, regs, mem, false, beg, steps + 1, by omega, rfl, rfl, rfl, Hlen.out, HOk1.out, h2, ?_⟩
                          with_reducible exact HPY.out
                        case measure =>
                          rw [Hms.out]
                          have h := (HPY.out).steps
                          simp only at h
                          rw [h]
                          omega
                    · have f1 : (ek == 1) = false := by simpa using k1
                      have f2 : (ek == 2) = false := by simpa using k2
                      have f3 : (ek == 3) = false := by simpa using k3
                      have f4 : (ek == 4) = false := by simpa using k4
                      have f5 : (ek == 5) = false := by simpa using k5
                      have f6 : (ek == 6) = false := by simpa using k6
                      go_wp2_with (refine wpList_store_mid rfl 65 (.tmp 14) (.tmp 49) rfl o 0 (runC false regs ((steps : Int) + 1)).toArray rfl rfl ?_ Try.sizeRun (oneRun _ _ _) ?_; exact HTh.out; change wpList _ _ _ _ _ (World.setCells wc o 0 (runC false regs ((steps : Int) + 1))))
                      have hRR : R = ⟨false, regs, steps + 1, mem⟩ := by
                        have h := Hstep.out
                        rw [show effP ⟨ek, en, er, ev, ea⟩ fr hi ⟨n, regs, mem, ins, beg, steps⟩ = none from by simp [effP, k1, k2, k3, k4, k5, k6]] at h
                        exact h
                      subst hRR
                      exact bodyPost_ret (results_c rfl rfl (Try.loadRun false regs ((steps : Int) + 1) (HP1.out.fin false regs ((steps : Int) + 1)).1)) rfl (HP1.out.stop false regs ((steps : Int) + 1) rfl rfl (by simp) rfl)
    · have d1 : decide (pc < (l.length : Int)) = false := by simpa using hlt
      have hRx : (⟨(pc == (l.length : Int)) && !ins && (beg == bl), regs, steps, mem⟩ : Ro) = R := by
        rw [← HR.out]
        cases most - steps <;> (unfold playP; rw [if_neg hlt])
      have HRx := Lib.hid hRx; clear hRx
      have hX : ∀ v, (wr.setCell ⟨r, 0, none⟩ v).there o 0 10 := fun v => ((HP.out.bo.other (Ne.symm HP.out.nr.2.2) v).there (o := 0) (n := 10) (Nat.le_refl _))
      have HX := Lib.hid hX; clear hX
      have x0f := HP.out.br.free 0
      have hro : r ≠ o := HP.out.nr.2.2
      cases h1 : (pc == (l.length : Int)) with
      | false =>
        go_wp2_with (refine wpList_store_mid rfl 65 (.tmp 14) (.tmp 133) rfl o 0 (runC false regs steps).toArray rfl rfl ?_ Try.sizeRun (oneRun _ _ _) ?_; exact HX.out _; change wpList _ _ _ _ _ (World.setCells (wr.setCell ⟨r, 0, none⟩ (.bool false)) o 0 (runC false regs steps)))
        have hRR : R = ⟨false, regs, steps, mem⟩ := by
          have h := HRx.out
          rw [← h]
          exact congrArg (fun z => Ro.mk z regs steps mem) (by simp [h1, h1])
        subst hRR
        exact bodyPost_ret (results_c rfl rfl (Try.loadRun false regs steps (HP.out.fin2 (.bool false) false regs steps).1)) rfl ⟨rfl, (HP.out.fin2 (.bool false) false regs steps).2⟩
      | true =>
        cases hi1 : ins with
        | true =>
          subst hi1
          go_wp2_with (refine wpList_store_mid rfl 65 (.tmp 14) (.tmp 133) rfl o 0 (runC false regs steps).toArray rfl rfl ?_ Try.sizeRun (oneRun _ _ _) ?_; exact HX.out _; change wpList _ _ _ _ _ (World.setCells (wr.setCell ⟨r, 0, none⟩ (.bool false)) o 0 (runC false regs steps)))
          have hRR : R = ⟨false, regs, steps, mem⟩ := by
            have h := HRx.out
            rw [← h]
            exact congrArg (fun z => Ro.mk z regs steps mem) (by simp [h1, h1])
          subst hRR
          exact bodyPost_ret (results_c rfl rfl (Try.loadRun false regs steps (HP.out.fin2 (.bool false) false regs steps).1)) rfl ⟨rfl, (HP.out.fin2 (.bool false) false regs steps).2⟩
        | false =>
          subst hi1
          cases h3 : (beg == bl) with
          | false =>
            go_wp2_with (refine wpList_store_mid rfl 65 (.tmp 14) (.tmp 133) rfl o 0 (runC false regs steps).toArray rfl rfl ?_ Try.sizeRun (oneRun _ _ _) ?_; exact HX.out _; change wpList _ _ _ _ _ (World.setCells (wr.setCell ⟨r, 0, none⟩ (.bool false)) o 0 (runC false regs steps)))
            have hRR : R = ⟨false, regs, steps, mem⟩ := by
              have h := HRx.out
              rw [← h]
              exact congrArg (fun z => Ro.mk z regs steps mem) (by simp [h1, h3])
            subst hRR
            exact bodyPost_ret (results_c rfl rfl (Try.loadRun false regs steps (HP.out.fin2 (.bool false) false regs steps).1)) rfl ⟨rfl, (HP.out.fin2 (.bool false) false regs steps).2⟩
          | true =>
            go_wp2_with (refine wpList_store_mid rfl 65 (.tmp 14) (.tmp 133) rfl o 0 (runC true regs steps).toArray rfl rfl ?_ Try.sizeRun (oneRun _ _ _) ?_; exact HX.out _; change wpList _ _ _ _ _ (World.setCells (wr.setCell ⟨r, 0, none⟩ (.bool true)) o 0 (runC true regs steps)))
            have hRR : R = ⟨true, regs, steps, mem⟩ := by
              have h := HRx.out
              rw [← h]
              exact congrArg (fun z => Ro.mk z regs steps mem) (by simp [h1, h3])
            subst hRR
            exact bodyPost_ret (results_c rfl rfl (Try.loadRun true regs steps (HP.out.fin2 (.bool true) true regs steps).1)) rfl ⟨rfl, (HP.out.fin2 (.bool true) true regs steps).2⟩

end Go.Proofs.Ythjbcpgncnchoaa
