/- A node's iterator of entries. Conditions: those stated in each theorem. -/
import Derived.Test.YtddajnpichchfaaNodeN
import Derived.BigFrameIn
namespace Go.Proofs.Ytddajnpichchfaa
open Go.RowKit Go.BigFrame Go.Shelf
attribute [local go_sem] Oper.semAt_some
attribute [local simp] wide_fn

theorem in_load_want {F : Fence} {P : Program} {n : Nat} {ops : Array Oper} {rest : List Oper} {o : Oper} {a : Act} {w : World} {Q : Exit → Act → World → Prop} (hw : Region.wanted o (yielded ops a.tmps) = true) (ty : TypeId) (x : Operand) (hop : o.op = .load ty x)
    (b off : Nat) (hx : a.eval x = .pointer (some ⟨b, off, none⟩)) (cs : List Value) (d : TypeDesc) (hc : w.rangeAt b off cs) (hu : P.underlying ty = some d) (hd : d.isRow = true) (hi : (P.info? ty).map (·.size) = some cs.length)
    (h : wpListIn F n P ops Q rest (a.put o.dst (.agg cs.toArray)) w) : wpListIn F n P ops Q (o :: rest) a w := by
  refine wpListIn_want hw fun K hK => ?_
  unfold Oper.wpIn
  refine ⟨?_, ?_⟩
  · simp [Oper.about, hop]
  · rw [Oper.semAt_plain F _ _ (by rw [hop]; intro c hc; cases hc)]
    unfold execOp
    simp only [hop, hx, Instr.loadAt, Instr.sureAddr, Sem.run_bind, Sem.run_pure, Result.andThen_ok, run_loadVar_mid w b off ty cs d hc hu hd hi]
    exact hK _ _ h

/-- What a round keeps: all that lay below B0, but the block n0. -/
def KpQ (B0 n0 : Nat) (W W' : World) : Prop := Tch (fun k => B0 ≤ k ∨ k = n0) W W'
theorem kpQ_t {B0 n0 : Nat} {X Y Z : World} (h : KpQ B0 n0 X Y) (k : KpQ B0 n0 Y Z) : KpQ B0 n0 X Z := Tch.trans h k
theorem kpQ_b {B0 n0 l : Nat} (hl : B0 ≤ l) (W : World) (o o' : Loop) (_ : W.heap[l]? = some (.loop o)) : KpQ B0 n0 W (W.putObj l (.loop o')) := (Tch.refl _ W).putObj (.inl (.inl hl)) _

theorem grown_below {w w' : World} (h : Below w.heap.size w w') : w.grownBy w' none := ⟨h.os, h.tape, h.output, h.size, fun k hk _ => h.block k hk⟩
/-- The lines of a node that are held. -/
def heldL (n : Nd) (k : Nat) : List Nat := (List.range k).filter fun j => (findX n.ss (j : Int)).2
theorem heldL_succ (n : Nd) (k : Nat) : heldL n (k + 1) = heldL n k ++ if (findX n.ss (k : Int)).2 then [k] else [] := by
  unfold heldL
  rw [List.range_succ, List.filter_append]
  congr 1
  cases h : (findX n.ss (k : Int)).2 <;> simp [h]
theorem heldL_split (n : Nd) {k m : Nat} (hk : k < m) (hh : (findX n.ss (k : Int)).2 = true) : ∃ rest, heldL n m = heldL n k ++ k :: rest := by
  unfold heldL
  rw [range_split hk, List.filter_append, List.filter_cons]
  simp only [hh, if_true]
  exact ⟨_, rfl⟩

set_option maxRecDepth 100000 in
set_option maxHeartbeats 2000000 in
theorem entries1_each {lo a p S : Nat} {bs : List Nat} {ways : Nat} {bv : Value} {n : Nd} (l Bc B0 n0 : Nat) (w : World) (h : NodeAt w lo a p S bs ways bv n) (hB : Holds w Bc 44 [.pointer (some ⟨a, 0, none⟩)]) (hsz : w.heap.size = B0)
    (hn0 : n0 ≠ a ∧ n0 ≠ p ∧ n0 ≠ S ∧ n0 ∉ bs ∧ bv.ownBlock ≠ some n0 ∧ n0 ≠ Bc) (L : Nat) (hL : n.lines = L) (hL64 : L ≤ 64) :
    SeqEach Fence.wide Try.prog 93 #[.pointer (some ⟨Bc, 0, none⟩)] (fun k : Nat => #[.agg (findX n.ss (k : Int)).1.cells.toArray]) (KpQ B0 n0) (heldL n L) w l := by
  intro m J Jx W hW _ hJ hJx hY h0
  have hlts := h.lts
  have hgl : ∀ g, bv.ownBlock = some g → g < w.heap.size := fun g e => (owns_lt h.own e).2
  have hkeep : ∀ V, Tch (fun k => B0 ≤ k ∨ k = n0) w V → NodeAt V lo a p S bs ways bv n ∧ Holds V Bc 44 [.pointer (some ⟨a, 0, none⟩)] := fun V hT => by
    refine ⟨h.frame hT ?_ ?_ ?_ ?_ ?_, hT.holds ?_ hB⟩
    · rintro (e | e)
      · omega
      · exact hn0.1 e.symm
    · rintro (e | e)
      · omega
      · exact hn0.2.1 e.symm
    · rintro (e | e)
      · omega
      · exact hn0.2.2.1 e.symm
    · rintro b hb (e | e)
      · have := hlts.2.2.2 b hb; omega
      · exact hn0.2.2.2.1 (e ▸ hb)
    · rintro g hg (e | e)
      · have := hgl g hg; omega
      · exact hn0.2.2.2.2.1 (e ▸ hg)
    · rintro (e | e)
      · have := hB.lt; omega
      · exact hn0.2.2.2.2.2 e.symm
  have hTW : Tch (fun k => B0 ≤ k ∨ k = n0) w W := ⟨hW.os, hW.tape, hW.output, hW.size, fun k hk _ => hW.block k hk⟩
  obtain ⟨hnW, hBW⟩ := hkeep W hTW
  have hc : W.cell? ⟨Bc, 0, none⟩ = some (.pointer (some ⟨a, 0, none⟩)) := hBW.cell (i := 0) rfl
  have c1 : W.cell? ⟨a, 1, none⟩ = some (.int .i64 L) := by rw [hnW.c 1 rfl, hL]
  have HY := Lib.hid hY; clear hY
  have HK := Lib.hid hkeep; clear hkeep
  have HTW := Lib.hid hTW; clear hTW
  have HJ := Lib.hid hJ; clear hJ
  have HJx := Lib.hid hJx; clear hJx
  have HhL := Lib.hid hL; clear hL
  clear hnW hBW hW h hB hn0 hlts hgl hsz
  refine callsIn_of_wp Try.func93 rfl trivial ?_ rfl
  simp only [Try.ntmps93, List.size_toArray, List.length_cons, List.length_nil, Nat.reduceAdd, Nat.reduceSub, Array.replicate_succ, Array.replicate_zero, List.push_toArray, List.append_toArray, List.nil_append, List.cons_append]
  gi_wp2
  clear hc c1
  gi_loopw [10] (fun i wr => ∃ k : Nat, k ≤ L ∧ i = .int .i64 k ∧ J (heldL n k) wr ∧ Tch (fun k => B0 ≤ k ∨ k = n0) W wr ∧ W.heap.size ≤ wr.heap.size)
    (fun i _ => L - (intOf i).toNat)
  case atStart => exact ⟨0, Nat.zero_le _, rfl, h0, Tch.refl _ _, Nat.le_refl _⟩
  case round =>
    obtain ⟨k, hk, rfl, hJs, hTr, hszr⟩ := hrel
    by_cases hlt : k < L
    · obtain ⟨hnr, hBr⟩ := HK.out wr (HTW.out.trans hTr)
      have hc : wr.cell? ⟨Bc, 0, none⟩ = some (.pointer (some ⟨a, 0, none⟩)) := hBr.cell (i := 0) rfl
      have c2 : wr.cell? ⟨a, 2, none⟩ = some (.pointer (some ⟨p, 0, none⟩)) := hnr.c 2 rfl
      have HF := Lib.hid (find_x hnr.cache k)
      have HS := Lib.hid (heldL_succ n k)
      have Hsp := Lib.hid (heldL_split n (k := k) (m := L) hlt)
      obtain ⟨e0, had, hfx⟩ : ∃ e0 had, findX n.ss (k : Int) = (e0, had) := ⟨_, _, rfl⟩
      rw [hfx] at HF HS Hsp
      have Hfx := Lib.hid hfx; clear hfx
      clear hnr hBr
      have HTr := Lib.hid hTr; clear hTr
      have HJs := Lib.hid hJs; clear hJs
      cases had
      · gi_wp2_with fail
        refine ⟨fun h => (by cases h), (callsIn_wide.2 HF.out).mono ?_⟩
        rintro e w1 ⟨rfl, hb⟩
        obtain ⟨W2, eW, bW, hn, hr, -⟩ := ebox w1 e0
        have hb2 : Below wr.heap.size wr W2 := hb.trans (bW.mono hb.size)
        have hJ2 := HJ.out _ wr W2 none HJs.out (grown_below hb2) (fun r e => by cases e)
        have EW := Lib.hid eW
        have Hn := Lib.hid hn
        have HJ2 := Lib.hid hJ2
        have Hb2 := Lib.hid hb2
        clear eW bW hn hr hJ2 hb2 hb
        gi_wp2_with (refine in_store_mid rfl 42 (.tmp 4) (.tmp 20) rfl w1.heap.size 0 e0.cells.toArray rfl rfl ?_ Try.size42 (oneEnt _) ?_; exact Hn.out; change wpListIn _ _ _ _ _ _ _ ((w1.alloc (.cells Ent.zero.cells.toArray 42)).setCells w1.heap.size 0 e0.cells); rw [← EW.out])
        go_roundw
        case rel => exact ⟨k + 1, by omega, by simp, by rw [HS.out]; simpa using HJ2.out, HTr.out.trans ⟨Hb2.out.os, Hb2.out.tape, Hb2.out.output, Hb2.out.size, fun i hi _ => Hb2.out.block i hi⟩, Nat.le_trans hszr Hb2.out.size⟩
        case measure => simp [intOf]; omega
      · obtain ⟨rest, hsp⟩ := Hsp.out rfl
        gi_wp2_with fail
        refine ⟨fun h => (by cases h), (callsIn_wide.2 HF.out).mono ?_⟩
        rintro e w1 ⟨rfl, hb⟩
        obtain ⟨W2, eW, bW, hn, hr, -⟩ := ebox w1 e0
        have hb2 : Below wr.heap.size wr W2 := hb.trans (bW.mono hb.size)
        have hJ2 := HJ.out _ wr W2 none HJs.out (grown_below hb2) (fun r e => by cases e)
        obtain ⟨fn, tmps, assign, body, hy, hR⟩ := HY.out (m - 1) (heldL n k) k rest W2 hsp hJ2
        rw [show (findX n.ss (k : Int)).1 = e0 from by rw [Hfx.out]] at hy
        have EW := Lib.hid eW
        have Hn := Lib.hid hn
        have Hr := Lib.hid hr
        have Hb2 := Lib.hid hb2
        clear eW bW hn hr hJ2 hb2 hb hsp
        gi_wp2_with (first | (refine in_store_mid rfl 42 (.tmp 4) (.tmp 20) rfl w1.heap.size 0 e0.cells.toArray rfl rfl ?_ Try.size42 (oneEnt _) ?_; exact Hn.out; change wpListIn _ _ _ _ _ _ _ ((w1.alloc (.cells Ent.zero.cells.toArray 42)).setCells w1.heap.size 0 e0.cells); rw [← EW.out]) | (refine in_load_want (by rfl) 42 (.tmp 4) rfl w1.heap.size 0 rfl e0.cells _ ?_ Try.underlying42 rfl Try.size42 ?_; exact Hr.out))
        refine ⟨fun h => (by cases h), hR.mono ?_⟩
        rintro e W3 (⟨rfl, hJ3, hk3⟩ | ⟨rfl, hJx3, _⟩)
        · have hJ4 := Lib.hid hJ3
          have hT3 := Lib.hid (HTr.out.trans ((show Tch (fun k => B0 ≤ k ∨ k = n0) wr W2 from ⟨Hb2.out.os, Hb2.out.tape, Hb2.out.output, Hb2.out.size, fun i hi _ => Hb2.out.block i hi⟩).trans hk3))
          have hS3 := Lib.hid (Nat.le_trans hszr (Nat.le_trans Hb2.out.size hk3.size))
          clear hJ3 hk3 hy hR
          gi_wp2
          go_roundw
          case rel => exact ⟨k + 1, by omega, by simp, by rw [HS.out]; simpa using hJ4.out, hT3.out, hS3.out⟩
          case measure => simp [intOf]; omega
        · gi_wp2
          refine bodyPost_ret (results_none rfl _ _ _) rfl ?_
          exact ⟨⟨_, rfl⟩, .inr ⟨_, ⟨_, (by rw [(heldL_split n hlt (by rw [Hfx.out])).choose_spec, List.append_assoc]; rfl)⟩, hJx3⟩⟩
    · obtain rfl : k = L := by omega
      gi_wp2
      go_end0
      exact ⟨⟨_, rfl⟩, .inl hJs⟩

end Go.Proofs.Ytddajnpichchfaa
