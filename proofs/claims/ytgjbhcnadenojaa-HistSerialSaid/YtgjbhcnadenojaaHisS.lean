/- hist: a story that is only read, and its moments. Conditions: those stated in each theorem. -/
import Derived.Test.YtgjbhcnadenojaaHisR
import Derived.Test.YtgjbhcnadenojaaEachT
import Derived.TacticsInMore
import Derived.LoopNIn
import Derived.LoopIn
namespace Go.Proofs.Ytgjbhcnadenojaa
open Go.RowKit Go.BigFrame Go.Shelf Go.Maps
attribute [local go_sem] Oper.semAt_some
attribute [local simp] wide_fn

/-- What a story does not lie in: its events lie below lo, all else from mid on, below B. -/
def Free (lo mid B k : Nat) : Prop := lo ≤ k ∧ (k < mid ∨ B ≤ k)
/-- A story in memory, that is only read. -/
structure StoR (lo mid B : Nat) (w : World) (c : SC) (h : List Ev) : Prop where
  was : ∃ w0 w1 : World, w0.heap.size = mid ∧ w1.heap.size = B ∧ Ap w0 w1 c.pf ∧ ∀ k, mid ≤ k ∧ k < B → w.heap[k]? = w1.heap[k]?
  evs : ∃ a cap, c.ev = .slice a h.length cap ∧ (h = [] ∨ ∃ q o, a = some ⟨q, o, none⟩ ∧ q < lo ∧ ∀ k x, h[k]? = some x → w.rangeAt q (o + k * 9) x.cells)
  lm : lo ≤ mid
  mB : mid ≤ B
  le : B ≤ w.heap.size
  ri : RI c.rd h.length
  rd : readH h = some c.rd
  len : h.length ≤ 900
  fit : ∀ e ∈ h, e.fit
section
variable {lo mid B : Nat} {w w' : World} {c : SC} {h : List Ev}
theorem StoR.same (s : StoR lo mid B w c h) (hs : w.heap.size ≤ w'.heap.size) (hb : ∀ k, k < w.heap.size → ¬ Free lo mid B k → w'.heap[k]? = w.heap[k]?) : StoR lo mid B w' c h := by
  obtain ⟨⟨w0, w1, h0, h1, h2, h4⟩, ⟨a, cap, h3, h9⟩, hlm, hmB, hl, h5, h6, h7, h8⟩ := s
  refine ⟨⟨w0, w1, h0, h1, h2, fun k hk => (hb k (by omega) (fun e => by unfold Free at e; omega)).trans (h4 k hk)⟩, ⟨a, cap, h3, ?_⟩, hlm, hmB, Nat.le_trans hl hs, h5, h6, h7, h8⟩
  rcases h9 with h9 | ⟨q, o, e, hq, hr⟩
  · exact .inl h9
  · exact .inr ⟨q, o, e, hq, fun k x hx i v hi => by
      rw [World.cell?_of_block (a := ⟨q, o + k * 9 + i, none⟩) (hb q (by omega) (fun e => by unfold Free at e; omega))]
      exact hr k x hx i v hi⟩
theorem StoR.frame {C : Nat → Prop} (s : StoR lo mid B w c h) (ht : Tch C w w') (hC : ∀ k, C k → Free lo mid B k) : StoR lo mid B w' c h :=
  s.same ht.size (fun k hk hf => ht.block k hk (fun e => hf (hC k e)))
theorem StoR.next (s : StoR lo mid B w c h) (ht : Below w.heap.size w w') : StoR lo mid B w' c h := s.same ht.size (fun k hk _ => ht.block k hk)
theorem StoR.own {β : Type} {D : Nat} (hD : B ≤ D) : OwnFrom D (fun (_ : β) W => StoR lo mid B W c h) := fun _ X Y row hs hg hr =>
  hs.same hg.size (fun k hk hf => hg.block k hk (fun e => hf ⟨by have := hs.lm; have := hs.mB; have := (hr k e.symm).1; omega, .inr (by have := (hr k e.symm).1; omega)⟩))
theorem StoR.sto (s : StoR lo mid B w c h) : Holds w c.p 75 [c.ev, c.va, c.vp] ∧ mid ≤ c.p ∧ c.p < B := by
  obtain ⟨⟨w0, w1, h0, h1, h2, h4⟩, -⟩ := s
  obtain ⟨T, ⟨t1, t2⟩, t3⟩ := h2.get (i := Ix.sto) rfl
  have t4 := t3 _ t2
  exact ⟨t1.same (h4 _ (by omega)), by omega⟩
theorem StoR.att (s : StoR lo mid B w c h) : w.ownsRow 0 78 14 c.va c.l.length (flatK c.l) ∧ ∀ g, c.va.ownBlock = some g → mid ≤ g ∧ g < B := by
  obtain ⟨⟨w0, w1, h0, h1, h2, h4⟩, -⟩ := s
  obtain ⟨T, ⟨t1, t2⟩, t3⟩ := h2.get (i := Ix.att) rfl
  have t4 : ∀ g, c.va.ownBlock = some g → mid ≤ g ∧ g < B := fun g e => by have := t3 g (t2 g e); omega
  exact ⟨owns_same t1 (fun g e => h4 g (t4 g e)), t4⟩
theorem StoR.pl (s : StoR lo mid B w c h) : w.ownsRow 0 3 1 c.vp c.pl.length (c.pl.map (.int .i64)) ∧ ∀ g, c.vp.ownBlock = some g → mid ≤ g ∧ g < B := by
  obtain ⟨⟨w0, w1, h0, h1, h2, h4⟩, -⟩ := s
  obtain ⟨T, ⟨t1, t2⟩, t3⟩ := h2.get (i := Ix.pl) rfl
  have t4 : ∀ g, c.vp.ownBlock = some g → mid ≤ g ∧ g < B := fun g e => by have := t3 g (t2 g e); omega
  exact ⟨owns_same t1 (fun g e => h4 g (t4 g e)), t4⟩
variable {i g : Nat} {x : KC}
theorem StoR.cells (s : StoR lo mid B w c h) (hx : c.l[i]? = some x) (hg : c.va.ownBlock = some g) : CellsAt w g (i * 14) x.cells := fun j v hv => owns_cell s.att.1 hg (flatK_at hx hv)
theorem StoR.ldr (s : StoR lo mid B w c h) (hx : c.l[i]? = some x) : w.ownsRow 0 48 2 x.lv x.k.ld.length (flatP x.k.ld) ∧ ∀ g, x.lv.ownBlock = some g → mid ≤ g ∧ g < B := by
  obtain ⟨⟨w0, w1, h0, h1, h2, h4⟩, -⟩ := s
  obtain ⟨T, ⟨t1, t2⟩, t3⟩ := h2.get (i := Ix.ldr i) (P := ldrP x) (by simp [SC.pf, hx])
  have t4 : ∀ g, x.lv.ownBlock = some g → mid ≤ g ∧ g < B := fun g e => by have := t3 g (t2 g e); omega
  exact ⟨owns_same t1 (fun g e => h4 g (t4 g e)), t4⟩
theorem StoR.str (s : StoR lo mid B w c h) (hx : c.l[i]? = some x) : w.ownsRow 0 48 2 x.sv x.k.st.length (flatP x.k.st) ∧ ∀ g, x.sv.ownBlock = some g → mid ≤ g ∧ g < B := by
  obtain ⟨⟨w0, w1, h0, h1, h2, h4⟩, -⟩ := s
  obtain ⟨T, ⟨t1, t2⟩, t3⟩ := h2.get (i := Ix.str i) (P := strP x) (by simp [SC.pf, hx])
  have t4 : ∀ g, x.sv.ownBlock = some g → mid ≤ g ∧ g < B := fun g e => by have := t3 g (t2 g e); omega
  exact ⟨owns_same t1 (fun g e => h4 g (t4 g e)), t4⟩
theorem StoR.ldm (s : StoR lo mid B w c h) (hx : c.l[i]? = some x) : MpAt w 3 .i64 x.lb x.k.ld.length (plOf x.k.ld) := by
  obtain ⟨⟨w0, w1, h0, h1, h2, h4⟩, -⟩ := s
  obtain ⟨T, ⟨t1, t2⟩, t3⟩ := h2.get (i := Ix.ldm i) (P := ldmP x) (by simp [SC.pf, hx])
  have t4 := t3 _ t2
  exact t1.same (h4 _ (by omega))
theorem StoR.stm (s : StoR lo mid B w c h) (hx : c.l[i]? = some x) : MpAt w 3 .i64 x.sb x.k.st.length (plOf x.k.st) := by
  obtain ⟨⟨w0, w1, h0, h1, h2, h4⟩, -⟩ := s
  obtain ⟨T, ⟨t1, t2⟩, t3⟩ := h2.get (i := Ix.stm i) (P := stmP x) (by simp [SC.pf, hx])
  have t4 := t3 _ t2
  exact t1.same (h4 _ (by omega))
/-- What read leaves is a story. -/
theorem StoR.of {lo : Nat} (hr : readH h = some c.rd) (hi : RI c.rd h.length) (ha : Ap w w' c.pf) {a : Option Addr} {cap : Nat} (hev : c.ev = .slice a h.length cap) (he : h = [] ∨ ∃ q o, a = some ⟨q, o, none⟩ ∧ q < lo ∧ ∀ k x, h[k]? = some x → w.rangeAt q (o + k * 9) x.cells) (hlo : lo ≤ w.heap.size) (hl : h.length ≤ 900) (hf : ∀ e ∈ h, e.fit) : StoR lo w.heap.size w'.heap.size w' c h :=
  ⟨⟨w, w', rfl, rfl, ha, fun _ _ => rfl⟩, ⟨a, cap, hev, he.imp id (fun ⟨q, o, e, hq, hr⟩ => ⟨q, o, e, hq, fun k x hx i v hi => by
    rw [World.cell?_of_block (a := ⟨q, o + k * 9 + i, none⟩) (ha.below.block q (by omega))]
    exact hr k x hx i v hi⟩)⟩, hlo, ha.below.size, Nat.le_refl _, hi, hr, hl, hf⟩
/-- A history that came in lies below. -/
theorem rows_lo {a : Option Addr} (hr : RowsIn w a 9 Ev.cells h) (hb : Below w.heap.size w w') : h = [] ∨ ∃ q o, a = some ⟨q, o, none⟩ ∧ q < w.heap.size ∧ ∀ k x, h[k]? = some x → w'.rangeAt q (o + k * 9) x.cells := by
  rcases hr with hr | ⟨q, o, e, hq, hr⟩
  · exact .inl hr
  · exact .inr ⟨q, o, e, hq, fun k x hx i v hi => by
      rw [World.cell?_of_block (a := ⟨q, o + k * 9 + i, none⟩) (hb.block q hq)]
      exact hr k x hx i v hi⟩
end

theorem Try.sizeMo : (Try.prog.info? 85).map (·.size) = some 11 := by kernel_rfl
/-- Where the attempt that happens lies. -/
def SC.hp (c : SC) (pl i : Int) : Value := if happens c.rd.ks pl i then .pointer (some ⟨c.va.ownBlock.getD 0, pl.toNat * 14, none⟩) else .pointer none
def moCells (c : SC) (h : List Ev) (k : Nat) : List Value := (h.getD k Ev.zero).cells ++ [.int .i64 (c.pl.getD k 0), c.hp (c.pl.getD k 0) k]
def encM (c : SC) (h : List Ev) (k : Nat) : Array Value := #[.int .i64 (k : Nat), .agg (moCells c h k).toArray]

set_option maxHeartbeats 400000 in
theorem moments_any (p : Nat) (w : World) : Calls Try.prog 27 #[.pointer (some ⟨p, 0, none⟩)] w fun e w' => e = .returned (.func (.func 43) #[] #[.pointer (some ⟨w.heap.size, 0, none⟩)]) ∧ w.alloc (.cells #[.pointer (some ⟨p, 0, none⟩)] 69) = w' := by
  go_enter Try.func27, Try.ntmps27
  go_wp2
  go_ret
  exact ⟨rfl, rfl⟩

theorem range_split {n k : Nat} (h : k < n) : List.range n = List.range k ++ k :: List.range' (k + 1) (n - (k + 1)) := by
  rw [List.range_eq_range' (n := k), List.range_eq_range' (n := n), ← List.range'_succ]
  have := List.range'_append_1 (s := 0) (m := k) (n := n - (k + 1) + 1)
  rw [Nat.zero_add] at this
  rw [this]; congr 1; omega

set_option maxRecDepth 100000 in
set_option maxHeartbeats 4000000 in
theorem moments_each {lo mid B Bc : Nat} {c : SC} {h : List Ev} (C : Nat → Prop) (lp : Nat) (w : World) (hC : ∀ k, w.heap.size ≤ k → C k) (hCB : ∀ k, C k → Free lo mid B k) (hs : StoR lo mid B w c h) (hB : w.cell? ⟨Bc, 0, none⟩ = some (.pointer (some ⟨c.p, 0, none⟩))) (hBc : ¬ C Bc) :
    SeqEach Fence.wide Try.prog 43 #[.pointer (some ⟨Bc, 0, none⟩)] (encM c h) (KpC C) (List.range h.length) w lp := by
  intro m J Jx W hW _ hJ hJx hY i0
  have hTW : Tch C w W := Tch.of_idle hW
  have hsW : StoR lo mid B W c h := hs.next hW
  have cB : W.cell? ⟨Bc, 0, none⟩ = some (.pointer (some ⟨c.p, 0, none⟩)) := (hW.cell (World.block_lt_of_cell? _ _ hB)).trans hB
  have c0 := hsW.sto.1.cell (i := 0) rfl
  obtain ⟨ad, cap, hev, -⟩ := hsW.evs
  rw [hev] at c0
  have HY := Lib.hid hY; clear hY
  have HTW := Lib.hid hTW; clear hTW
  have HJ := Lib.hid hJ; clear hJ
  have HJx := Lib.hid hJx; clear hJx
  have HW := Lib.hid hW; clear hW
  have HC := Lib.hid hC; clear hC
  have HCB := Lib.hid hCB; clear hCB
  have HS := Lib.hid hsW; clear hsW
  have HBc := Lib.hid hBc; clear hBc
  have HEV := Lib.hid hev; clear hev
  have hl := HS.out.len
  have hBl : Bc < W.heap.size := World.block_lt_of_cell? _ _ cB
  have HB := Lib.hid cB
  clear hs hB
  refine callsIn_of_wp Try.func43 rfl trivial ?_ rfl
  simp only [Try.ntmps43, List.size_toArray, List.length_cons, List.length_nil, Nat.reduceAdd, Nat.reduceSub, Array.replicate_succ, Array.replicate_zero, List.push_toArray, List.append_toArray, List.nil_append, List.cons_append]
  gi_wp2
  clear c0 cB
  gi_loopw [3, 4, 5, 11] (fun _ _ _ i wr => ∃ k : Nat, k ≤ h.length ∧ i = .int .i64 k ∧ J (List.range k) wr ∧ Tch C W wr)
    (fun _ _ _ i _ => h.length - (intOf i).toNat)
  case atStart => exact ⟨0, Nat.zero_le _, rfl, i0, Tch.refl _ _⟩
  case round =>
    obtain ⟨k, hk, rfl, hJs, hTr⟩ := hrel
    have HJs := Lib.hid hJs; clear hJs
    have HTr := Lib.hid hTr; clear hTr
    by_cases hlt : k < h.length
    · obtain ⟨e, hx⟩ : ∃ e, h[k]? = some e := ⟨h[k], List.getElem?_eq_getElem hlt⟩
      have hsr : StoR lo mid B wr c h := HS.out.frame HTr.out HCB.out
      have HSr := Lib.hid hsr; clear hsr
      obtain ⟨ad', cap', hev', hrw⟩ := HSr.out.evs
      have e2 := HEV.out.symm.trans hev'
      simp only [Value.slice.injEq] at e2
      obtain ⟨rfl, -, rfl⟩ := e2
      clear hev'
      obtain ⟨q, o, rfl, hq, hrr⟩ : ∃ q o, ad = some ⟨q, o, none⟩ ∧ q < lo ∧ wr.rangeAt q (o + k * 9) e.cells := by
        rcases hrw with hrw | ⟨q, o, e1, hq, hrw⟩
        · rw [hrw] at hlt; simp at hlt
        · exact ⟨q, o, e1, hq, hrw k e hx⟩
      have Hrr := Lib.hid hrr; clear hrr hrw
      have hbk : (0 : Int) ≤ k ∧ (k : Int) < h.length := by omega
      have hBox : Holds (wr.alloc (.cells e.cells.toArray 61)) wr.heap.size 61 e.cells := Holds.new _ _ _
      have hb1 : Below wr.heap.size wr (wr.alloc (.cells e.cells.toArray 61)) := (Below.refl _ wr).alloc (Nat.le_refl _) _
      obtain ⟨ek, etm, eco, ebl, etr, ela, ead, eva, ecd⟩ := e
      simp only [Ev.cells] at hBox hb1
      have HBox := Lib.hid hBox; clear hBox
      have Hb1 := Lib.hid hb1; clear hb1
      have Hx := Lib.hid hx; clear hx
      gi_wp2_with (refine in_load_mid rfl 61 (.tmp 14) rfl q (o + k * 9) rfl [.int .i64 ek, .int .i64 etm, .int .i64 eco, .int .i64 ebl, .int .i64 etr, .int .i64 ela, .int .i64 ead, .int .u64 eva, .int .i64 ecd] _ ?_ Try.underlying61 rfl Try.sizeEv ?_; exact Hrr.out)
      have hS0 : StoR lo mid B (wr.alloc (.cells #[.int .i64 ek, .int .i64 etm, .int .i64 eco, .int .i64 ebl, .int .i64 etr, .int .i64 ela, .int .i64 ead, .int .u64 eva, .int .i64 ecd] 61)) c h := HSr.out.next Hb1.out
      have hT0 : Tch C W (wr.alloc (.cells #[.int .i64 ek, .int .i64 etm, .int .i64 eco, .int .i64 ebl, .int .i64 etr, .int .i64 ela, .int .i64 ead, .int .u64 eva, .int .i64 ecd] 61)) := HTr.out.trans (Tch.of_idle Hb1.out)
      have hJ0 := HJ.out _ wr _ none HJs.out (grown_below Hb1.out) (fun r e => by cases e)
      generalize wr.alloc (.cells #[.int .i64 ek, .int .i64 etm, .int .i64 eco, .int .i64 ebl, .int .i64 etr, .int .i64 ela, .int .i64 ead, .int .u64 eva, .int .i64 ecd] 61) = V0 at *
      have HS0 := Lib.hid hS0; clear hS0
      have HT0 := Lib.hid hT0; clear hT0
      have HJ0 := Lib.hid hJ0; clear hJ0
      clear HSr HTr HJs Hrr
      have hpk : ∃ pv, c.pl[k]? = some pv := ⟨_, List.getElem?_eq_getElem (by have := HS.out.ri.pln; simp only [SC.rd] at this; omega)⟩
      obtain ⟨pv, hpv⟩ := hpk
      obtain ⟨gp, capp, hvp⟩ : ∃ gp capp, c.vp = .slice (some ⟨gp, 0, none⟩) h.length capp := by
        have h1 := HS0.out.pl.1
        have h2 : c.pl.length = h.length := HS.out.ri.pln
        rw [h2] at h1
        obtain ⟨g, cap, e, _⟩ := h1.form (by omega)
        exact ⟨g, cap, e⟩
      have F : ∀ V, Below V0.heap.size V0 V → V.cell? ⟨Bc, 0, none⟩ = some (.pointer (some ⟨c.p, 0, none⟩)) ∧ V.cell? ⟨c.p, 2, none⟩ = some (.slice (some ⟨gp, 0, none⟩) h.length capp) ∧ V.cell? ⟨gp, k, none⟩ = some (.int .i64 pv) ∧ EvBox V wr.heap.size ⟨ek, etm, eco, ebl, etr, ela, ead, eva, ecd⟩ := fun V hV => by
        have s := HS0.out.next hV
        have hq := s.sto.1.cell (i := 2) rfl
        rw [hvp] at hq
        refine ⟨?_, hq, (owns_cell s.pl.1 (g := gp) (j := k) (by rw [hvp]; rfl) (by simp [hpv])).1, EvBox.of (HBox.out.below hV)⟩
        exact (World.cell?_of_block (a := ⟨Bc, 0, none⟩) ((HT0.out.trans (Tch.of_idle hV)).block Bc hBl HBc.out)).trans HB.out
      have HF := Lib.hid F; clear F
      obtain ⟨x0, x1, x2, ⟨b0, b1, b2, b3, b4, b5, b6, b7, b8⟩⟩ := HF.out V0 (Below.refl _ _)
      simp only at b0 b1 b2 b3 b4 b5 b6 b7 b8
      have l0 := World.block_lt_of_cell? _ _ x0
      have l1 := World.block_lt_of_cell? _ _ x1
      have l2 := World.block_lt_of_cell? _ _ x2
      have l3 := World.block_lt_of_cell? _ _ b0
      gi_region
      clear x0 x1 x2 b0 b1 b2 b3 b4 b5 b6 b7 b8
      have hM1 : Holds (V0.alloc (.cells #[.int .i64 ek, .int .i64 etm, .int .i64 eco, .int .i64 ebl, .int .i64 etr, .int .i64 ela, .int .i64 ead, .int .u64 eva, .int .i64 ecd, .int .i64 pv, .pointer none] 85)).drew V0.heap.size 85 [.int .i64 ek, .int .i64 etm, .int .i64 eco, .int .i64 ebl, .int .i64 etr, .int .i64 ela, .int .i64 ead, .int .u64 eva, .int .i64 ecd, .int .i64 pv, .pointer none] := Holds.new V0 85 [.int .i64 ek, .int .i64 etm, .int .i64 eco, .int .i64 ebl, .int .i64 etr, .int .i64 ela, .int .i64 ead, .int .u64 eva, .int .i64 ecd, .int .i64 pv, .pointer none]
      have hV1 : Below V0.heap.size V0 (V0.alloc (.cells #[.int .i64 ek, .int .i64 etm, .int .i64 eco, .int .i64 ebl, .int .i64 etr, .int .i64 ela, .int .i64 ead, .int .u64 eva, .int .i64 ecd, .int .i64 pv, .pointer none] 85)).drew := below_drew1 ((Below.refl _ V0).alloc (Nat.le_refl _) _)
      generalize (V0.alloc (.cells #[.int .i64 ek, .int .i64 etm, .int .i64 eco, .int .i64 ebl, .int .i64 etr, .int .i64 ela, .int .i64 ead, .int .u64 eva, .int .i64 ecd, .int .i64 pv, .pointer none] 85)).drew = V1 at *
      have HM1 := Lib.hid hM1; clear hM1
      have HV1 := Lib.hid hV1; clear hV1
      have hgd : h.getD k Ev.zero = ⟨ek, etm, eco, ebl, etr, ela, ead, eva, ecd⟩ := by simp [List.getD, Hx.out]
      have hpd : c.pl.getD k 0 = pv := by simp [List.getD, hpv]
      have hmo : moCells c h k = [.int .i64 ek, .int .i64 etm, .int .i64 eco, .int .i64 ebl, .int .i64 etr, .int .i64 ela, .int .i64 ead, .int .u64 eva, .int .i64 ecd, .int .i64 pv, c.hp pv k] := by unfold moCells; rw [hgd, hpd]; rfl
      have Hmo := Lib.hid hmo; clear hmo hgd hpd
      have HTL : Hid (∀ V, Below V0.heap.size V0 V → YieldAt Fence.wide (m - 1) Try.prog lp (encM c h k) V fun e W' => (e = .returned (.bool true) ∧ J (List.range k ++ [k]) W' ∧ KpC C V W') ∨ (e = .returned (.bool false) ∧ Jx (List.range k ++ [k]) W' ∧ KpC C V W')) := Lib.hid (fun V hV => HY.out (m - 1) (List.range k) k (List.range' (k + 1) (h.length - (k + 1))) V (range_split hlt) (HJ.out _ V0 _ none HJ0.out (grown_below hV) (fun r e => by cases e)))
      by_cases hm1 : pv = -1
      · subst hm1
        have hh : c.hp (-1) k = .pointer none := by unfold SC.hp happens; simp
        rw [hh] at Hmo
        clear hh
        have c9 := HM1.out.cell (i := 9) rfl
        gi_wp2
        gi_quiet (fail)
        have HV2 := Lib.hid (below_drewN HV1.out nq)
        have HM2 := Lib.hid (HM1.out.drewN nq)
        clear c9
        generalize V1.drewN nq = V2 at *
        have hTr2 := Lib.hid (HT0.out.trans (Tch.of_idle HV2.out))
        obtain ⟨fn, tmps, assign, body, hy, hR⟩ := HTL.out V2 HV2.out
        unfold encM at hy
        rw [Hmo.out] at hy
        have HR := Lib.hid hR; clear hR
        have m0 := HM2.out.cell (i := 0) rfl
        have m1 := HM2.out.cell (i := 1) rfl
        have m2 := HM2.out.cell (i := 2) rfl
        have m3 := HM2.out.cell (i := 3) rfl
        have m4 := HM2.out.cell (i := 4) rfl
        have m5 := HM2.out.cell (i := 5) rfl
        have m6 := HM2.out.cell (i := 6) rfl
        have m7 := HM2.out.cell (i := 7) rfl
        have m8 := HM2.out.cell (i := 8) rfl
        have m9 := HM2.out.cell (i := 9) rfl
        have m10 := HM2.out.cell (i := 10) rfl
        gi_wp2
        refine ⟨fun h => (by cases h), HR.out.mono ?_⟩
        rintro e W3 (⟨rfl, hJ3, hk3⟩ | ⟨rfl, hJx3, _⟩)
        · have hJ4 := Lib.hid hJ3
          have hT3 := Lib.hid (hTr2.out.trans hk3)
          clear hJ3 hk3
          gi_wp2
          go_roundw
          case rel => exact ⟨k + 1, by omega, by simp, by rw [List.range_succ]; exact hJ4.out, hT3.out⟩
          case measure => simp [intOf]; omega
        · gi_wp2
          refine bodyPost_ret (results_none rfl _ _ _) rfl ?_
          exact ⟨⟨_, rfl⟩, .inr ⟨_, ⟨_, (by rw [range_split hlt, List.append_assoc]; rfl)⟩, hJx3⟩⟩
      · obtain ⟨j, hj, hjl⟩ : ∃ j : Nat, pv = (j : Int) ∧ j < c.l.length := by
          rcases HS.out.ri.pls pv (List.mem_of_getElem? hpv) with h1 | ⟨j, h1, h2⟩
          · exact absurd h1 hm1
          · exact ⟨j, h1, by simpa [SC.rd] using h2⟩
        subst hj
        obtain ⟨x, hxj⟩ : ∃ x, c.l[j]? = some x := ⟨_, List.getElem?_eq_getElem hjl⟩
        obtain ⟨g, capa, hva⟩ : ∃ g capa, c.va = .slice (some ⟨g, 0, none⟩) c.l.length capa := by
          obtain ⟨g, cap, e, _⟩ := HS0.out.att.1.form (by omega)
          exact ⟨g, cap, e⟩
        have hgd : c.rd.ks.getD j Kn.zero = x.k := c.rd_get hxj
        obtain ⟨bb, hbb⟩ : ∃ bb, (x.k.pt == (k : Int)) = bb := ⟨_, rfl⟩
        have hh : c.hp (j : Int) k = if bb then .pointer (some ⟨g, j * 14, none⟩) else .pointer none := by
          unfold SC.hp happens
          rw [if_neg hm1, Int.toNat_natCast, hgd, hbb, hva]
          rfl
        rw [hh] at Hmo
        clear hh hgd
        have F : ∀ V, Below V0.heap.size V0 V → V.cell? ⟨Bc, 0, none⟩ = some (.pointer (some ⟨c.p, 0, none⟩)) ∧ V.cell? ⟨c.p, 1, none⟩ = some (.slice (some ⟨g, 0, none⟩) c.l.length capa) ∧ V.cell? ⟨g, j * 14 + 5, none⟩ = some (.int .i64 x.k.pt) := fun V hV => by
          have s := HS0.out.next hV
          have hq := s.sto.1.cell (i := 1) rfl
          rw [hva] at hq
          exact ⟨(HF.out V hV).1, hq, (s.cells hxj (by rw [hva]; rfl)).c 5 rfl⟩
        have HF2 := Lib.hid F; clear F
        have hb1 : ((j : Int) != -1) = true := by simp
        have hjk : (0 : Int) ≤ (j : Int) ∧ (j : Int) < (c.l.length : Int) := by omega
        clear hm1 hxj hva hpv
        have c9 := HM1.out.cell (i := 9) rfl
        obtain ⟨x0, x1, x2⟩ := HF2.out V1 HV1.out
        gi_wp2
        gi_quiet (fail)
        have HV2 := Lib.hid (below_drewN HV1.out nq)
        have HM2 := Lib.hid (HM1.out.drewN nq)
        clear c9 x0 x1 x2
        generalize V1.drewN nq = V2 at *
        cases bb
        · simp only [Bool.false_eq_true, if_false] at Hmo
          have hTr2 := Lib.hid (HT0.out.trans (Tch.of_idle HV2.out))
          obtain ⟨fn, tmps, assign, body, hy, hR⟩ := HTL.out V2 HV2.out
          unfold encM at hy
          rw [Hmo.out] at hy
          have HR := Lib.hid hR; clear hR
          have m0 := HM2.out.cell (i := 0) rfl
          have m1 := HM2.out.cell (i := 1) rfl
          have m2 := HM2.out.cell (i := 2) rfl
          have m3 := HM2.out.cell (i := 3) rfl
          have m4 := HM2.out.cell (i := 4) rfl
          have m5 := HM2.out.cell (i := 5) rfl
          have m6 := HM2.out.cell (i := 6) rfl
          have m7 := HM2.out.cell (i := 7) rfl
          have m8 := HM2.out.cell (i := 8) rfl
          have m9 := HM2.out.cell (i := 9) rfl
          have m10 := HM2.out.cell (i := 10) rfl
          gi_wp2
          refine ⟨fun h => (by cases h), HR.out.mono ?_⟩
          rintro e W3 (⟨rfl, hJ3, hk3⟩ | ⟨rfl, hJx3, _⟩)
          · have hJ4 := Lib.hid hJ3
            have hT3 := Lib.hid (hTr2.out.trans hk3)
            clear hJ3 hk3
            gi_wp2
            go_roundw
            case rel => exact ⟨k + 1, by omega, by simp, by rw [List.range_succ]; exact hJ4.out, hT3.out⟩
            case measure => simp [intOf]; omega
          · gi_wp2
            refine bodyPost_ret (results_none rfl _ _ _) rfl ?_
            exact ⟨⟨_, rfl⟩, .inr ⟨_, ⟨_, (by rw [range_split hlt, List.append_assoc]; rfl)⟩, hJx3⟩⟩
        · simp only [if_true] at Hmo
          have c9 := HM2.out.cell (i := 9) rfl
          have c10 := HM2.out.cell (i := 10) rfl
          have f10 := HM2.out.free 10
          obtain ⟨x0, x1, x2⟩ := HF2.out V2 HV2.out
          gi_wp2
          gi_region
          have hM3 : Holds ((V2.setCell ⟨V0.heap.size, 10, none⟩ (.pointer (some ⟨g, j * 14, none⟩))).drew) V0.heap.size 85 [.int .i64 ek, .int .i64 etm, .int .i64 eco, .int .i64 ebl, .int .i64 etr, .int .i64 ela, .int .i64 ead, .int .u64 eva, .int .i64 ecd, .int .i64 (j : Int), .pointer (some ⟨g, j * 14, none⟩)] := HM2.out.set 10 _
          have hV3 : Below V0.heap.size V0 ((V2.setCell ⟨V0.heap.size, 10, none⟩ (.pointer (some ⟨g, j * 14, none⟩))).drew) := below_drew1 (HV2.out.setCell (p := ⟨V0.heap.size, 10, none⟩) (Nat.le_refl _) _)
          clear c9 c10 f10 x0 x1 x2
          generalize (V2.setCell ⟨V0.heap.size, 10, none⟩ (.pointer (some ⟨g, j * 14, none⟩))).drew = V3 at *
          have HM3 := Lib.hid hM3; clear hM3 HM2
          have HV3 := Lib.hid hV3; clear hV3 HV2
          have hTr2 := Lib.hid (HT0.out.trans (Tch.of_idle HV3.out))
          obtain ⟨fn, tmps, assign, body, hy, hR⟩ := HTL.out V3 HV3.out
          unfold encM at hy
          rw [Hmo.out] at hy
          have HR := Lib.hid hR; clear hR
          have m0 := HM3.out.cell (i := 0) rfl
          have m1 := HM3.out.cell (i := 1) rfl
          have m2 := HM3.out.cell (i := 2) rfl
          have m3 := HM3.out.cell (i := 3) rfl
          have m4 := HM3.out.cell (i := 4) rfl
          have m5 := HM3.out.cell (i := 5) rfl
          have m6 := HM3.out.cell (i := 6) rfl
          have m7 := HM3.out.cell (i := 7) rfl
          have m8 := HM3.out.cell (i := 8) rfl
          have m9 := HM3.out.cell (i := 9) rfl
          have m10 := HM3.out.cell (i := 10) rfl
          gi_wp2
          refine ⟨fun h => (by cases h), HR.out.mono ?_⟩
          rintro e W3 (⟨rfl, hJ3, hk3⟩ | ⟨rfl, hJx3, _⟩)
          · have hJ4 := Lib.hid hJ3
            have hT3 := Lib.hid (hTr2.out.trans hk3)
            clear hJ3 hk3
            gi_wp2
            go_roundw
            case rel => exact ⟨k + 1, by omega, by simp, by rw [List.range_succ]; exact hJ4.out, hT3.out⟩
            case measure => simp [intOf]; omega
          · gi_wp2
            refine bodyPost_ret (results_none rfl _ _ _) rfl ?_
            exact ⟨⟨_, rfl⟩, .inr ⟨_, ⟨_, (by rw [range_split hlt, List.append_assoc]; rfl)⟩, hJx3⟩⟩
    · obtain rfl : k = h.length := by omega
      gi_wp2
      go_end0
      exact ⟨⟨_, rfl⟩, .inl HJs.out⟩

end Go.Proofs.Ytgjbhcnadenojaa
