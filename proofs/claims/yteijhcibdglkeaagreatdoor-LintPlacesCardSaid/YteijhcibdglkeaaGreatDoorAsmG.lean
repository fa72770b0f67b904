/- A reader, in memory; a label is read. Conditions: those stated in each theorem. -/
import Derived.Test.YteijhcibdglkeaaGreatDoorAsmF
import Derived.Deep.RegionLaw
import Derived.Deep.AppendLies
namespace Go.Proofs.YteijhcibdglkeaaGreatDoor
open Go.RowKit Go.BigFrame Go.Shelf Go.Maps

theorem Tryz.infoIn : (Tryz.prog.info? 43).map (fun i => (i.zero, i.size, i.bytes)) = some (some (.agg #[.int .i64 0, .int .i64 0, .int .i64 0, .int .i64 0, .int .i64 0]), 5, 40) := by kernel_rfl
theorem Tryz.infoLb : (Tryz.prog.info? 143).map (fun i => (i.zero, i.size, i.bytes)) = some (some (.agg #[.string ⟨#[]⟩, .int .i64 0]), 2, 24) := by kernel_rfl
def flatA (l : List In) : List Value := l.flatMap In.cells
theorem flatA_snoc (l : List In) (x : In) : flatA (l ++ [x]) = flatA l ++ x.cells := by simp [flatA]
def lbCells (p : By × Nat) : List Value := [.string ⟨p.1.toArray⟩, .int .i64 p.2]
def flatB (l : List (By × Nat)) : List Value := l.flatMap lbCells
theorem flatB_snoc (l : List (By × Nat)) (x : By × Nat) : flatB (l ++ [x]) = flatB l ++ lbCells x := by simp [flatB]
theorem row_form {w : World} {lo : Nat} {e : TypeId} {size : Nat} {v : Value} {n : Nat} {xs : List Value} (h : w.ownsRow lo e size v n xs) : ∃ (ad : Option Addr) (cap : Nat), v = .slice ad n cap := by
  rcases owns_form h with ⟨rfl, h2, _⟩ | ⟨g, cap, rfl, _⟩
  · exact ⟨none, 0, by rw [h2]⟩
  · exact ⟨_, _, rfl⟩

structure RdPt (w : World) (B b mb : Nat) (m : Nms) (n : Nat) (x : Rs) (cv lv : Value) : Prop where
  head : Holds w b 81 [.map (some mb), cv, lv]
  code : w.ownsRow B 43 5 cv x.code.length (flatA x.code)
  labs : w.ownsRow B 143 2 lv x.labels.length (flatB x.labels)
  map : NmAt w mb 2000000 m
  lob : B ≤ b
  ln : x.code.length ≤ 1024
  lln : x.labels.length ≤ n
/-- Block b holds a reader, whose blocks are from B on. -/
def RdAt (w : World) (B b mb : Nat) (m : Nms) (n : Nat) (x : Rs) : Prop := ∃ cv lv, RdPt w B b mb m n x cv lv
/-- Blocks that a reader may turn. -/
def RdC (B : Nat) (w : World) (k : Nat) : Prop := B ≤ k ∧ ∃ c t fr, w.heap[k]? = some (.cells c t fr) ∧ (t = 81 ∨ t = 43 ∨ t = 143)
theorem RdC.trans {B : Nat} {a w1 w2 : World} (h : Tch (RdC B a) a w1) (k : Tch (RdC B w1) w1 w2) : Tch (RdC B a) a w2 :=
  ⟨k.os.trans h.os, k.tape.trans h.tape, k.output.trans h.output, Nat.le_trans h.size k.size, fun i hi hc => by
    have h1 := h.block i hi hc
    refine (k.block i (Nat.lt_of_lt_of_le hi h.size) (fun e => hc ?_)).trans h1
    obtain ⟨e0, c, t, fr, e1, e2⟩ := e
    exact ⟨e0, c, t, fr, h1 ▸ e1, e2⟩⟩
theorem RdC.holds {B : Nat} {w w' : World} (h : Tch (RdC B w) w w') {c : Nat} {t : TypeId} {L : List Value} (hl : Holds w c t L) (ht : ¬ (t = 81 ∨ t = 43 ∨ t = 143)) : Holds w' c t L :=
  h.holds (fun e => by
    obtain ⟨_, c', t', fr, e1, e2⟩ := e
    unfold Holds at hl
    rw [hl] at e1; cases e1; exact ht e2) hl
theorem RdC.idle {B : Nat} {w w' : World} (h : Below w.heap.size w w') : Tch (RdC B w) w w' := Tch.of_idle h
theorem RdC.below {B : Nat} {w w' : World} (h : Tch (RdC B w) w w') (hB : B ≤ w.heap.size) : Below B w w' := h.below hB (fun _ e => e.1)
theorem RdPt.idle {w w' : World} {B b mb n : Nat} {m : Nms} {x : Rs} {cv lv : Value} (h : RdPt w B b mb m n x cv lv) (hb : Below w.heap.size w w') : RdPt w' B b mb m n x cv lv :=
  ⟨h.head.below hb, owns_same h.code (fun g e => hb.block g (owns_lt h.code e).2), owns_same h.labs (fun g e => hb.block g (owns_lt h.labs e).2), h.map.below hb, h.lob, h.ln, h.lln⟩
theorem RdPt.more {w : World} {B b mb n : Nat} {m : Nms} {x : Rs} {cv lv : Value} (h : RdPt w B b mb m n x cv lv) : RdPt w B b mb m (n + 1) x cv lv :=
  ⟨h.head, h.code, h.labs, h.map, h.lob, h.ln, Nat.le_succ_of_le h.lln⟩
theorem RdAt.own {B b mb n : Nat} {m : Nms} {x : Rs} {C : Nat} (X Y : World) (row : Option Nat) (hs : RdAt X B b mb m n x) (hg : X.grownBy Y row) (hr : ∀ r, row = some r → C ≤ r ∧ ∃ o, X.heap[r]? = some o ∧ o.isCells = false) (hmb : mb < C) : RdAt Y B b mb m n x := by
  obtain ⟨cv, lv, h⟩ := hs
  have cells : ∀ (k : Nat) (c : Array Value) (t : TypeId) (fr : Nat × Nat), X.heap[k]? = some (.cells c t fr) → Y.heap[k]? = X.heap[k]? := fun k c t fr hk => hg.block k (Array.getElem?_eq_some_iff.1 hk).1 (fun e => by
    obtain ⟨o, ho, hc⟩ := (hr k e.symm).2
    rw [hk] at ho; cases ho; cases hc)
  refine ⟨cv, lv, h.head.same (cells _ _ _ _ h.head), owns_same h.code (fun g e => ?_), owns_same h.labs (fun g e => ?_), h.map.same (hg.block mb h.map.lt (fun e => by have := (hr mb e.symm).1; omega)), h.lob, h.ln, h.lln⟩
  · obtain ⟨c, hc⟩ := owns_kind h.code e; exact cells _ _ _ _ hc
  · obtain ⟨c, hc⟩ := owns_kind h.labs e; exact cells _ _ _ _ hc

section
variable {w w' : World} {B b mb n : Nat} {m : Nms} {x : Rs} {cv lv : Value}
theorem RdPt.apart (h : RdPt w B b mb m n x cv lv) : (∀ k, cv.ownBlock = some k → k ≠ b ∧ k ≠ mb ∧ lv.ownBlock ≠ some k) ∧ (∀ k, lv.ownBlock = some k → k ≠ b ∧ k ≠ mb ∧ cv.ownBlock ≠ some k) ∧ b ≠ mb := by
  have hh := h.head
  unfold Holds at hh
  have h1 : ∀ k, cv.ownBlock = some k → k ≠ b ∧ k ≠ mb ∧ lv.ownBlock ≠ some k := fun k e => by
    obtain ⟨c, hc⟩ := owns_kind h.code e
    refine ⟨fun e2 => ?_, fun e2 => ?_, fun e2 => ?_⟩
    · subst e2; rw [hh] at hc; cases hc
    · exact h.map.ne hc e2
    · obtain ⟨d, hd⟩ := owns_kind h.labs e2; rw [hd] at hc; cases hc
  refine ⟨h1, fun k e => ?_, h.map.ne hh⟩
  obtain ⟨c, hc⟩ := owns_kind h.labs e
  refine ⟨fun e2 => ?_, fun e2 => ?_, fun e2 => ?_⟩
  · subst e2; rw [hh] at hc; cases hc
  · exact h.map.ne hc e2
  · exact (h1 k e2).2.2 e
/-- Only the reader's block and its labels have turned. -/
theorem RdPt.labelled (h : RdPt w B b mb m n x cv lv) {V : World} (hw : Below w.heap.size w V) {o : Obj} {w3 : World} (hg : World.grownBy (V.alloc o) w3 lv.ownBlock) {v' : Value} {p : By × Nat} (hown : w3.ownsRow B 143 2 v' (x.labels.length + 1) (flatB x.labels ++ lbCells p)) :
    RdPt (w3.setCell ⟨b, 2, none⟩ v') B b mb m (n + 1) { x with labels := x.labels ++ [p] } cv v' ∧ Tch (RdC B w) w (w3.setCell ⟨b, 2, none⟩ v') := by
  obtain ⟨a1, a2, a3⟩ := h.apart
  have keep : ∀ k, k < w.heap.size → lv.ownBlock ≠ some k → w3.heap[k]? = w.heap[k]? := fun k hk hne =>
    ((hg.block k (by rw [World.size_alloc]; have := hw.size; omega) (fun e => hne e.symm)).trans (Below.heap_alloc V o k (by have := hw.size; omega))).trans (hw.block k hk)
  have hb3 : Holds w3 b 81 [.map (some mb), cv, lv] := h.head.same (keep b h.head.lt (fun e => (a2 b e).1 rfl))
  have keep2 : ∀ k, k < w.heap.size → lv.ownBlock ≠ some k → k ≠ b → (w3.setCell ⟨b, 2, none⟩ v').heap[k]? = w.heap[k]? := fun k hk h1 h2 => (Below.heap_setCell w3 ⟨b, 2, none⟩ v' k h2).trans (keep k hk h1)
  have hvb : ∀ g, v'.ownBlock = some g → g ≠ b := fun g e e2 => by
    obtain ⟨c, hc⟩ := owns_kind hown e
    subst e2; unfold Holds at hb3; rw [hb3] at hc; cases hc
  refine ⟨⟨hb3.set 2 _, owns_same h.code (fun g e => keep2 g (owns_lt h.code e).2 (a1 g e).2.2 (a1 g e).1), ?_, h.map.same (keep2 mb h.map.lt (fun e => (a2 mb e).2.1 rfl) (Ne.symm a3)), h.lob, h.ln, by have := h.lln; simp; omega⟩, ?_⟩
  · have := owns_same (w' := w3.setCell ⟨b, 2, none⟩ v') hown (fun g e => Below.heap_setCell w3 ⟨b, 2, none⟩ v' g (hvb g e))
    rw [flatB_snoc, List.length_append]; exact this
  · refine ⟨hg.os.trans (hw.os), hg.tape.trans hw.tape, hg.output.trans hw.output, ?_, fun k hk hc => ?_⟩
    · have h1 := hg.size; rw [World.size_alloc] at h1; have := hw.size
      have h2 : (w3.setCell ⟨b, 2, none⟩ v').heap.size = w3.heap.size := by simp
      omega
    · refine keep2 k hk (fun e => hc ?_) (fun e => hc ?_)
      · obtain ⟨c, hd⟩ := owns_kind h.labs e
        exact ⟨(owns_lt h.labs e).1, c, _, _, hd, .inr (.inr rfl)⟩
      · subst e; exact ⟨h.lob, _, _, _, h.head, .inl rfl⟩
/-- Only the reader's block and its instructions have turned. -/
theorem RdPt.coded (h : RdPt w B b mb m n x cv lv) {V : World} (hw : Below w.heap.size w V) {o : Obj} {w3 : World} (hg : World.grownBy (V.alloc o) w3 cv.ownBlock) {v' : Value} {i : In} (hown : w3.ownsRow B 43 5 v' (x.code.length + 1) (flatA x.code ++ i.cells)) (hlt : x.code.length < 1024) :
    RdPt (w3.setCell ⟨b, 1, none⟩ v') B b mb m (n + 1) { x with code := x.code ++ [i] } v' lv ∧ Tch (RdC B w) w (w3.setCell ⟨b, 1, none⟩ v') := by
  obtain ⟨a1, a2, a3⟩ := h.apart
  have keep : ∀ k, k < w.heap.size → cv.ownBlock ≠ some k → w3.heap[k]? = w.heap[k]? := fun k hk hne =>
    ((hg.block k (by rw [World.size_alloc]; have := hw.size; omega) (fun e => hne e.symm)).trans (Below.heap_alloc V o k (by have := hw.size; omega))).trans (hw.block k hk)
  have hb3 : Holds w3 b 81 [.map (some mb), cv, lv] := h.head.same (keep b h.head.lt (fun e => (a1 b e).1 rfl))
  have keep2 : ∀ k, k < w.heap.size → cv.ownBlock ≠ some k → k ≠ b → (w3.setCell ⟨b, 1, none⟩ v').heap[k]? = w.heap[k]? := fun k hk h1 h2 => (Below.heap_setCell w3 ⟨b, 1, none⟩ v' k h2).trans (keep k hk h1)
  have hvb : ∀ g, v'.ownBlock = some g → g ≠ b := fun g e e2 => by
    obtain ⟨c, hc⟩ := owns_kind hown e
    subst e2; unfold Holds at hb3; rw [hb3] at hc; cases hc
  refine ⟨⟨hb3.set 1 _, ?_, owns_same h.labs (fun g e => keep2 g (owns_lt h.labs e).2 (a2 g e).2.2 (a2 g e).1), h.map.same (keep2 mb h.map.lt (fun e => (a1 mb e).2.1 rfl) (Ne.symm a3)), h.lob, by simp; omega, Nat.le_succ_of_le h.lln⟩, ?_⟩
  · have := owns_same (w' := w3.setCell ⟨b, 1, none⟩ v') hown (fun g e => Below.heap_setCell w3 ⟨b, 1, none⟩ v' g (hvb g e))
    rw [flatA_snoc, List.length_append]; exact this
  · refine ⟨hg.os.trans (hw.os), hg.tape.trans hw.tape, hg.output.trans hw.output, ?_, fun k hk hc => ?_⟩
    · have h1 := hg.size; rw [World.size_alloc] at h1; have := hw.size
      have h2 : (w3.setCell ⟨b, 1, none⟩ v').heap.size = w3.heap.size := by simp
      omega
    · refine keep2 k hk (fun e => hc ?_) (fun e => hc ?_)
      · obtain ⟨c, hd⟩ := owns_kind h.code e
        exact ⟨(owns_lt h.code e).1, c, _, _, hd, .inr (.inl rfl)⟩
      · subst e; exact ⟨h.lob, _, _, _, h.head, .inl rfl⟩
end

/-- A label is taken, or not. -/
def labP (m : Nms) (x : Rs) (n : Nat) (s : By) : Option Rs := if lineOf m s = n then some { x with labels := x.labels ++ [(s, placeOf m s)] } else none

set_option maxRecDepth 100000 in
set_option maxHeartbeats 4000000 in
theorem label_any {w : World} {B b mb n : Nat} {m : Nms} {x : Rs} (hR : RdAt w B b mb m n x) (hB : B ≤ w.heap.size) (hn : n ≤ 1000000) (ln : Nat) (s : By) (hs : s.length ≤ 900000) :
    Calls Tryz.prog 55 #[.pointer (some ⟨b, 0, none⟩), .int .i64 ln, .string ⟨s.toArray⟩] w fun e w' => (e = .returned (.bool (labP m x ln s).isSome) ∧ RdAt w' B b mb m (n + 1) ((labP m x ln s).getD x)) ∧ Tch (RdC B w) w w' := by
  obtain ⟨cv, lv, hR⟩ := hR
  obtain ⟨ad, cap, rfl⟩ := row_form hR.labs
  have c0 := hR.head.cell (i := 0) rfl
  have hlk := hR.map.run (s := s) (by omega)
  have hlab : labP m x ln s = if ((m s).getD (0, 0)).1 = ln then some { x with labels := x.labels ++ [(s, ((m s).getD (0, 0)).2)] } else none := rfl
  generalize (m s).getD (0, 0) = p at *
  obtain ⟨p1, p2⟩ := p
  simp only at hlab
  have hb0 : Below w.heap.size w (w.alloc (.cells #[.int .i64 (p1 : Int), .int .i64 (p2 : Int)] 117)) := (Below.refl _ w).alloc (Nat.le_refl _) _
  have hq0 : Holds (w.alloc (.cells #[.int .i64 (p1 : Int), .int .i64 (p2 : Int)] 117)) w.heap.size 117 [.int .i64 (p1 : Int), .int .i64 (p2 : Int)] := Holds.new w 117 [.int .i64 (p1 : Int), .int .i64 (p2 : Int)]
  have hs0 : (w.alloc (.cells #[.int .i64 (p1 : Int), .int .i64 (p2 : Int)] 117)).heap.size = w.heap.size + 1 := by simp
  go_enter Tryz.func55, Tryz.ntmps55
  by_cases h1 : p1 = ln
  · subst h1
    rw [if_pos rfl] at hlab
    have Hlab := Lib.hid hlab; clear hlab
    have HR := Lib.hid hR; clear hR
    go_upto_region 4 with fail
    generalize w.alloc (.cells #[.int .i64 (p1 : Int), .int .i64 (p2 : Int)] 117) = W at *
    have hRW := HR.out.idle hb0
    have HRW := Lib.hid hRW; clear hRW
    have Hb0 := Lib.hid hb0; clear hb0
    have Hq0 := Lib.hid hq0; clear hq0
    obtain ⟨i0, hi0, hz0, hz1, hz2⟩ := info_parts Tryz.infoLb
    have Hi := Lib.hid hi0; clear hi0
    have Hz0 := Lib.hid hz0; clear hz0
    have Hz1 := Lib.hid hz1; clear hz1
    have Hz2 := Lib.hid hz2; clear hz2
    have hS : ∀ V, Below W.heap.size W V → V.cell? ⟨b, 2, none⟩ = some (.slice ad x.labels.length cap) ∧ V.cell? ⟨w.heap.size, 1, none⟩ = some (.int .i64 (p2 : Int)) := fun V hV => ⟨(HRW.out.idle hV).head.cell (i := 2) rfl, (Hq0.out.below hV).cell (i := 1) rfl⟩
    have HS := Lib.hid hS; clear hS
    have hBd : Below W.heap.size W W.drew := below_drew1 (Below.refl _ _)
    have HBd := Lib.hid hBd; clear hBd
    obtain ⟨k1, k2⟩ := HS.out _ HBd.out
    have hcl := fun V => clone_any s (by omega) V
    have HCl := Lib.hid hcl; clear hcl
    have HG : Hid (∀ V, Below W.heap.size W V → ∀ w9, World.grownBy (V.alloc (.cells (lbCells (s, p2)).toArray 143)) w9 (Value.slice ad x.labels.length cap).ownBlock → w9.cell? ⟨b, 2, none⟩ = some (.slice ad x.labels.length cap) ∧ w9.frozen? ⟨b, 2, none⟩ = false) := Lib.hid (fun V hV w9 hg => by
      have q := (HRW.out.idle (hV.alloc hV.size (.cells (lbCells (s, p2)).toArray 143)))
      have q2 := q.head.same (hg.block b q.head.lt (fun e => (q.apart.2.1 b e.symm).1 rfl))
      exact ⟨q2.cell (i := 2) rfl, q2.free 2⟩)
    have hlln := HR.out.lln
    clear c0 hlk
    go_region_law (first | (go_simp; go_at_call 76; (with_reducible refine (HCl.out W.drew).mono ?_); rintro z V ⟨rfl, hb⟩; have hB2 := HBd.out.trans (hb.mono HBd.out.size); obtain ⟨k1, k2⟩ := HS.out V hB2; obtain ⟨k3, k4⟩ := HS.out _ (hB2.alloc hB2.size (.cells (lbCells (s, p2)).toArray 143)); simp only [lbCells] at k3 k4) | (refine step_append_lies _ (by rfl) _ _ _ (by rfl) B 143 i0 _ 2 24 Tryz.underlying79 Hi.out Hz0.out Hz1.out Hz2.out rfl (by omega) (.slice ad x.labels.length cap) x.labels.length (flatB x.labels) (by rfl) (World.ownsRow.alloc (HRW.out.idle hB2).labs _) ⟨V.heap.size, 0, none⟩ 1 1 (lbCells (s, p2)) (by rfl) (by rfl) (World.news_of_block (cs := (lbCells (s, p2)).toArray) (t := 143) (fr := (0, 0)) (new_block V _)) (by simp [lbCells, Value.oneCell']) (by omega) (by unfold maxLen; omega) (by omega) (by first | (simp; done) | (rw [World.size_alloc]; have := hB2.size; have := Hb0.out.size; omega)) (V.heap.size + 1) (by first | (simp; done) | (rw [World.size_alloc]; have := hB2.size; have := Hb0.out.size; omega)) ?_; intro g9 cap9 w9 hown9 hgrow9 hat9 hlt9; have kc := (HG.out V hB2 w9 hgrow9).1; have kf := (HG.out V hB2 w9 hgrow9).2))
    all_goals
      have hfin := HRW.out.labelled hB2 hgrow9 (p := (s, p2)) hown9
      have HF := Lib.hid (show RdAt _ B b mb m (n + 1) _ ∧ Tch (RdC B w) w _ from ⟨⟨_, _, hfin.1⟩, RdC.trans (RdC.idle Hb0.out) hfin.2⟩)
      clear hfin hown9 hgrow9 hat9 hlt9 kc kf hB2 hb
      go_wp2
      refine bodyPost_ret (results_tmp rfl _ _ _) rfl ?_
      rw [Hlab.out]
      exact ⟨⟨rfl, HF.out.1⟩, HF.out.2⟩
  · have e1 : ((p1 : Int) == (ln : Int)) = false := by rw [beq_eq_false_iff_ne]; omega
    rw [if_neg h1] at hlab
    have Hlab := Lib.hid hlab; clear hlab
    have HR := Lib.hid hR; clear hR
    go_wp2_with fail
    refine bodyPost_ret (results_tmp rfl _ _ _) rfl ?_
    rw [Hlab.out]
    exact ⟨⟨rfl, _, _, (HR.out.idle hb0).more⟩, RdC.idle hb0⟩

end Go.Proofs.YteijhcibdglkeaaGreatDoor
