/- A node: fill. Conditions: those stated in each theorem. -/
import Derived.Test.YtddajnpichchfaaNodeG
namespace Go.Proofs.Ytddajnpichchfaa
open Go.RowKit Go.BigFrame Go.Sort

theorem Tch.setC {C : Nat → Prop} {a w : World} (h : Tch C a w) {b : Nat} (hb : a.heap.size ≤ b) (vs : List Value) (o : Nat) : Tch C a (w.setCells b o vs) := Tch.setCells (.inr hb) vs o h
theorem zero_cells : Ent.zero.cells = [.int .i64 0, .int .i64 0, .bool false, .bool false, .int .u64 0, .int .u64 0, .int .u64 0, .int .u64 0, .int .u64 0, .int .u64 0, .int .u64 0, .int .u64 0, .int .u64 0, .int .u64 0, .int .u64 0, .int .u64 0, .int .u64 0, .int .u64 0, .int .u64 0, .int .u64 0, .int .i64 0] := rfl
theorem splice_ent (e e' : Ent) : splice e.cells 0 e'.cells = e'.cells := by
  have := Ent.over e e'
  simpa only [splices, List.foldl_cons, List.foldl_nil] using this

section
variable {w w' : World} {lo a p S : Nat} {bs : List Nat} {ways : Nat} {bv : Value} {n : Nd}

theorem below_own' {w w' W : World} {a p : Nat} {bs : List Nat} {bv : Value} (_ : W.heap.size ≤ w.heap.size) (h : Below w.heap.size w w') : Tch (Own a p bs bv) w w' := below_own h
theorem fill_x {ss : Sets} {u : Int} (h : CacheAt w p S bs ways ss u) (k st x0 x1 x2 x3 x4 x5 x6 x7 : Int) (h0 : 0 ≤ u) (hu : u < 4294967296) {gone : Ent} {had : Bool} {er : Int} (hx : fillX ss k st = (gone, had, er)) :
    Calls Try.prog 32 #[.pointer (some ⟨p, 0, none⟩), .int .i64 k, .int .i64 st, .agg #[.int .u64 x0, .int .u64 x1, .int .u64 x2, .int .u64 x3, .int .u64 x4, .int .u64 x5, .int .u64 x6, .int .u64 x7]] w fun e w' =>
      e = .returned (.tuple #[.agg gone.cells.toArray, .bool had, .int .i64 er]) ∧ CacheAt w' p S bs ways (fillL ss u k st ⟨x0, x1, x2, x3, x4, x5, x6, x7⟩).1 (fillL ss u k st ⟨x0, x1, x2, x3, x4, x5, x6, x7⟩).2.1 ∧ Tch (Turns p bs) w w' :=
  (fill_any h k st ⟨x0, x1, x2, x3, x4, x5, x6, x7⟩ h0 hu).mono fun e w' hd => ⟨by have := hd.1; rw [fillL_val, hx] at this; exact this, hd.2⟩

@[local go_sem ↓ high] theorem store_ent (e : Ent) (n0 : Nat) (W : World) (h : W.there n0 0 21) : (storeCells ⟨n0, 0, none⟩ e.cells).run Try.prog W = .ok () (W.setCells n0 0 e.cells) := by
  have := run_storeCells_cells (P := Try.prog) n0 0 e.cells 0 W (fun j hj => by rw [Nat.add_zero]; exact (h j hj).1) (fun j hj => by rw [Nat.add_zero]; exact (h j hj).2) (fun v hv => by have := oneEnt e; simp only [List.all_toArray, List.all_eq_true] at this; exact this v hv)
  exact this

/-- What a node's cell and a box of words say in every world that but its cache has turned. -/
theorem fill_keeps (h : NodeAt w lo a p S bs ways bv n) {b7 : Nat} {x0 x1 x2 x3 x4 x5 x6 x7 : Int} (hb : Holds w b7 36 (L8.cells ⟨x0, x1, x2, x3, x4, x5, x6, x7⟩)) (hn : ¬ Turns p bs b7) (V : World) (hT : Tch (Turns p bs) w V) :
    V.cell? ⟨a, 2, none⟩ = some (.pointer (some ⟨p, 0, none⟩)) ∧ V.cell? ⟨b7, 0, none⟩ = some (.int .u64 x0) ∧ V.cell? ⟨b7, 1, none⟩ = some (.int .u64 x1) ∧ V.cell? ⟨b7, 2, none⟩ = some (.int .u64 x2) ∧ V.cell? ⟨b7, 3, none⟩ = some (.int .u64 x3) ∧ V.cell? ⟨b7, 4, none⟩ = some (.int .u64 x4) ∧ V.cell? ⟨b7, 5, none⟩ = some (.int .u64 x5) ∧ V.cell? ⟨b7, 6, none⟩ = some (.int .u64 x6) ∧ V.cell? ⟨b7, 7, none⟩ = some (.int .u64 x7) := by
  have h7 := hT.holds hn hb
  exact ⟨(hT.holds h.not_turns.1 h.head).cell (i := 2) rfl, h7.cell (i := 0) rfl, h7.cell (i := 1) rfl, h7.cell (i := 2) rfl, h7.cell (i := 3) rfl, h7.cell (i := 4) rfl, h7.cell (i := 5) rfl, h7.cell (i := 6) rfl, h7.cell (i := 7) rfl⟩

theorem fill_keeps2 (h : NodeAt w lo a p S bs ways bv n) {b7 n0 : Nat} {x0 x1 x2 x3 x4 x5 x6 x7 : Int} (hb : Holds w b7 36 (L8.cells ⟨x0, x1, x2, x3, x4, x5, x6, x7⟩)) (hn : ¬ Turns p bs b7) (h1 : a ≠ n0) (h2 : b7 ≠ n0) (V : World) (hT : Tch (Turns p bs) w V) (vs : List Value) :
    (V.setCells n0 0 vs).cell? ⟨a, 2, none⟩ = some (.pointer (some ⟨p, 0, none⟩)) ∧ (V.setCells n0 0 vs).cell? ⟨b7, 0, none⟩ = some (.int .u64 x0) ∧ (V.setCells n0 0 vs).cell? ⟨b7, 1, none⟩ = some (.int .u64 x1) ∧ (V.setCells n0 0 vs).cell? ⟨b7, 2, none⟩ = some (.int .u64 x2) ∧ (V.setCells n0 0 vs).cell? ⟨b7, 3, none⟩ = some (.int .u64 x3) ∧ (V.setCells n0 0 vs).cell? ⟨b7, 4, none⟩ = some (.int .u64 x4) ∧ (V.setCells n0 0 vs).cell? ⟨b7, 5, none⟩ = some (.int .u64 x5) ∧ (V.setCells n0 0 vs).cell? ⟨b7, 6, none⟩ = some (.int .u64 x6) ∧ (V.setCells n0 0 vs).cell? ⟨b7, 7, none⟩ = some (.int .u64 x7) := by
  have hT2 : Tch (· = n0) V (V.setCells n0 0 vs) := Tch.setCells (C := (· = n0)) (.inl rfl) _ _ (Tch.refl _ V)
  have h7 := hT2.holds h2 (hT.holds hn hb)
  exact ⟨(hT2.holds h1 (hT.holds h.not_turns.1 h.head)).cell (i := 2) rfl, h7.cell (i := 0) rfl, h7.cell (i := 1) rfl, h7.cell (i := 2) rfl, h7.cell (i := 3) rfl, h7.cell (i := 4) rfl, h7.cell (i := 5) rfl, h7.cell (i := 6) rfl, h7.cell (i := 7) rfl⟩

theorem fillL_same (ss : Sets) (u k st : Int) (d : L8) (h : (fillX ss k st).2.2 = 22) : (fillL ss u k st d).1 = ss ∧ (fillL ss u k st d).2.1 = u := by
  unfold fillX at h
  unfold fillL
  split
  · exact ⟨rfl, rfl⟩
  · rename_i h1
    rw [if_neg h1] at h
    split
    · exact ⟨rfl, rfl⟩
    · rename_i h2
      rw [h2] at h
      simp only at h
      split
      · exact ⟨rfl, rfl⟩
      · rename_i h3; rw [h3] at h; simp at h

/-- Behind the filling: the node, the box of who goes, the box of words. -/
structure FillAt (w Wf : World) (lo a p S : Nat) (bs : List Nat) (ways : Nat) (bv : Value) (n' : Nd) (b7 n0 : Nat) (d : L8) (gone : Ent) : Prop where
  node : NodeAt Wf lo a p S bs ways bv n'
  box : Holds Wf n0 42 gone.cells
  words : Holds Wf b7 36 d.cells
  tch : Tch (Own a p bs bv) w Wf
  far : w.heap.size ≤ n0 ∧ w.heap.size ≤ b7 ∧ n0 ≠ b7

set_option maxRecDepth 100000 in
set_option maxHeartbeats 4000000 in
theorem nfill_any (h : NodeAt w lo a p S bs ways bv n) (line st : Int) (d : L8) (h0 : 0 ≤ n.u) (hu : n.u < 4294967296) (hl : n.backs.length < 100000) :
    Calls Try.prog 109 #[.pointer (some ⟨a, 0, none⟩), .int .i64 line, .int .i64 st, .agg #[.int .u64 d.x0, .int .u64 d.x1, .int .u64 d.x2, .int .u64 d.x3, .int .u64 d.x4, .int .u64 d.x5, .int .u64 d.x6, .int .u64 d.x7]] w fun e w' => ∃ v, e = .returned v ∧ NOut w lo a p S bs ways bv (n.fill line st d).1 (n.fill line st d).2 v w' := by
  obtain ⟨x0, x1, x2, x3, x4, x5, x6, x7⟩ := d
  have hb0 : Below w.heap.size w (w.alloc (.cells (L8.cells ⟨x0, x1, x2, x3, x4, x5, x6, x7⟩).toArray 36)) := (Below.refl _ w).alloc (Nat.le_refl _) _
  have h1 := h.below hb0 (Nat.le_refl _)
  have h7 : Holds (w.alloc (.cells (L8.cells ⟨x0, x1, x2, x3, x4, x5, x6, x7⟩).toArray 36)) w.heap.size 36 (L8.cells ⟨x0, x1, x2, x3, x4, x5, x6, x7⟩) := Holds.new w _ _
  have hl0 := h.cache.lt
  have hal := h.head.lt
  have hn7 : ¬ Turns p bs w.heap.size := fun ht => ht.elim (fun e => by omega) (fun hm => by have := hl0.2.2 _ hm; omega)
  have hs1 : (w.alloc (.cells (L8.cells ⟨x0, x1, x2, x3, x4, x5, x6, x7⟩).toArray 36)).heap.size = w.heap.size + 1 := by simp
  have hT0 : Tch (Own a p bs bv) w (w.alloc (.cells (L8.cells ⟨x0, x1, x2, x3, x4, x5, x6, x7⟩).toArray 36)) := below_own hb0
  have hpos : ∀ k, Turns p bs k → k < w.heap.size := fun k hk => hk.elim (fun e => by omega) (fun hm => hl0.2.2 _ hm)
  have Hpos := Lib.hid hpos; clear hpos
  simp only [L8.cells] at h1 h7 hs1 hT0
  have hgl : ∀ g, bv.ownBlock = some g → g < w.heap.size := fun g e => (owns_lt h.own e).2
  have Hgl := Lib.hid hgl; clear hgl
  have hSlt : S < w.heap.size := hl0.2.1
  clear h hb0 hl0
  go_enter Try.func109, Try.ntmps109
  go_wp2
  generalize (w.alloc (.cells #[.int .u64 x0, .int .u64 x1, .int .u64 x2, .int .u64 x3, .int .u64 x4, .int .u64 x5, .int .u64 x6, .int .u64 x7] 36)) = W at *
  generalize hb7 : w.heap.size = b7 at *
  have Hb7 := Lib.hid hb7; clear hb7
  have HSlt := Lib.hid hSlt; clear hSlt
  obtain ⟨gone, had, er, hfx⟩ : ∃ gone had er, fillX n.ss line st = (gone, had, er) := ⟨_, _, _, rfl⟩
  have hk0 := fill_keeps h1 h7 hn7 W (Tch.refl _ W)
  obtain ⟨k2, e0, e1, e2, e3, e4, e5, e6, e7⟩ := hk0
  have HK := Lib.hid (fill_keeps h1 h7 hn7)
  have hTd : Tch (Turns p bs) W W.drew := (Tch.refl _ W).drew
  have hTa : Tch (Turns p bs) W (W.alloc (.cells Ent.zero.cells.toArray 42)).drew := ((Tch.refl _ W).alloc _).drew
  have HFd := Lib.hid (fill_x (w := W.drew) (h1.cache.below (drew_below (Below.refl W.heap.size W)) (Nat.le_refl _)) line st x0 x1 x2 x3 x4 x5 x6 x7 h0 hu hfx)
  have HFa := Lib.hid (fill_x (w := (W.alloc (.cells Ent.zero.cells.toArray 42)).drew) (h1.cache.below (drew_below ((Below.refl W.heap.size W).alloc (Nat.le_refl _) _)) (Nat.le_refl _)) line st x0 x1 x2 x3 x4 x5 x6 x7 h0 hu hfx)
  have hth : ∀ V : World, (V.alloc (.cells Ent.zero.cells.toArray 42)).there V.heap.size 0 21 := fun V => there_new V Ent.zero.cells 42 21 rfl
  have hnW : ¬ Turns p bs W.heap.size := fun ht => by have := Hpos.out _ ht; omega
  have hthA : ∀ V : World, Tch (Turns p bs) (W.alloc (.cells Ent.zero.cells.toArray 42)).drew V → V.there W.heap.size 0 21 ∧ Holds V W.heap.size 42 Ent.zero.cells := fun V hT => by
    have := hT.holds hnW (show Holds (W.alloc (.cells Ent.zero.cells.toArray 42)).drew W.heap.size 42 Ent.zero.cells from Holds.new W _ _)
    exact ⟨this.there' 0 21 (by rw [Ent.len]; omega), this⟩
  have HthA := Lib.hid hthA; clear hthA
  have HTd := Lib.hid hTd; clear hTd
  have HTa := Lib.hid hTa; clear hTa
  have H1 := Lib.hid h1; clear h1
  have H7 := Lib.hid h7; clear h7
  have HT0 := Lib.hid hT0; clear hT0
  have Hs1 := Lib.hid hs1; clear hs1
  simp only [zero_cells] at hth HFa HTa
  have Hfx := Lib.hid hfx; clear hfx
  go_region_held3 (fun V => V.cell? ⟨a, 2, none⟩ = some (.pointer (some ⟨p, 0, none⟩)) ∧ V.cell? ⟨b7, 0, none⟩ = some (.int .u64 x0) ∧ V.cell? ⟨b7, 1, none⟩ = some (.int .u64 x1) ∧ V.cell? ⟨b7, 2, none⟩ = some (.int .u64 x2) ∧ V.cell? ⟨b7, 3, none⟩ = some (.int .u64 x3) ∧ V.cell? ⟨b7, 4, none⟩ = some (.int .u64 x4) ∧ V.cell? ⟨b7, 5, none⟩ = some (.int .u64 x5) ∧ V.cell? ⟨b7, 6, none⟩ = some (.int .u64 x6) ∧ V.cell? ⟨b7, 7, none⟩ = some (.int .u64 x7)) (first | with_reducible exact HK.out _ HTd.out | with_reducible exact HK.out _ HTa.out | with_reducible exact HK.out _ hTf | with_reducible exact HK.out _ (hTf.alloc _) | with_reducible exact HK.out _ ((hTf.alloc _).setC hTf.size _ _) | with_reducible exact HK.out _ (hTf.setC (Nat.le_refl _) _ _)) (first | (go_at_call 32; (with_reducible refine HFd.out.mono ?_); rintro e V ⟨rfl, hc, hT⟩; have hTf := HTd.out.trans hT) | (go_at_call 32; (with_reducible refine HFa.out.mono ?_); rintro e V ⟨rfl, hc, hT⟩; have hTf := HTa.out.trans hT; have hth3 := (HthA.out V hT).1))
  · have hv := (H1.out.below (drew_below (Below.refl W.heap.size W)) (Nat.le_refl _)).turn hc hT
    have hbf : Below V.heap.size V ((V.alloc (.cells Ent.zero.cells.toArray 42)).setCells V.heap.size 0 gone.cells) := below_setCells (Nat.le_refl _) _ _ ((Below.refl _ V).alloc (Nat.le_refl _) _)
    have h7V := hTf.holds hn7 H7.out
    have hbx : Holds ((V.alloc (.cells Ent.zero.cells.toArray 42)).setCells V.heap.size 0 gone.cells) V.heap.size 42 gone.cells := by
      have := (Holds.new V 42 Ent.zero.cells).sets gone.cells 0
      rwa [splice_ent] at this
    have hsz := hTf.size
    rw [Hs1.out] at hsz
    have HF : Hid (FillAt w ((V.alloc (.cells Ent.zero.cells.toArray 42)).setCells V.heap.size 0 gone.cells) lo a p S bs ways bv (n.fillL line st ⟨x0, x1, x2, x3, x4, x5, x6, x7⟩) b7 V.heap.size ⟨x0, x1, x2, x3, x4, x5, x6, x7⟩ gone) := Lib.hid ⟨hv.below hbf (Nat.le_refl _), hbx, h7V.same (hbf.block _ h7V.lt), (HT0.out.trans (tch_own hTf)).trans (below_own' (Nat.le_trans HT0.out.size hTf.size) hbf), ⟨by have := Hb7.out; omega, by rw [Hb7.out]; exact Nat.le_refl _, by omega⟩⟩
    simp only [zero_cells] at HF
    clear hv hbf h7V hbx hsz hc hT hTf hth hnW k2 e0 e1 e2 e3 e4 e5 e6 e7
    generalize (V.alloc (.cells #[.int .i64 0, .int .i64 0, .bool false, .bool false, .int .u64 0, .int .u64 0, .int .u64 0, .int .u64 0, .int .u64 0, .int .u64 0, .int .u64 0, .int .u64 0, .int .u64 0, .int .u64 0, .int .u64 0, .int .u64 0, .int .u64 0, .int .u64 0, .int .u64 0, .int .u64 0, .int .i64 0] 42)).setCells V.heap.size 0 gone.cells = Wf at *
    generalize V.heap.size = n0 at *
    clear HFd HFa HTd HTa HthA HK
    by_cases her : er = 22
    · have hsame := fillL_same n.ss n.u line st ⟨x0, x1, x2, x3, x4, x5, x6, x7⟩ (by rw [Hfx.out]; exact her)
      have hfill : n.fillL line st ⟨x0, x1, x2, x3, x4, x5, x6, x7⟩ = n := by unfold Nd.fillL; rw [hsame.1, hsame.2]
      rw [hfill] at HF
      have Her := Lib.hid her
      subst her
      clear hsame hfill
      have HAb := Lib.hid (abort_ok HF.out.node 3)
      go_wp2_with fail
      refine HAb.out.mono ?_
      rintro e w5 ⟨rfl, h5, hT5⟩
      have hno : ∀ k, w.heap.size ≤ k → ¬ Own a p bs bv k := fun k hk ho => by
        rcases ho with rfl | ho | ho
        · have := Hb7.out; omega
        · have := Hpos.out k ho; have := Hb7.out; omega
        · have := Hgl.out k ho; have := Hb7.out; omega
      have b5 := hT5.holds (hno _ HF.out.far.1) HF.out.box
      have g5 := hT5.holds (hno _ HF.out.far.2.1) HF.out.words
      have t5 := HF.out.tch.trans hT5
      have hn5 : ¬ Turns p bs b7 := fun ht => hno _ HF.out.far.2.1 (.inr (.inl ht))
      have hn0 : ¬ Turns p bs n0 := fun ht => hno _ HF.out.far.1 (.inr (.inl ht))
      have hk5 := fill_keeps h5 g5 hn5 w5 (Tch.refl _ _)
      obtain ⟨k2, e0, e1, e2, e3, e4, e5, e6, e7⟩ := hk5
      have HK := Lib.hid (fill_keeps h5 g5 hn5)
      have hna : a ≠ n0 := fun e => hno _ HF.out.far.1 (.inl e.symm)
      have HK2 := Lib.hid (fill_keeps2 h5 g5 hn5 hna HF.out.far.2.2.symm)
      have Hna := Lib.hid hna; clear hna
      have hTd : Tch (Turns p bs) w5 w5.drew := (Tch.refl _ w5).drew
      obtain ⟨gone2, had2, er2, hfx2⟩ : ∃ gone had er, fillX (n.abort 3).ss line st = (gone, had, er) := ⟨_, _, _, rfl⟩
      have HFd := Lib.hid (fill_x (w := w5.drew) (h5.cache.below (drew_below (Below.refl w5.heap.size w5)) (Nat.le_refl _)) line st x0 x1 x2 x3 x4 x5 x6 x7 h0 hu hfx2)
      have Hfx2 := Lib.hid hfx2
      have HTd := Lib.hid hTd
      have H5 := Lib.hid h5
      have B5 := Lib.hid b5
      have T5 := Lib.hid t5
      have Hn0 := Lib.hid hn0
      have Hno := Lib.hid hno
      have Far := Lib.hid HF.out.far
      have hth5 : ∀ V : World, Tch (Turns p bs) w5 V → V.there n0 0 21 := fun V hT => (hT.holds hn0 b5).there' 0 21 (by rw [Ent.len]; omega)
      have Hth5 := Lib.hid hth5
      clear h5 hT5 b5 g5 t5 hn5 hn0 hno hTd hfx2 hth5 HF HAb
      go_wp2
      go_region_held3 (fun V => V.cell? ⟨a, 2, none⟩ = some (.pointer (some ⟨p, 0, none⟩)) ∧ V.cell? ⟨b7, 0, none⟩ = some (.int .u64 x0) ∧ V.cell? ⟨b7, 1, none⟩ = some (.int .u64 x1) ∧ V.cell? ⟨b7, 2, none⟩ = some (.int .u64 x2) ∧ V.cell? ⟨b7, 3, none⟩ = some (.int .u64 x3) ∧ V.cell? ⟨b7, 4, none⟩ = some (.int .u64 x4) ∧ V.cell? ⟨b7, 5, none⟩ = some (.int .u64 x5) ∧ V.cell? ⟨b7, 6, none⟩ = some (.int .u64 x6) ∧ V.cell? ⟨b7, 7, none⟩ = some (.int .u64 x7)) (first | with_reducible exact HK.out _ HTd.out | with_reducible exact HK.out _ hTf | with_reducible exact kk0) (first | (go_at_call 32; (with_reducible refine HFd.out.mono ?_); rintro e V ⟨rfl, hc, hT⟩; have hTf := HTd.out.trans hT; have hth6 := Hth5.out V hTf; have kk0 := HK2.out V hTf gone2.cells))
      have hv := (H5.out.below (drew_below (Below.refl w5.heap.size w5)) (Nat.le_refl _)).turn hc hT
      have hTs : Tch (· = n0) V (V.setCells n0 0 gone2.cells) := Tch.setCells (C := (· = n0)) (.inl rfl) _ _ (Tch.refl _ V)
      have hfar := Far.out.1
      have hvs := hv.frame hTs Hna.out (fun e => Hn0.out (.inl e.symm)) (by have := HSlt.out; have := Hb7.out; omega) (fun b hb e => Hn0.out (.inr (e ▸ hb))) (fun g e e2 => Hno.out n0 hfar (.inr (.inr (e2 ▸ e))))
      have hbx : Holds (V.setCells n0 0 gone2.cells) n0 42 gone2.cells := by
        have := (hTf.holds Hn0.out B5.out).sets gone2.cells 0
        rwa [splice_ent] at this
      have hTw : Tch (Own a p bs bv) w (V.setCells n0 0 gone2.cells) := (T5.out.trans (tch_own hTf)).setC hfar _ _
      have R0 := Lib.hid hbx.range0
      have HL := Lib.hid (letGo_any hvs gone2 hl)
      have HTw := Lib.hid hTw
      have hfill : n.fill line st ⟨x0, x1, x2, x3, x4, x5, x6, x7⟩ = ((n.abort 3).fillL line st ⟨x0, x1, x2, x3, x4, x5, x6, x7⟩).letGo gone2 := by
        unfold Nd.fill
        rw [Hfx.out, Hfx2.out, if_pos rfl]
      have Hfill := Lib.hid hfill
      clear hv hTs hvs hbx hTw hfill hc hT hTf hth6 kk0 k2 e0 e1 e2 e3 e4 e5 e6 e7 HK HK2 HFd
      generalize V.setCells n0 0 gone2.cells = Wf2 at *
      go_wp2_with (refine wpList_load_mid rfl 42 (.tmp 9) rfl n0 0 rfl gone2.cells _ ?_ Try.underlying42 rfl Try.size42 ?_; exact R0.out)
      refine HL.out.mono ?_
      rintro e w4 ⟨v, rfl, hn⟩
      have HN := Lib.hid (hn.after HTw.out); clear hn
      go_wp2
      go_ret
      exact ⟨v, rfl, by rw [Hfill.out]; exact HN.out⟩
    · have hne : (er == 22) = false := by simpa using her
      have hfill : n.fill line st ⟨x0, x1, x2, x3, x4, x5, x6, x7⟩ = (n.fillL line st ⟨x0, x1, x2, x3, x4, x5, x6, x7⟩).letGo gone := by
        unfold Nd.fill
        rw [Hfx.out, if_neg her]
      have HL := Lib.hid (letGo_any HF.out.node gone hl)
      have Hfill := Lib.hid hfill
      clear hfill her
      have R0 := Lib.hid HF.out.box.range0
      go_wp2_with (refine wpList_load_mid rfl 42 (.tmp 9) rfl n0 0 rfl gone.cells _ ?_ Try.underlying42 rfl Try.size42 ?_; exact R0.out)
      refine HL.out.mono ?_
      rintro e w4 ⟨v, rfl, hn⟩
      have HN := Lib.hid (hn.after HF.out.tch); clear hn
      go_wp2
      go_ret
      exact ⟨v, rfl, by rw [Hfill.out]; exact HN.out⟩
  · have hv := (H1.out.below (drew_below ((Below.refl W.heap.size W).alloc (Nat.le_refl _) (.cells Ent.zero.cells.toArray 42))) (Nat.le_refl _)).turn hc hT
    have hl1 := H1.out.cache.lt
    have hTs : Tch (· = W.heap.size) V (V.setCells W.heap.size 0 gone.cells) := Tch.setCells (C := (· = W.heap.size)) (.inl rfl) _ _ (Tch.refl _ V)
    have h7V := hTf.holds hn7 H7.out
    have hbx : Holds (V.setCells W.heap.size 0 gone.cells) W.heap.size 42 gone.cells := by
      have := (HthA.out V hT).2.sets gone.cells 0
      rwa [splice_ent] at this
    have hsz := hTf.size
    have h7lt := H7.out.lt
    have halt := H1.out.head.lt
    have HF : Hid (FillAt w (V.setCells W.heap.size 0 gone.cells) lo a p S bs ways bv (n.fillL line st ⟨x0, x1, x2, x3, x4, x5, x6, x7⟩) b7 W.heap.size ⟨x0, x1, x2, x3, x4, x5, x6, x7⟩ gone) := Lib.hid ⟨hv.frame hTs (by omega) (by omega) (by omega) (fun b hb => by have := hl1.2.2 b hb; omega) (fun g e => by have := (owns_lt H1.out.own e).2; omega), hbx, hTs.holds (by omega) h7V, (HT0.out.trans (tch_own hTf)).setC HT0.out.size _ _, ⟨HT0.out.size, by rw [Hb7.out]; exact Nat.le_refl _, by omega⟩⟩
    clear hv hTs h7V hbx hsz hc hT hTf hth hnW hth3 hl1 h7lt halt k2 e0 e1 e2 e3 e4 e5 e6 e7
    generalize V.setCells W.heap.size 0 gone.cells = Wf at *
    generalize W.heap.size = n0 at *
    clear HFd HFa HTd HTa HthA HK
    by_cases her : er = 22
    · have hsame := fillL_same n.ss n.u line st ⟨x0, x1, x2, x3, x4, x5, x6, x7⟩ (by rw [Hfx.out]; exact her)
      have hfill : n.fillL line st ⟨x0, x1, x2, x3, x4, x5, x6, x7⟩ = n := by unfold Nd.fillL; rw [hsame.1, hsame.2]
      rw [hfill] at HF
      have Her := Lib.hid her
      subst her
      clear hsame hfill
      have HAb := Lib.hid (abort_ok HF.out.node 3)
      go_wp2_with fail
      refine HAb.out.mono ?_
      rintro e w5 ⟨rfl, h5, hT5⟩
      have hno : ∀ k, w.heap.size ≤ k → ¬ Own a p bs bv k := fun k hk ho => by
        rcases ho with rfl | ho | ho
        · have := Hb7.out; omega
        · have := Hpos.out k ho; have := Hb7.out; omega
        · have := Hgl.out k ho; have := Hb7.out; omega
      have b5 := hT5.holds (hno _ HF.out.far.1) HF.out.box
      have g5 := hT5.holds (hno _ HF.out.far.2.1) HF.out.words
      have t5 := HF.out.tch.trans hT5
      have hn5 : ¬ Turns p bs b7 := fun ht => hno _ HF.out.far.2.1 (.inr (.inl ht))
      have hn0 : ¬ Turns p bs n0 := fun ht => hno _ HF.out.far.1 (.inr (.inl ht))
      have hk5 := fill_keeps h5 g5 hn5 w5 (Tch.refl _ _)
      obtain ⟨k2, e0, e1, e2, e3, e4, e5, e6, e7⟩ := hk5
      have HK := Lib.hid (fill_keeps h5 g5 hn5)
      have hna : a ≠ n0 := fun e => hno _ HF.out.far.1 (.inl e.symm)
      have HK2 := Lib.hid (fill_keeps2 h5 g5 hn5 hna HF.out.far.2.2.symm)
      have Hna := Lib.hid hna; clear hna
      have hTd : Tch (Turns p bs) w5 w5.drew := (Tch.refl _ w5).drew
      obtain ⟨gone2, had2, er2, hfx2⟩ : ∃ gone had er, fillX (n.abort 3).ss line st = (gone, had, er) := ⟨_, _, _, rfl⟩
      have HFd := Lib.hid (fill_x (w := w5.drew) (h5.cache.below (drew_below (Below.refl w5.heap.size w5)) (Nat.le_refl _)) line st x0 x1 x2 x3 x4 x5 x6 x7 h0 hu hfx2)
      have Hfx2 := Lib.hid hfx2
      have HTd := Lib.hid hTd
      have H5 := Lib.hid h5
      have B5 := Lib.hid b5
      have T5 := Lib.hid t5
      have Hn0 := Lib.hid hn0
      have Hno := Lib.hid hno
      have Far := Lib.hid HF.out.far
      have hth5 : ∀ V : World, Tch (Turns p bs) w5 V → V.there n0 0 21 := fun V hT => (hT.holds hn0 b5).there' 0 21 (by rw [Ent.len]; omega)
      have Hth5 := Lib.hid hth5
      clear h5 hT5 b5 g5 t5 hn5 hn0 hno hTd hfx2 hth5 HF HAb
      go_wp2
      go_region_held3 (fun V => V.cell? ⟨a, 2, none⟩ = some (.pointer (some ⟨p, 0, none⟩)) ∧ V.cell? ⟨b7, 0, none⟩ = some (.int .u64 x0) ∧ V.cell? ⟨b7, 1, none⟩ = some (.int .u64 x1) ∧ V.cell? ⟨b7, 2, none⟩ = some (.int .u64 x2) ∧ V.cell? ⟨b7, 3, none⟩ = some (.int .u64 x3) ∧ V.cell? ⟨b7, 4, none⟩ = some (.int .u64 x4) ∧ V.cell? ⟨b7, 5, none⟩ = some (.int .u64 x5) ∧ V.cell? ⟨b7, 6, none⟩ = some (.int .u64 x6) ∧ V.cell? ⟨b7, 7, none⟩ = some (.int .u64 x7)) (first | with_reducible exact HK.out _ HTd.out | with_reducible exact HK.out _ hTf | with_reducible exact kk0) (first | (go_at_call 32; (with_reducible refine HFd.out.mono ?_); rintro e V ⟨rfl, hc, hT⟩; have hTf := HTd.out.trans hT; have hth6 := Hth5.out V hTf; have kk0 := HK2.out V hTf gone2.cells))
      have hv := (H5.out.below (drew_below (Below.refl w5.heap.size w5)) (Nat.le_refl _)).turn hc hT
      have hTs : Tch (· = n0) V (V.setCells n0 0 gone2.cells) := Tch.setCells (C := (· = n0)) (.inl rfl) _ _ (Tch.refl _ V)
      have hfar := Far.out.1
      have hvs := hv.frame hTs Hna.out (fun e => Hn0.out (.inl e.symm)) (by have := HSlt.out; have := Hb7.out; omega) (fun b hb e => Hn0.out (.inr (e ▸ hb))) (fun g e e2 => Hno.out n0 hfar (.inr (.inr (e2 ▸ e))))
      have hbx : Holds (V.setCells n0 0 gone2.cells) n0 42 gone2.cells := by
        have := (hTf.holds Hn0.out B5.out).sets gone2.cells 0
        rwa [splice_ent] at this
      have hTw : Tch (Own a p bs bv) w (V.setCells n0 0 gone2.cells) := (T5.out.trans (tch_own hTf)).setC hfar _ _
      have R0 := Lib.hid hbx.range0
      have HL := Lib.hid (letGo_any hvs gone2 hl)
      have HTw := Lib.hid hTw
      have hfill : n.fill line st ⟨x0, x1, x2, x3, x4, x5, x6, x7⟩ = ((n.abort 3).fillL line st ⟨x0, x1, x2, x3, x4, x5, x6, x7⟩).letGo gone2 := by
        unfold Nd.fill
        rw [Hfx.out, Hfx2.out, if_pos rfl]
      have Hfill := Lib.hid hfill
      clear hv hTs hvs hbx hTw hfill hc hT hTf hth6 kk0 k2 e0 e1 e2 e3 e4 e5 e6 e7 HK HK2 HFd
      generalize V.setCells n0 0 gone2.cells = Wf2 at *
      go_wp2_with (refine wpList_load_mid rfl 42 (.tmp 9) rfl n0 0 rfl gone2.cells _ ?_ Try.underlying42 rfl Try.size42 ?_; exact R0.out)
      refine HL.out.mono ?_
      rintro e w4 ⟨v, rfl, hn⟩
      have HN := Lib.hid (hn.after HTw.out); clear hn
      go_wp2
      go_ret
      exact ⟨v, rfl, by rw [Hfill.out]; exact HN.out⟩
    · have hne : (er == 22) = false := by simpa using her
      have hfill : n.fill line st ⟨x0, x1, x2, x3, x4, x5, x6, x7⟩ = (n.fillL line st ⟨x0, x1, x2, x3, x4, x5, x6, x7⟩).letGo gone := by
        unfold Nd.fill
        rw [Hfx.out, if_neg her]
      have HL := Lib.hid (letGo_any HF.out.node gone hl)
      have Hfill := Lib.hid hfill
      clear hfill her
      have R0 := Lib.hid HF.out.box.range0
      go_wp2_with (refine wpList_load_mid rfl 42 (.tmp 9) rfl n0 0 rfl gone.cells _ ?_ Try.underlying42 rfl Try.size42 ?_; exact R0.out)
      refine HL.out.mono ?_
      rintro e w4 ⟨v, rfl, hn⟩
      have HN := Lib.hid (hn.after HF.out.tch); clear hn
      go_wp2
      go_ret
      exact ⟨v, rfl, by rw [Hfill.out]; exact HN.out⟩
end

end Go.Proofs.Ytddajnpichchfaa
