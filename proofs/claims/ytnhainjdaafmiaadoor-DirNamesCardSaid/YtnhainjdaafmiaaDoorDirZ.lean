/- The directory in a law's walk. Conditions: those stated in each theorem. -/
import Derived.Test.YtnhainjdaafmiaaDoorDirY
import Derived.Test.YtnhainjdaafmiaaDoorMsgEq
namespace Go.Proofs.YtnhainjdaafmiaaDoor
open Go.RowKit Go.BigFrame

/-! ### Calls on none -/
set_option maxHeartbeats 400000 in
theorem nilHear (x : MsgV) (w : World) : Calls Tryd.prog 10 #[.pointer none, .agg x.cells.toArray] w fun e w' => e = .returned (.tuple #[.slice none 0 0, .int .i64 1]) ∧ Below w.heap.size w w' := by
  have HB := Lib.hid (mbox_new w x)
  have b2 := HB.out.c2
  have Hb := Lib.hid HB.out.below
  clear HB
  go_enter Tryd.func10, Tryd.ntmps10
  go_wp2_with fail
  refine (dline_nil x.line _).mono ?_
  rintro e w' ⟨rfl, rfl⟩
  go_wp2
  go_ret2
  exact ⟨rfl, Hb.out⟩
set_option maxHeartbeats 400000 in
theorem nilOwner (k : Int) (w : World) : Calls Tryd.prog 15 #[.pointer none, .int .i64 k] w fun e w' => e = .returned (.int .i64 (-1)) ∧ w = w' := by
  go_enter Tryd.func15, Tryd.ntmps15
  go_wp2_with fail
  refine (dline_nil k _).mono ?_
  rintro e w' ⟨rfl, rfl⟩
  go_wp2
  go_ret
  exact ⟨rfl, rfl⟩
set_option maxHeartbeats 400000 in
theorem nilSet (k : Int) (d : L8) (w : World) : Calls Tryd.prog 8 #[.pointer none, .int .i64 k, .agg d.cells.toArray] w fun e w' => e = .returned (.int .i64 1) ∧ Below w.heap.size w w' := by
  have hb : Below w.heap.size w (w.alloc (.cells d.cells.toArray 40)) := (Below.refl _ w).alloc (Nat.le_refl _) _
  have Hb := Lib.hid hb; clear hb
  go_enter Tryd.func8, Tryd.ntmps8
  go_wp2
  go_ret
  exact ⟨rfl, Hb.out⟩
set_option maxHeartbeats 400000 in
theorem nilMemory (k : Int) (w : World) : Calls Tryd.prog 18 #[.pointer none, .int .i64 k] w fun e w' => e = .returned (.tuple #[.agg L8.zero.cells.toArray, .int .i64 1]) ∧ Below w.heap.size w w' := by
  have hb : Below w.heap.size w (w.alloc (.cells L8.zero.cells.toArray 40)) := (Below.refl _ w).alloc (Nat.le_refl _) _
  have Hb := Lib.hid hb; clear hb
  go_enter Tryd.func18, Tryd.ntmps18
  go_wp2
  exact bodyPost_ret (v := .tuple #[.agg L8.zero.cells.toArray, .int .i64 1]) (by simp [results, Tryd.results18, go_sem, L8.cells, L8.zero]) rfl ⟨rfl, Hb.out⟩
set_option maxHeartbeats 400000 in
theorem nilUnder (k : Int) (w : World) : Calls Tryd.prog 19 #[.pointer none, .int .i64 k] w fun e w' => e = .returned (.tuple #[.agg MsgV.zero.cells.toArray, .bool false]) ∧ Below w.heap.size w w' := by
  have hb : Below w.heap.size w (w.alloc (.cells MsgV.zero.cells.toArray 45)) := (Below.refl _ w).alloc (Nat.le_refl _) _
  have Hb := Lib.hid hb; clear hb
  go_enter Tryd.func19, Tryd.ntmps19
  go_wp2_with fail
  refine (dline_nil k _).mono ?_
  rintro e w' ⟨rfl, rfl⟩
  go_wp2
  exact bodyPost_ret (v := .tuple #[.agg MsgV.zero.cells.toArray, .bool false]) (by simp [results, Tryd.results19, go_sem, MsgV.cells, MsgV.zero, L8.zero]) rfl ⟨rfl, Hb.out⟩

/-! ### Small calls -/
section
variable {w w' : World} {lo p m b L : Nat} {wvs : List Value} {d : Dv}
set_option maxHeartbeats 400000 in
theorem owner_any (h : DirAt w lo p m b L wvs d) (k : Int) : Calls Tryd.prog 15 #[.pointer (some ⟨p, 0, none⟩), .int .i64 k] w fun e w' => e = .returned (.int .i64 (d.owner k)) ∧ w = w' := by
  have HL := Lib.hid (dline_any h k)
  unfold Dv.owner
  by_cases hin : d.inLine k = true
  · rw [if_pos hin]
    rw [hin] at HL
    have hk : 0 ≤ k ∧ k < d.n := by simpa [Dv.inLine] using hin
    obtain ⟨v, gl, gv⟩ := h.get (show k.toNat < d.n by omega)
    have k0 : w.cell? ⟨L, k.toNat * 16, none⟩ = some (.int .i64 (d.l k.toNat).owner) := (h.known gl gv).c0
    clear h hin hk gl gv
    simp only [if_true] at HL
    generalize k.toNat * 16 = o at *
    go_enter Tryd.func15, Tryd.ntmps15
    go_wp2_with fail
    refine HL.out.mono ?_
    rintro e w' ⟨rfl, rfl⟩
    go_wp2
    go_ret
    exact ⟨rfl, rfl⟩
  · rw [if_neg hin]
    have hin : d.inLine k = false := by simpa using hin
    rw [hin] at HL
    clear h
    simp only [Bool.false_eq_true, if_false] at HL
    go_enter Tryd.func15, Tryd.ntmps15
    go_wp2_with fail
    refine HL.out.mono ?_
    rintro e w' ⟨rfl, rfl⟩
    go_wp2
    go_ret
    exact ⟨rfl, rfl⟩

set_option maxHeartbeats 400000 in
theorem sharers_in (h : DirAt w lo p m b L wvs d) (k : Int) (hin : d.inLine k = true) : Calls Tryd.prog 16 #[.pointer (some ⟨p, 0, none⟩), .int .i64 k] w fun e w' => ∃ v, e = .returned v ∧ w'.ownsRow w.heap.size 3 1 v (d.sharers k).length ((d.sharers k).map coreV) ∧ Below w.heap.size w w' := by
  have HL := Lib.hid (dline_any h k)
  rw [hin] at HL
  unfold Dv.sharers
  rw [if_pos hin]
  have hk : 0 ≤ k ∧ k < d.n := by simpa [Dv.inLine] using hin
  obtain ⟨v, gl, gv⟩ := h.get (show k.toNat < d.n by omega)
  have k1 : w.cell? ⟨L, k.toNat * 16 + 1, none⟩ = some (.int .u64 (d.l k.toNat).sh) := (h.known gl gv).c1
  have hs := (h.wf _ _ gl).sh
  have hlt := h.lt
  have hgl := h.gl
  have ha := h.above
  have HC := Lib.hid (fun (W : World) (hW : W = w.alloc (.cells #[.int .u64 (d.l k.toNat).sh] 77)) => show Calls Tryd.prog 38 #[.func (.func 56) #[] #[.pointer (some ⟨w.heap.size, 0, none⟩)]] W fun e w' => ∃ v, e = .returned v ∧ w'.ownsRow w.heap.size 3 1 v (coresL (d.l k.toNat).sh).length ((coresL (d.l k.toNat).sh).map coreV) ∧ Below w.heap.size w w' from by
    subst hW
    have hb : Below w.heap.size w (w.alloc (.cells #[.int .u64 (d.l k.toNat).sh] 77)) := (Below.refl _ w).alloc (Nat.le_refl _) _
    refine (collect_any (d.l k.toNat).sh w.heap.size _ hs (by simp; omega) (by simp) (h.tab.below hb (by omega))).mono ?_
    rintro e w' ⟨v, rfl, h1, h2⟩
    exact ⟨v, rfl, owns_mono h1 (fun g hg => by have := (owns_lt h1 hg).1; simp at this; omega), hb.trans (h2.mono (by simp))⟩)
  clear h hin hk gl gv hlt hgl ha
  simp only [if_true] at HL
  generalize k.toNat * 16 = o at *
  go_enter Tryd.func16, Tryd.ntmps16
  go_wp2_with fail
  refine HL.out.mono ?_
  rintro e w' ⟨rfl, rfl⟩
  go_wp2_with fail
  refine (seach_any (d.l k.toNat).sh _).mono ?_
  rintro e w2 ⟨rfl, hw2⟩
  have HC2 := Lib.hid (HC.out w2 hw2); clear hw2
  go_wp2_with fail
  refine HC2.out.mono ?_
  rintro e w3 ⟨v, rfl, h1, h2⟩
  have Hf := Lib.hid (And.intro h1 h2); clear h1 h2
  go_wp2
  go_ret
  exact ⟨v, rfl, Hf.out⟩
end

/-! ### Where a law's walk stands -/
structure DSt (w0 w : World) (p m b L : Nat) (d : Dv) (G : List (Nat × List Value)) : Prop where
  dir : ∃ wvs, DirAt w w0.heap.size p m b L wvs d ∧ ∀ x ∈ G, ¬ DOwn b L wvs x.1
  below : Below w0.heap.size w0 w
  rows : ∀ x ∈ G, x.1 < w.heap.size ∧ w.rangeAt x.1 0 x.2

section
variable {w0 w w' : World} {p m b L : Nat} {d d' : Dv} {G : List (Nat × List Value)} {v : Value} {out : List MsgV}
theorem DSt.size (h : DSt w0 w p m b L d G) : w0.heap.size ≤ w.heap.size := h.below.size
theorem DSt.idle (h : DSt w0 w p m b L d G) (hb : Below w.heap.size w w') : DSt w0 w' p m b L d G := by
  obtain ⟨wvs, h1, h2⟩ := h.dir
  exact ⟨⟨wvs, h1.below hb, h2⟩, h.below.trans (hb.mono h.size), fun x hx => ⟨Nat.lt_of_lt_of_le (h.rows x hx).1 hb.size, fun i u hi => by
    rw [World.cell?_of_block (a := ⟨x.1, 0 + i, none⟩) (hb.block _ (h.rows x hx).1)]
    exact (h.rows x hx).2 i u hi⟩⟩
theorem DSt.lay (h : DSt w0 w p m b L d G) (cs : List Value) (t : TypeId) : DSt w0 (w.alloc (.cells cs.toArray t)) p m b L d ((w.heap.size, cs) :: G) := by
  have hb : Below w.heap.size w (w.alloc (.cells cs.toArray t)) := (Below.refl _ w).alloc (Nat.le_refl _) _
  have h' := h.idle hb
  obtain ⟨wvs, h1, h2⟩ := h.dir
  obtain ⟨wvs', h1', h2'⟩ := h'.dir
  have hlt := h1.lt
  refine ⟨⟨wvs, h1.below hb, fun x hx => ?_⟩, h'.below, fun x hx => ?_⟩
  · rcases List.mem_cons.1 hx with rfl | hx
    · rintro (hk | hk | ⟨u, hu, hk⟩)
      · dsimp only at hk; omega
      · dsimp only at hk; omega
      · have := (h1.owned hu hk).1; dsimp only at this; omega
    · exact h2 x hx
  · rcases List.mem_cons.1 hx with rfl | hx
    · exact ⟨by simp, fun i u hi => by rw [Nat.zero_add]; exact (Holds.new w t cs).cell hi⟩
    · exact h'.rows x hx
theorem DSt.drop (h : DSt w0 w p m b L d G) (G' : List (Nat × List Value)) (hG : ∀ x ∈ G', x ∈ G) : DSt w0 w p m b L d G' := by
  obtain ⟨wvs, h1, h2⟩ := h.dir
  exact ⟨⟨wvs, h1, fun x hx => h2 x (hG x hx)⟩, h.below, fun x hx => h.rows x (hG x hx)⟩
theorem hear_st (h : DSt w0 w p m b L d G) (x : MsgV) :
    Calls Tryd.prog 10 #[.pointer (some ⟨p, 0, none⟩), .agg x.cells.toArray] w fun e w' => ∃ v, e = .returned (.tuple #[v, .int .i64 (d.hear x).2.2]) ∧ DSt w0 w' p m b L (d.hear x).1 G ∧ DOut w.heap.size w' v (d.hear x).2.1 := by
  obtain ⟨wvs, h1, h2⟩ := h.dir
  refine (hearD_any h1 x).mono ?_
  rintro e w' ⟨v, rfl, wvs', k1, k2, k3, k4⟩
  have ha := h1.above
  have hsz := h.size
  refine ⟨v, rfl, ⟨⟨wvs', k1, fun x hx hk => ?_⟩, h.below.trans (k3.below hsz (fun k hk => ?_)), fun x hx => ⟨Nat.lt_of_lt_of_le (h.rows x hx).1 k3.size, fun i u hi => ?_⟩⟩, k2⟩
  · have hn := h2 x hx
    have hr := (h.rows x hx).1
    rcases hk with hk | hk | ⟨u, hu, hk⟩
    · exact hn (.inl hk)
    · exact hn (.inr (.inl hk))
    · rcases k4 u hu _ hk with e | e
      · exact hn (.inr (.inr e))
      · omega
  · rcases hk with rfl | rfl | ⟨u, hu, hk⟩
    · exact ha.2.2.1
    · exact ha.2.2.2
    · exact (h1.owned hu hk).2
  · rw [World.cell?_of_block (a := ⟨x.1, 0 + i, none⟩) (k3.block _ (h.rows x hx).1 (h2 x hx))]
    exact (h.rows x hx).2 i u hi
end

end Go.Proofs.YtnhainjdaafmiaaDoor
