/- The directory: answers are heard. Conditions: those stated in each theorem. -/
import Derived.Test.YtnhainjdaafmiaaDoorDirO
namespace Go.Proofs.YtnhainjdaafmiaaDoor
open Go.RowKit Go.BigFrame

section
variable {w w' : World} {lo p m b L o n : Nat} {xs xs' : List Int} {l l' : LV} {wv v : Value} {ms : List MsgV}
/-- Behind a step that turned the line, and memory. -/
theorem DK.memory (h : DK w lo p m b L o n xs l wv) (hm : MemAt w' m b n xs') (hk : known w' L o (l'.kn wv)) (ho : Only (· = b) L o w w') (he : l'.ms = l.ms) : DK w' lo p m b L o n xs' l' wv := by
  have hb : ∀ k, k < w.heap.size → k ≠ b → k ≠ L → w'.heap[k]? = w.heap[k]? := fun k hk h1 h2 => ho.tch.block k hk (by rintro (h | h); exact h1 h; exact h2 h)
  have hpl := World.block_lt_of_cell? _ _ h.hp
  refine ⟨by rw [World.cell?_of_block (a := ⟨p, 0, none⟩) (hb p hpl h.pb h.pL)]; exact h.hp, hm, hk, h.tab.block (hb _ h.gl h.gb h.gL), ?_, h.bL, h.mL, h.pL, h.pb, h.mb, Nat.lt_of_lt_of_le h.gl ho.tch.size, h.gL, h.gb, h.out, Nat.le_trans h.lo_le ho.tch.size⟩
  rw [he]
  exact owns_same h.wait (fun g hg => hb g (owns_lt h.wait hg).2 (h.out g hg).2.2.1 (h.out g hg).2.2.2.1)
theorem DPost.of2 (h : DK w' lo p m b L o n xs l wv) (hv : DOut w.heap.size w' v ms) (ho : Only (· = b) L o w w') : DPost w lo p m b L o n wv xs l ms v w' :=
  ⟨wv, hv, h, ho.mono (fun _ h => .inl h), fun _ h => .inl h⟩
theorem DPost.after2 {w1 : World} (ho : Only (· = b) L o w w1) (h : DPost w1 lo p m b L o n wv xs l ms v w') : DPost w lo p m b L o n wv xs l ms v w' := by
  obtain ⟨wv', h1, h2, h3, h4⟩ := h
  exact ⟨wv', owns_mono h1 (fun g hg => Nat.le_trans ho.tch.size (owns_lt h1 hg).1), h2, (ho.mono (fun _ h => .inl h)).trans h3, fun g hg => (h4 g hg).imp_right (fun hl => Nat.le_trans ho.tch.size hl)⟩
theorem DK.frame {C : Nat → Prop} (h : DK w lo p m b L o n xs l wv) (ht : Tch C w w') (hp : ¬ C p) (hm : ¬ C m) (hb : ¬ C b) (hL : ¬ C L) (hg : ¬ C 1) (hw : ∀ g, wv.ownBlock = some g → ¬ C g) : DK w' lo p m b L o n xs l wv := by
  have hml := World.block_lt_of_cell? _ _ h.mem.head
  have hbl := lt_of_block h.mem.row
  have hpl := World.block_lt_of_cell? _ _ h.hp
  exact ⟨by rw [World.cell?_of_block (a := ⟨p, 0, none⟩) (ht.block p hpl hp)]; exact h.hp, h.mem.same (ht.block m hml hm) (ht.block b hbl hb), h.kn.tch ht hL, h.tab.block (ht.block _ h.gl hg),
    owns_same h.wait (fun g e => ht.block g (owns_lt h.wait e).2 (hw g e)), h.bL, h.mL, h.pL, h.pb, h.mb, Nat.lt_of_lt_of_le h.gl ht.size, h.gL, h.gb, h.out, Nat.le_trans h.lo_le ht.size⟩
theorem Only.laterC {C : Nat → Prop} {L o : Nat} {a b c : World} (h : Only C L o a b) (hb : Below a.heap.size b c) (hL : L < a.heap.size) : Only C L o a c :=
  ((h.mono (D := fun k => C k ∨ a.heap.size ≤ k) (fun _ h => .inl h)).trans ((Only.of_tch (C := (a.heap.size ≤ ·)) (Tch.of_below hb) (by omega)).mono (fun _ h => .inr h))).trim (fun k hk hc => hc.elim id (fun h => by omega))
/-- What was granted, as an answer. -/
theorem granted (hD : DK w lo p m b L o n xs l wv) (d : L8) (h4 : known w' L o ((l.grant d).1.kn wv)) (h5 : Only (fun _ => False) L o w w') :
    DPost w lo p m b L o n wv xs (l.grant d).1 [(l.grant d).2] (.slice (some ⟨w'.heap.size, 0, none⟩) 1 1) (w'.alloc (.cells (l.grant d).2.cells.toArray 45)) := by
  have hs1 := hD.step (l' := (l.grant d).1) h4 h5 (by unfold LV.grant; split <;> rfl)
  have hb1 : Below w'.heap.size w' (w'.alloc (.cells (l.grant d).2.cells.toArray 45)) := (Below.refl _ w').alloc (Nat.le_refl _) _
  exact DPost.of (hs1.below hb1) (dout_new w' _ h5.tch.size) (h5.trans (Only.of_below hb1))

set_option maxRecDepth 100000 in
set_option maxHeartbeats 1000000 in
theorem recallNone_any (h : DK w lo p m b L o n xs l wv) {i : Nat} (hw : LWf i l) (hu : ReqOk i l.under) (hi : i < n) (d : L8) (hd : lineD xs i = d) :
    Calls Tryd.prog 53 #[.pointer (some ⟨p, 0, none⟩), .pointer (some ⟨L, o, none⟩)] w fun e w' => ∃ v, e = .returned v ∧ DPost w lo p m b L o n wv xs (l.recallNone d).1 (l.recallNone d).2 v w' := by
  unfold LV.recallNone
  have c0 : w.cell? ⟨L, o, none⟩ = some (.int .i64 l.owner) := h.kn.c0
  have c13 : w.cell? ⟨L, o + 13, none⟩ = some (.int .i64 l.phase) := h.kn.c13
  have f13 := h.kn.2 13
  by_cases ho : l.owner = -1
  · rw [if_neg (by simp [ho])]
    rw [ho] at c0
    have HG := Lib.hid (grant_any h hw hu hi d hd)
    have HD := Lib.hid h
    clear h hw hu hd ho
    go_enter Tryd.func53, Tryd.ntmps53
    go_wp2_with fail
    refine HG.out.mono ?_
    rintro e w' ⟨rfl, h4, h5⟩
    have hf := granted HD.out d h4 h5
    have Hf := Lib.hid ((fun h => h) hf); clear hf h4 h5
    generalize hg : (LV.grant l d).2 = g at *
    obtain ⟨gk, gc, gl, gd⟩ := g
    have HG2 := Lib.hid hg; clear hg
    simp only [MsgV.cells] at Hf ⊢
    go_wp2
    go_ret
    exact ⟨_, rfl, by rw [HG2.out]; exact Hf.out⟩
  · rw [if_pos ho]
    have hn : (l.owner != -1) = true := by simpa using ho
    have hk := h.kn.set 13 (.int .i64 2) ({ l with phase := 2 }.kn wv) (by omega) rfl
    have hO : Only (fun _ => False) L o w (w.setCell ⟨L, o + 13, none⟩ (.int .i64 2)) := (Only.refl _ L o w).set 13 (by omega) _
    have Hf := Lib.hid (DPost.of (h.step (l' := { l with phase := 2 }) hk hO rfl) (dout_none _ _) hO)
    clear h hk hO hw hu hd ho
    go_enter Tryd.func53, Tryd.ntmps53
    go_wp2
    go_ret
    exact ⟨_, rfl, Hf.out⟩

set_option maxRecDepth 100000 in
set_option maxHeartbeats 1000000 in
theorem invAck_any (h : DK w lo p m b L o n xs l wv) {i : Nat} (hw : LWf i l) (hu : ReqOk i l.under) (hi : i < n) (d : L8) (hd : lineD xs i = d) (c : Nat) (hc : c < 4) :
    Calls Tryd.prog 51 #[.pointer (some ⟨p, 0, none⟩), .pointer (some ⟨L, o, none⟩), .int .i64 c] w fun e w' => ∃ v, e = .returned v ∧ DPost w lo p m b L o n wv xs (l.invAck c d).1 (l.invAck c d).2 v w' := by
  have hs := hw.sh
  have ha := hw.asked
  have c1 : w.cell? ⟨L, o + 1, none⟩ = some (.int .u64 l.sh) := h.kn.c1
  have f1 := h.kn.2 1
  have hk1 := h.kn.set 1 (.int .u64 (lessS l.sh c)) ({ l with sh := lessS l.sh c }.kn wv) (by omega) rfl
  have c14 : (w.setCell ⟨L, o + 1, none⟩ (.int .u64 (lessS l.sh c))).cell? ⟨L, o + 14, none⟩ = some (.int .u64 l.asked) := hk1.c14
  have f14 := hk1.2 14
  have hk2 := hk1.set 14 (.int .u64 (lessS l.asked c)) ({ l with sh := lessS l.sh c, asked := lessS l.asked c }.kn wv) (by omega) rfl
  have c14' : ((w.setCell ⟨L, o + 1, none⟩ (.int .u64 (lessS l.sh c))).setCell ⟨L, o + 14, none⟩ (.int .u64 (lessS l.asked c))).cell? ⟨L, o + 14, none⟩ = some (.int .u64 (lessS l.asked c)) := hk2.c14
  have hO : Only (fun _ => False) L o w ((w.setCell ⟨L, o + 1, none⟩ (.int .u64 (lessS l.sh c))).setCell ⟨L, o + 14, none⟩ (.int .u64 (lessS l.asked c))) := ((Only.refl _ L o w).set 1 (by omega) _).set 14 (by omega) _
  have hD := h.step (l' := { l with sh := lessS l.sh c, asked := lessS l.asked c }) hk2 hO rfl
  have hw2 : LWf i { l with sh := lessS l.sh c, asked := lessS l.asked c } := ⟨hw.own0, hw.own4, lessS_lt _ hw.sh _ hc, lessS_lt _ hw.asked _ hc, hw.under, hw.ms, hw.apart⟩
  have HG := Lib.hid (grant_any hD hw2 hu hi d hd)
  have HD := Lib.hid hD; clear hD
  have HO := Lib.hid hO; clear hO
  unfold LV.invAck
  clear h hk1 hk2 hw hw2 hu hd
  by_cases hz : lessS l.asked c = 0
  · rw [if_neg (by simp [hz])]
    have HZ := Lib.hid hz
    have hz' : (((lessS l.asked c : Nat) : Int) != 0) = false := by simp [hz]
    clear hz
    go_enter Tryd.func51, Tryd.ntmps51
    go_wp2_with fail
    refine (less_any l.sh c _ hs hc).mono ?_
    rintro e w' ⟨rfl, rfl⟩
    go_wp2_with fail
    refine (less_any l.asked c _ ha hc).mono ?_
    rintro e w' ⟨rfl, rfl⟩
    go_wp2_with fail
    refine HG.out.mono ?_
    rintro e w' ⟨rfl, h4, h5⟩
    have hf := granted HD.out d h4 h5
    have Hf := Lib.hid (DPost.after HO.out hf); clear hf h4 h5
    generalize hg : (LV.grant { l with sh := lessS l.sh c, asked := lessS l.asked c } d).2 = g at *
    obtain ⟨gk, gc, gl, gd⟩ := g
    have HG2 := Lib.hid hg; clear hg
    simp only [MsgV.cells] at Hf ⊢
    go_wp2
    go_ret
    exact ⟨_, rfl, by rw [HG2.out]; exact Hf.out⟩
  · rw [if_pos hz]
    have hz' : (((lessS l.asked c : Nat) : Int) != 0) = true := by simpa using hz
    have Hf := Lib.hid (DPost.of HD.out (dout_none _ _) HO.out)
    clear hz
    go_enter Tryd.func51, Tryd.ntmps51
    go_wp2_with fail
    refine (less_any l.sh c _ hs hc).mono ?_
    rintro e w' ⟨rfl, rfl⟩
    go_wp2_with fail
    refine (less_any l.asked c _ ha hc).mono ?_
    rintro e w' ⟨rfl, rfl⟩
    go_wp2
    go_ret
    exact ⟨_, rfl, Hf.out⟩

end

end Go.Proofs.YtnhainjdaafmiaaDoor
