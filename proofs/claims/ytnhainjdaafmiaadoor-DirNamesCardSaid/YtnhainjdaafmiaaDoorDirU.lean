/- The directory: requests, and their ends, are heard. Conditions: those stated in each theorem. -/
import Derived.Test.YtnhainjdaafmiaaDoorDirS
import Derived.Deep.AppendLies
namespace Go.Proofs.YtnhainjdaafmiaaDoor
open Go.RowKit Go.BigFrame

theorem appM_lies (base : Nat) (v : Value) (n : Nat) (xs : List Value) (m : MsgV) (W : World) (hown : W.ownsRow base 45 11 v n xs) (hn : n ≤ 1000000) (hb : base ≤ W.heap.size) :
    ∃ g cap w', (appS #[v, .slice (some ⟨W.heap.size, 0, none⟩) 1 1]).run Tryd.prog (W.alloc (.cells m.cells.toArray 45)).drew = .ok (.slice (some ⟨g, 0, none⟩) (n + 1) cap) w' ∧ w'.ownsRow base 45 11 (.slice (some ⟨g, 0, none⟩) (n + 1) cap) (n + 1) (xs ++ m.cells) ∧ (W.alloc (.cells m.cells.toArray 45)).grownBy w' v.ownBlock ∧ (v.ownBlock = some g ∨ W.heap.size < g) := by
  obtain ⟨i0, hi, hz0, hz1, hz2⟩ := info_parts Tryd.infoMsg
  obtain ⟨g, cap, w', h1, h2, h3, h4, -⟩ := run_append_lies (P := Tryd.prog) (w := (W.alloc (.cells m.cells.toArray 45)).drew) 24 24 base 45 i0 (.agg MsgV.zero.cells.toArray) 11 88 Tryd.underlying24 hi hz0 hz1 hz2 rfl (by decide) v n xs (show (W.alloc _).drew.ownsRow _ _ _ _ _ _ from hown.alloc _) ⟨W.heap.size, 0, none⟩ 1 1 m.cells rfl (msg_cells W m) (fun u hu => by simp only [MsgV.cells, List.mem_cons, List.not_mem_nil, or_false] at hu; rcases hu with rfl | rfl | rfl | rfl | rfl | rfl | rfl | rfl | rfl | rfl | rfl <;> rfl) (by decide) (by unfold maxLen; omega) (by omega) (by show base ≤ (W.alloc _).heap.size; simp; omega) (W.heap.size + 1) (by show (W.alloc _).heap.size = _; simp)
  exact ⟨g, cap, w', h1, h2, ⟨h3.os, h3.tape, h3.output, h3.size, h3.block⟩, h4.imp_right (fun e => by omega)⟩
attribute [local go_sem ↓ high] appS_eq

section
variable {w w' : World} {lo p m b L o n : Nat} {xs xs' : List Int} {l l' : LV} {wv wv1 v : Value} {ms : List MsgV}
theorem DPost.chain {w1 : World} (ho : Only (CB b wv) L o w w1) (hw : ∀ g, wv1.ownBlock = some g → wv.ownBlock = some g ∨ w.heap.size ≤ g) (h : DPost w1 lo p m b L o n wv1 xs l ms v w') : DPost w lo p m b L o n wv xs l ms v w' := by
  obtain ⟨wv', h1, h2, h3, h4⟩ := h
  refine ⟨wv', owns_mono h1 (fun g hg => Nat.le_trans ho.tch.size (owns_lt h1 hg).1), h2, ?_, fun g hg => ?_⟩
  · refine ((ho.mono (D := fun k => CB b wv k ∨ w.heap.size ≤ k) (fun _ h => .inl h)).trans (h3.mono (fun k hk => ?_))).trim (fun k hk hc => hc.elim id (fun h => by omega))
    rcases hk with rfl | hk
    · exact .inl (.inl rfl)
    · exact (hw k hk).imp (fun e => .inr e) id
  · rcases h4 g hg with h | h
    · exact hw g h
    · exact .inr (Nat.le_trans ho.tch.size h)
/-- Those that wait are others now. -/
theorem DK.waits (h : DK w lo p m b L o n xs l wv) (hk : known w' L o (l'.kn wv1)) (ho : Only (fun k => wv.ownBlock = some k) L o w w') (hown : w'.ownsRow lo 45 11 wv1 l'.ms.length (l'.ms.flatMap MsgV.cells)) (hw : ∀ g, wv1.ownBlock = some g → wv.ownBlock = some g ∨ w.heap.size ≤ g) : DK w' lo p m b L o n xs l' wv1 := by
  have hb : ∀ k, k < w.heap.size → k ≠ L → wv.ownBlock ≠ some k → w'.heap[k]? = w.heap[k]? := fun k hk h1 h2 => ho.tch.block k hk (by rintro (h | h); exact h2 h; exact h1 h)
  have hml : m < w.heap.size := World.block_lt_of_cell? _ _ h.mem.head
  have hbl := lt_of_block h.mem.row
  have hpl : p < w.heap.size := World.block_lt_of_cell? _ _ h.hp
  have hlL := h.lt
  exact ⟨by rw [World.cell?_of_block (a := ⟨p, 0, none⟩) (hb p hpl h.pL (fun e => (h.out p e).1 rfl))]; exact h.hp, h.mem.same (hb m hml h.mL (fun e => (h.out m e).2.1 rfl)) (hb b hbl h.bL (fun e => (h.out b e).2.2.1 rfl)), hk, h.tab.block (hb _ h.gl h.gL (fun e => (h.out _ e).2.2.2.2 rfl)), hown, h.bL, h.mL, h.pL, h.pb, h.mb, Nat.lt_of_lt_of_le h.gl ho.tch.size, h.gL, h.gb,
    fun g hg => (hw g hg).elim (fun e => h.out g e) (fun e => by have := h.gl; omega), Nat.le_trans h.lo_le ho.tch.size⟩

set_option maxRecDepth 100000 in
set_option maxHeartbeats 1000000 in
theorem request_wait (h : DK w lo p m b L o n xs l wv) {i : Nat} (hw : LWf i l) (x : MsgV) (hp : l.phase ≠ 0) (d : L8) :
    Calls Tryd.prog 49 #[.pointer (some ⟨p, 0, none⟩), .pointer (some ⟨L, o, none⟩), .agg x.cells.toArray] w fun e w' => ∃ v, e = .returned v ∧ DPost w lo p m b L o n wv xs (l.request x d).1 (l.request x d).2 v w' := by
  have e1 : l.request x d = ({ l with ms := l.ms ++ [reqOf x] }, []) := by unfold LV.request; rw [if_pos hp]
  rw [e1]
  have hlen := hw.len
  have hlL := h.lt
  have hp' : (l.phase != 0) = true := by simpa using hp
  have HB := Lib.hid (mbox_new w x)
  have b0 := HB.out.c0
  have b1 := HB.out.c1
  have b2 := HB.out.c2
  have h1 := h.below HB.out.below
  have hs1 : (w.alloc (.cells x.cells.toArray 45)).heap.size = w.heap.size + 1 := by simp
  obtain ⟨W2, eW, bW, hn, hr, hlt⟩ := mbox (w.alloc (.cells x.cells.toArray 45)) (reqOf x)
  rw [hs1] at eW hn hr hlt
  have h2 := h1.below bW
  have EW := Lib.hid eW; clear eW
  have Hn := Lib.hid hn; clear hn
  have k13 : W2.cell? ⟨L, o + 13, none⟩ = some (.int .i64 l.phase) := h2.kn.c13
  have k15 : W2.cell? ⟨L, o + 15, none⟩ = some wv := h2.kn.c15
  have f15 := h2.kn.2 15
  have hba : Below W2.heap.size W2 (W2.alloc (.cells (reqOf x).cells.toArray 45)) := (Below.refl _ W2).alloc (Nat.le_refl _) _
  have k15a : (W2.alloc (.cells (reqOf x).cells.toArray 45)).cell? ⟨L, o + 15, none⟩ = some wv := by rw [hba.cell (p := ⟨L, o + 15, none⟩) h2.lt]; exact k15
  obtain ⟨g, cap, w5, hap, hown, hgrow, hlies⟩ := appM_lies lo wv l.ms.length _ (reqOf x) W2 h2.wait (by omega) h2.lo_le
  have hT : Tch (fun k => wv.ownBlock = some k) W2 w5 := ((Tch.refl _ W2).alloc _).grown hgrow (fun k e => .inl e)
  have hgL : g ≠ L := by
    rcases hlies with e | e
    · exact (h2.out g e).2.2.2.1
    · have := h2.lt; omega
  have hk5 := h2.kn.tch hT (fun e => (h2.out L e).2.2.2.1 rfl)
  have c15 : w5.cell? ⟨L, o + 15, none⟩ = some wv := hk5.c15
  have f15b := hk5.2 15
  have hk6 := hk5.set 15 (.slice (some ⟨g, 0, none⟩) (l.ms.length + 1) cap) ({ l with ms := l.ms ++ [reqOf x] }.kn (.slice (some ⟨g, 0, none⟩) (l.ms.length + 1) cap)) (by omega) rfl
  have hO6 : Only (fun k => wv.ownBlock = some k) L o W2 (w5.setCell ⟨L, o + 15, none⟩ (.slice (some ⟨g, 0, none⟩) (l.ms.length + 1) cap)) := (Only.of_tch hT (fun e => (h2.out L e).2.2.2.1 rfl)).set 15 (by omega) _
  have hw6 : ∀ g', (Value.slice (some ⟨g, 0, none⟩) (l.ms.length + 1) cap).ownBlock = some g' → wv.ownBlock = some g' ∨ W2.heap.size ≤ g' := fun g' e => by
    cases e; exact hlies.imp_right (fun e => Nat.le_of_lt e)
  have hown6 : (w5.setCell ⟨L, o + 15, none⟩ (.slice (some ⟨g, 0, none⟩) (l.ms.length + 1) cap)).ownsRow lo 45 11 (.slice (some ⟨g, 0, none⟩) (l.ms.length + 1) cap) (l.ms ++ [reqOf x]).length ((l.ms ++ [reqOf x]).flatMap MsgV.cells) := by
    rw [List.length_append, List.flatMap_append]
    refine owns_same (by simpa using hown) (fun g' e => ?_)
    cases e
    exact Below.heap_setCell _ _ _ _ hgL
  have hD6 := h2.waits (l' := { l with ms := l.ms ++ [reqOf x] }) hk6 hO6 hown6 hw6
  have hO2 : Only (CB b wv) L o w W2 := Only.of_below (HB.out.below.trans (bW.mono (by omega)))
  have hf : DPost w lo p m b L o n wv xs { l with ms := l.ms ++ [reqOf x] } [] (.slice none 0 0) (w5.setCell ⟨L, o + 15, none⟩ (.slice (some ⟨g, 0, none⟩) (l.ms.length + 1) cap)) :=
    ⟨_, dout_none _ _, hD6, hO2.trans (hO6.mono (fun _ e => .inr e)), fun g' e => (hw6 g' e).imp_right (fun h => by omega)⟩
  have Hf := Lib.hid hf
  have HR := Lib.hid hr
  have r0 := hr 0 _ rfl
  have r1 := hr 1 _ rfl
  have r2 := hr 2 _ rfl
  have r3 := hr 3 _ rfl
  have r4 := hr 4 _ rfl
  have r5 := hr 5 _ rfl
  have r6 := hr 6 _ rfl
  have r7 := hr 7 _ rfl
  have r8 := hr 8 _ rfl
  have r9 := hr 9 _ rfl
  have r10 := hr 10 _ rfl
  have Hs1 := Lib.hid hs1
  clear hf hD6 hown6 hw6 hO6 hk6 hk5 hgL hT hlies hgrow hown hO2 h2 h1 hba hr hp e1 h hw hlen HB bW hs1
  simp only [reqOf, MsgV.cells, L8.zero] at hap k15a r0 r1 r2 r3 r4 r5 r6 r7 r8 r9 r10
  go_enter Tryd.func49, Tryd.ntmps49
  go_wp2_with (refine wpList_store_mid rfl 45 (.tmp 7) (.tmp 14) rfl (w.heap.size + 1) 0 (reqOf x).cells.toArray rfl rfl ?_ Tryd.size52 (oneMsg _) ?_; exact Hn.out; change wpList _ _ _ _ _ (((w.alloc (.cells x.cells.toArray 45)).alloc (.cells MsgV.zero.cells.toArray 45)).setCells (w.heap.size + 1) 0 (reqOf x).cells); rw [← EW.out])
  go_region
  all_goals
    go_wp2
    go_ret
    exact ⟨_, rfl, Hf.out⟩

set_option maxRecDepth 100000 in
set_option maxHeartbeats 1000000 in
theorem request_begin (h : DK w lo p m b L o n xs l wv) {i : Nat} (hw : LWf i l) (x : MsgV) (hq : ReqOk i (reqOf x)) (hi : i < n) (hp : l.phase = 0) (d : L8) (hd : lineD xs i = d) :
    Calls Tryd.prog 49 #[.pointer (some ⟨p, 0, none⟩), .pointer (some ⟨L, o, none⟩), .agg x.cells.toArray] w fun e w' => ∃ v, e = .returned v ∧ DPost w lo p m b L o n wv xs (l.request x d).1 (l.request x d).2 v w' := by
  have e1 : l.request x d = l.begin (reqOf x) d := by unfold LV.request; rw [if_neg (by simp [hp])]
  rw [e1]
  have HB := Lib.hid (mbox_new w x)
  have b0 := HB.out.c0
  have b1 := HB.out.c1
  have b2 := HB.out.c2
  have h1 := h.below HB.out.below
  have hs1 : (w.alloc (.cells x.cells.toArray 45)).heap.size = w.heap.size + 1 := by simp
  obtain ⟨W2, eW, bW, hn, hr, hlt⟩ := mbox (w.alloc (.cells x.cells.toArray 45)) (reqOf x)
  rw [hs1] at eW hn hr hlt
  have h2 := h1.below bW
  have hO2 : Only (fun _ => False) L o w W2 := Only.of_below (HB.out.below.trans (bW.mono (by omega)))
  have EW := Lib.hid eW; clear eW
  have Hn := Lib.hid hn; clear hn
  have HR := Lib.hid hr; clear hr
  have k13 : W2.cell? ⟨L, o + 13, none⟩ = some (.int .i64 0) := by rw [h2.kn.c13]; show some (Value.int .i64 l.phase) = _; rw [hp]
  have HG := Lib.hid (begin_any h2 hw (reqOf x) hq hi d hd)
  have HO := Lib.hid hO2; clear hO2
  clear h h1 h2 hw hq hp hd e1 HB bW hs1
  go_enter Tryd.func49, Tryd.ntmps49
  go_wp2_with (first | (refine wpList_store_mid rfl 45 (.tmp 7) (.tmp 14) rfl (w.heap.size + 1) 0 (reqOf x).cells.toArray rfl rfl ?_ Tryd.size52 (oneMsg _) ?_; exact Hn.out; change wpList _ _ _ _ _ (((w.alloc (.cells x.cells.toArray 45)).alloc (.cells MsgV.zero.cells.toArray 45)).setCells (w.heap.size + 1) 0 (reqOf x).cells); rw [← EW.out]) | (refine wpList_load_mid rfl 45 (.tmp 7) rfl (w.heap.size + 1) 0 rfl (reqOf x).cells _ ?_ Tryd.underlying45 rfl Tryd.size52 ?_; exact HR.out) | fail)
  refine HG.out.mono ?_
  rintro e w' ⟨v, rfl, h4⟩
  have Hf := Lib.hid (h4.after HO.out); clear h4
  go_wp2
  go_ret
  exact ⟨v, rfl, Hf.out⟩

theorem request_any (h : DK w lo p m b L o n xs l wv) {i : Nat} (hw : LWf i l) (x : MsgV) (hq : ReqOk i (reqOf x)) (hi : i < n) (d : L8) (hd : lineD xs i = d) :
    Calls Tryd.prog 49 #[.pointer (some ⟨p, 0, none⟩), .pointer (some ⟨L, o, none⟩), .agg x.cells.toArray] w fun e w' => ∃ v, e = .returned v ∧ DPost w lo p m b L o n wv xs (l.request x d).1 (l.request x d).2 v w' := by
  by_cases hp : l.phase = 0
  · exact request_begin h hw x hq hi hp d hd
  · exact request_wait h hw x hp d

set_option maxRecDepth 100000 in
set_option maxHeartbeats 1000000 in
theorem unblock_none (h : DK w lo p m b L o n xs l wv) (hm : l.ms = []) (d : L8) :
    Calls Tryd.prog 54 #[.pointer (some ⟨p, 0, none⟩), .pointer (some ⟨L, o, none⟩)] w fun e w' => ∃ v, e = .returned v ∧ DPost w lo p m b L o n wv xs (l.unblock d).1 (l.unblock d).2 v w' := by
  have e1 : l.unblock d = ({ l with phase := 0 }, []) := by unfold LV.unblock; rw [hm]
  rw [e1]
  have c13 : w.cell? ⟨L, o + 13, none⟩ = some (.int .i64 l.phase) := h.kn.c13
  have f13 := h.kn.2 13
  have hk := h.kn.set 13 (.int .i64 0) ({ l with phase := 0 }.kn wv) (by omega) rfl
  have c15 : (w.setCell ⟨L, o + 13, none⟩ (.int .i64 0)).cell? ⟨L, o + 15, none⟩ = some wv := hk.c15
  have hO : Only (fun _ => False) L o w (w.setCell ⟨L, o + 13, none⟩ (.int .i64 0)) := (Only.refl _ L o w).set 13 (by omega) _
  have Hf := Lib.hid (DPost.of (h.step (l' := { l with phase := 0 }) hk hO rfl) (dout_none _ _) hO)
  have hwt := h.wait
  rw [hm] at hwt
  rcases owns_form hwt with ⟨rfl, -, -⟩ | ⟨g, cap, rfl, -⟩
  all_goals
    clear h hwt hk hO e1 hm
    go_enter Tryd.func54, Tryd.ntmps54
    go_wp2
    go_ret
    exact ⟨_, rfl, Hf.out⟩

set_option maxRecDepth 100000 in
set_option maxHeartbeats 1000000 in
theorem unblock_first (h : DK w lo p m b L o n xs l wv) {i : Nat} (hw : LWf i l) (hi : i < n) (d : L8) (hd : lineD xs i = d) (q : MsgV) (r : List MsgV) (hm : l.ms = q :: r) :
    Calls Tryd.prog 54 #[.pointer (some ⟨p, 0, none⟩), .pointer (some ⟨L, o, none⟩)] w fun e w' => ∃ v, e = .returned v ∧ DPost w lo p m b L o n wv xs (l.unblock d).1 (l.unblock d).2 v w' := by
  have e1 : l.unblock d = LV.begin { l with phase := 0, ms := r } q d := by unfold LV.unblock; rw [hm]
  rw [e1]
  have hlen := hw.len
  rw [hm, List.length_cons] at hlen
  have hqr : ReqOk i q := hw.ms q (by rw [hm]; exact List.mem_cons_self ..)
  have hwr : LWf i { l with phase := 0, ms := r } := by
    have ha := hw.apart
    rw [hm] at ha
    exact ⟨hw.own0, hw.own4, hw.sh, hw.asked, fun hp => absurd rfl hp, fun y hy => hw.ms y (by rw [hm]; exact List.mem_cons_of_mem _ hy), (List.nodup_cons.1 ha).2⟩
  have c13 : w.cell? ⟨L, o + 13, none⟩ = some (.int .i64 l.phase) := h.kn.c13
  have f13 := h.kn.2 13
  have hk := h.kn.set 13 (.int .i64 0) ({ l with phase := 0 }.kn wv) (by omega) rfl
  have hO : Only (fun _ => False) L o w (w.setCell ⟨L, o + 13, none⟩ (.int .i64 0)) := (Only.refl _ L o w).set 13 (by omega) _
  have h1 := h.step (l' := { l with phase := 0 }) hk hO rfl
  have c15 : (w.setCell ⟨L, o + 13, none⟩ (.int .i64 0)).cell? ⟨L, o + 15, none⟩ = some wv := hk.c15
  have hwt := h1.wait
  rw [hm] at hwt
  rcases owns_form hwt with ⟨rfl, h0, -⟩ | ⟨g, cap, rfl, hg⟩
  · cases h0
  have hs1 : (w.setCell ⟨L, o + 13, none⟩ (.int .i64 0)).heap.size = w.heap.size := by simp
  obtain ⟨W2, eW, bW, hn, hr, hlt⟩ := mbox (w.setCell ⟨L, o + 13, none⟩ (.int .i64 0)) q
  rw [hs1] at eW hn hr hlt
  have h2 := h1.below bW
  have hO2 : Only (fun _ => False) L o w W2 := hO.trans (Only.of_below bW)
  have hwt2 := h2.wait
  rw [show ({ l with phase := 0 } : LV).ms = q :: r from hm] at hwt2
  have hrow : (w.setCell ⟨L, o + 13, none⟩ (.int .i64 0)).rangeAt g 0 q.cells := fun j v hv => by
    rw [Nat.zero_add]
    refine (owns_cell hwt rfl ?_).1
    have hj : j < 11 := (List.getElem?_eq_some_iff.1 hv).1
    rw [List.flatMap_cons, List.getElem?_append_left (by rw [MsgV.len]; exact hj)]
    exact hv
  have k15 : W2.cell? ⟨L, o + 15, none⟩ = some (.slice (some ⟨g, 0, none⟩) (q :: r).length cap) := h2.kn.c15
  have f15 := h2.kn.2 15
  have HDel := Lib.hid (delete_any lo g cap 0 (q :: r) W2 (by simp) (by rw [List.length_cons]; omega) hwt2)
  have Hrow := Lib.hid hrow; clear hrow
  have Hn := Lib.hid hn; clear hn
  have HR := Lib.hid hr; clear hr
  have EW := Lib.hid eW; clear eW
  have H2 := Lib.hid h2; clear h2
  have HO2 := Lib.hid hO2; clear hO2
  have hgL : g ≠ L := (h1.out g hg).2.2.2.1
  have hlL := h.lt
  have hgw : g < w.heap.size := by have := (owns_lt hwt hg).2; rw [hs1] at this; exact this
  have Hqr := Lib.hid hqr
  have Hwr := Lib.hid hwr
  have Hd := Lib.hid hd
  clear h h1 hk hO hw hqr hwr hd hwt hwt2 e1 bW hs1 hm hg
  simp only [List.length_cons] at k15 c15 HDel
  go_enter Tryd.func54, Tryd.ntmps54
  go_wp2_with (first | (refine wpList_load_mid rfl 45 (.tmp 19) rfl g 0 rfl q.cells _ ?_ Tryd.underlying45 rfl Tryd.size52 ?_; exact Hrow.out) | (refine wpList_store_mid rfl 45 (.tmp 5) (.tmp 20) rfl w.heap.size 0 q.cells.toArray rfl rfl ?_ Tryd.size52 (oneMsg _) ?_; exact Hn.out; change wpList _ _ _ _ _ (((w.setCell ⟨L, o + 13, none⟩ (.int .i64 0)).alloc (.cells MsgV.zero.cells.toArray 45)).setCells w.heap.size 0 q.cells); rw [← EW.out]) | fail)
  refine HDel.out.mono ?_
  rintro e w3 ⟨rfl, hown3, hT3⟩
  simp only [List.eraseIdx_cons_zero] at hown3
  have h2 := H2.out
  have k3 := h2.kn.tch hT3 (fun e => hgL e.symm)
  have c15b : w3.cell? ⟨L, o + 15, none⟩ = some (.slice (some ⟨g, 0, none⟩) (r.length + 1) cap) := k3.c15
  have f15b := k3.2 15
  have k4 := k3.set 15 (.slice (some ⟨g, 0, none⟩) r.length cap) ({ l with phase := 0, ms := r }.kn (.slice (some ⟨g, 0, none⟩) r.length cap)) (by omega) rfl
  have hO4 : Only (fun k => (Value.slice (some ⟨g, 0, none⟩) (r.length + 1) cap).ownBlock = some k) L o W2 (w3.setCell ⟨L, o + 15, none⟩ (.slice (some ⟨g, 0, none⟩) r.length cap)) :=
    ((Only.of_tch hT3 (fun e => hgL e.symm)).mono (fun k e => by subst e; rfl)).set 15 (by omega) _
  have hw4 : ∀ g', (Value.slice (some ⟨g, 0, none⟩) r.length cap).ownBlock = some g' → (Value.slice (some ⟨g, 0, none⟩) (r.length + 1) cap).ownBlock = some g' ∨ W2.heap.size ≤ g' := fun g' e => .inl e
  have h4 := h2.waits (l' := { l with phase := 0, ms := r }) k4 hO4 (owns_same hown3 (fun g' e => by cases e; exact Below.heap_setCell _ _ _ _ hgL)) hw4
  have hO : Only (CB b (.slice (some ⟨g, 0, none⟩) (r.length + 1) cap)) L o w (w3.setCell ⟨L, o + 15, none⟩ (.slice (some ⟨g, 0, none⟩) r.length cap)) := (HO2.out.mono (fun _ h => h.elim)).trans (hO4.mono (fun _ e => .inr e))
  have HR4 := Lib.hid (show (w3.setCell ⟨L, o + 15, none⟩ (.slice (some ⟨g, 0, none⟩) r.length cap)).rangeAt w.heap.size 0 q.cells from fun j v hv => by
    rw [World.cell?_setCell_other _ _ _ _ (by simp only [ne_eq, Addr.mk.injEq, not_and]; omega), World.cell?_of_block (a := ⟨w.heap.size, 0 + j, none⟩) (hT3.block w.heap.size hlt (by omega))]
    exact HR.out j v hv)
  have HG := Lib.hid (begin_any h4 Hwr.out q Hqr.out hi d Hd.out)
  have HO := Lib.hid hO; clear hO
  clear hown3 h4 k4 hO4 hw4 k3 h2 hT3
  simp only [List.eraseIdx_cons_zero]
  go_wp2_with (first | (refine wpList_load_mid rfl 45 (.tmp 5) rfl w.heap.size 0 rfl q.cells _ ?_ Tryd.underlying45 rfl Tryd.size52 ?_; exact HR4.out) | fail)
  refine HG.out.mono ?_
  rintro e w' ⟨v, rfl, h5⟩
  have hf : DPost w lo p m b L o n (.slice (some ⟨g, 0, none⟩) (r.length + 1) cap) xs _ _ v w' := h5.chain HO.out (fun g' e => .inl e)
  have Hf := Lib.hid hf; clear hf h5
  go_wp2
  go_ret
  exact ⟨v, rfl, Hf.out⟩

theorem unblock_any (h : DK w lo p m b L o n xs l wv) {i : Nat} (hw : LWf i l) (hi : i < n) (d : L8) (hd : lineD xs i = d) :
    Calls Tryd.prog 54 #[.pointer (some ⟨p, 0, none⟩), .pointer (some ⟨L, o, none⟩)] w fun e w' => ∃ v, e = .returned v ∧ DPost w lo p m b L o n wv xs (l.unblock d).1 (l.unblock d).2 v w' := by
  cases hm : l.ms with
  | nil => exact unblock_none h hm d
  | cons q r => exact unblock_first h hw hi d hd q r hm
end

end Go.Proofs.YtnhainjdaafmiaaDoor
