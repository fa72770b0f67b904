/- CacheNames: the walk. Conditions: those stated in each theorem. -/
import Derived.Test.YtimoaiebikoojaaAlive
namespace Go.Proofs.Ytimoaiebikoojaa
open Go.RowKit Go.BigFrame

/-- Where a walk over one cache stands: what lies in it, and rows that were laid aside. -/
structure St (w0 w : World) (p S : Nat) (bs : List Nat) (ways : Nat) (ss : List (List Ent)) (u : Int) (G : List (Nat × List Value)) : Prop where
  cache : CacheAt w p S bs ways ss u
  below : Below w0.heap.size w0 w
  size : w0.heap.size ≤ w.heap.size
  mine : ∀ k, Turns p bs k → w0.heap.size ≤ k
  rows : ∀ x ∈ G, x.1 < w.heap.size ∧ ¬ Turns p bs x.1 ∧ w.rangeAt x.1 0 x.2
section
variable {w0 w w' : World} {p S : Nat} {bs : List Nat} {ways : Nat} {ss ss' : List (List Ent)} {u u' : Int} {G : List (Nat × List Value)}
theorem St.turn (h : St w0 w p S bs ways ss u G) (hc : CacheAt w' p S bs ways ss' u') (hT : Tch (Turns p bs) w w') : St w0 w' p S bs ways ss' u' G :=
  ⟨hc, h.below.trans (hT.below h.size h.mine), Nat.le_trans h.size hT.size, h.mine, fun x hx => by
    obtain ⟨h1, h2, h3⟩ := h.rows x hx
    refine ⟨Nat.lt_of_lt_of_le h1 hT.size, h2, fun i v hi => ?_⟩
    rw [World.cell?_of_block (a := ⟨x.1, 0 + i, none⟩) (hT.block _ h1 h2)]
    exact h3 i v hi⟩
theorem St.idle (h : St w0 w p S bs ways ss u G) (hb : Below w.heap.size w w') : St w0 w' p S bs ways ss u G :=
  h.turn (h.cache.below hb (Nat.le_refl _)) (turns_of_below hb)
theorem St.stash (h : St w0 w p S bs ways ss u G) (e : Ent) : ∃ W, W = (w.alloc (.cells Ent.zero.cells.toArray 42)).setCells w.heap.size 0 e.cells ∧ St w0 W p S bs ways ss u ((w.heap.size, e.cells) :: G) ∧ (w.alloc (.cells Ent.zero.cells.toArray 42)).there w.heap.size 0 21 := by
  have hn := there_new w Ent.zero.cells 42 21 rfl
  have hb : Below w.heap.size w ((w.alloc (.cells Ent.zero.cells.toArray 42)).setCells w.heap.size 0 e.cells) := below_setCells (Nat.le_refl _) _ _ ((Below.refl _ w).alloc (Nat.le_refl _) _)
  have hl := h.cache.lt
  have hi := h.idle hb
  refine ⟨_, rfl, ⟨hi.cache, hi.below, hi.size, hi.mine, fun x hx => ?_⟩, hn⟩
  rcases List.mem_cons.1 hx with rfl | hx
  · have := (Tch.setCells (C := fun k => k = w.heap.size) (.inl rfl) e.cells 0 (Tch.refl _ (w.alloc (.cells Ent.zero.cells.toArray 42)))).size
    rw [World.size_alloc] at this
    exact ⟨by simp only; omega, fun hk => hk.elim (fun e => by simp only at e; omega) (fun hm => by have := hl.2.2 _ hm; simp only at this; omega), range_set e.cells (by rw [Ent.len]; exact hn)⟩
  · exact hi.rows x hx
theorem St.stash36 (h : St w0 w p S bs ways ss u G) (d : L8) : ∃ W, W = (w.alloc (.cells L8.zero.cells.toArray 36)).setCells w.heap.size 0 d.cells ∧ St w0 W p S bs ways ss u G ∧ (w.alloc (.cells L8.zero.cells.toArray 36)).there w.heap.size 0 8 :=
  ⟨_, rfl, h.idle (below_setCells (Nat.le_refl _) _ _ ((Below.refl _ w).alloc (Nat.le_refl _) _)), there_new w L8.zero.cells 36 8 rfl⟩
end

def C0 : List (List Ent) := newSets 8 4
def C1 : List (List Ent) := upd C0 5 0 (Ent.fresh (5 : Nat) 2 L8.zero (0 + 1))
def C2 : List (List Ent) := upd C1 5 0 (getE C1 5 0).keep
def C3 : List (List Ent) := upd C2 5 0 { getE C2 5 0 with used := 0 + 1 + 1, data := (getE C2 5 0).data.set (40 % 8) 9 }
def C4 : List (List Ent) := turnAll Ent.clear (turnAll Ent.back C3)
def C5 : List (List Ent) := upd C4 5 0 { getE C4 5 0 with used := 0 + 1 + 1 + 1 }
def C6 : List (List Ent) := upd C5 6 0 (Ent.fresh (6 : Nat) 1 L8.zero (0 + 1 + 1 + 1 + 1))
theorem n_f1 : Finds C0 (5 : Nat) = none := by kernel_rfl
theorem n_g1 : Goes C0 5 = some (5, 0) := by kernel_rfl
theorem n_f2 : Finds C1 5 = some (5, 0) := by kernel_rfl
theorem n_t2 : (getE C1 5 0).state = 2 := by kernel_rfl
theorem n_f3 : Finds C2 ((40 / 8 : Nat) : Int) = some (5, 0) := by kernel_rfl
theorem n_t3 : (getE C2 5 0).state = 2 := by kernel_rfl
theorem n_f4 : Finds C3 5 = some (5, 0) := by kernel_rfl
theorem n_e4 : getE C3 5 0 = ⟨5, 2, false, true, ⟨9, 0, 0, 0, 0, 0, 0, 0⟩, L8.zero, 2⟩ := by kernel_rfl
theorem n_f5 : Finds C4 ((40 / 8 : Nat) : Int) = some (5, 0) := by kernel_rfl
theorem n_d5 : (getE C4 5 0).data.get (40 % 8) = 0 := by kernel_rfl
theorem n_f6 : Finds C5 (5 : Nat) = some (5, 0) := by kernel_rfl
theorem n_f7 : Finds C5 (6 : Nat) = none := by kernel_rfl
theorem n_g7 : Goes C5 6 = some (6, 0) := by kernel_rfl
theorem n_f8 : Finds C6 ((48 / 8 : Nat) : Int) = some (6, 0) := by kernel_rfl
theorem n_t8 : (getE C6 6 0).state ≠ 2 := by rw [show (getE C6 6 0).state = 1 by kernel_rfl]; omega
theorem n_f9 : Finds C6 6 = some (6, 0) := by kernel_rfl
def e9 : Ent := ⟨5, 2, false, true, ⟨9, 0, 0, 0, 0, 0, 0, 0⟩, L8.zero, 2⟩

set_option maxRecDepth 100000 in
set_option maxHeartbeats 4000000 in
theorem names_ok (w : World) : Calls Try.prog 4 #[] w fun e w' => e = .returned (.bool true) ∧ Below w.heap.size w w' := by
  go_enter Try.func4, Try.ntmps4
  go_wp2_with fail
  refine (new_ok 8 4 w (by omega) (by omega) (by omega) (by omega)).mono ?_
  rintro e w1 ⟨p, S, bs, rfl, -, h0, hb0, hp, hS, hbs⟩
  have H1 : Hid (St w w1 p S bs 4 C0 0 []) := Lib.hid ⟨h0, hb0, hb0.size, fun k hk => hk.elim (fun e => e ▸ hp) (hbs k), fun _ h => by cases h⟩
  clear h0 hb0 hp hS hbs
  go_wp2_with fail
  refine (new_bad 0 1 w1 (by omega)).mono ?_
  rintro e w' ⟨rfl, rfl⟩
  go_wp2_with fail
  refine (new_bad 1 5 w1 (by omega)).mono ?_
  rintro e w' ⟨rfl, rfl⟩
  go_wp2_with fail
  refine (new_bad 9 1 w1 (by omega)).mono ?_
  rintro e w' ⟨rfl, rfl⟩
  go_wp2_with fail
  refine (fill_ok (k := 5) (st := 2) (d := L8.zero) (ss := C0) (u := 0) H1.out.cache (.inr rfl) n_f1 n_g1 (by omega) (by omega)).mono ?_
  rintro e w2 ⟨rfl, h2, hT2⟩
  have H2 : Hid (St w w2 p S bs 4 C1 (0 + 1) []) := Lib.hid (H1.out.turn h2 hT2)
  clear h2 hT2
  obtain ⟨w3, e3, h3, hn3⟩ := H2.out.stash (getE C0 5 0)
  have E3 := Lib.hid e3; clear e3
  have H3 := Lib.hid h3; clear h3
  have Hn3 := Lib.hid hn3; clear hn3
  go_wp2_with (refine wpList_store_mid rfl 42 (.tmp 9) (.tmp 73) rfl w2.heap.size 0 (getE C0 5 0).cells.toArray rfl rfl ?_ Try.size42 (oneEnt _) ?_; exact Hn3.out; change wpList _ _ _ _ _ ((w2.alloc (.cells Ent.zero.cells.toArray 42)).setCells w2.heap.size 0 (getE C0 5 0).cells); rw [← E3.out])
  refine (mark_write 5 0 (markW_ok (ss := C1) H3.out.cache 5 n_f2 n_t2)).mono ?_
  rintro e w4 ⟨rfl, h4, hT4⟩
  have H4 : Hid (St w w4 p S bs 4 C2 (0 + 1) []) := Lib.hid ⟨(H3.out.turn h4 hT4).cache, (H3.out.turn h4 hT4).below, (H3.out.turn h4 hT4).size, H3.out.mine, fun _ h => by cases h⟩
  clear h4 hT4
  go_wp2_with fail
  refine (put_ok (a := 40) (v := 9) (ss := C2) H4.out.cache (by omega) n_f3 n_t3 (by omega) (by omega)).mono ?_
  rintro e w5 ⟨rfl, h5, hT5⟩
  have H5 : Hid (St w w5 p S bs 4 C3 (0 + 1 + 1) []) := Lib.hid (H4.out.turn h5 hT5)
  clear h5 hT5
  go_wp2_with fail
  refine (find_some (ss := C3) H5.out.cache 5 n_f4).mono ?_
  rintro e w6 ⟨rfl, hb6⟩
  have H6 := Lib.hid (H5.out.idle hb6); clear hb6
  rw [show getE C3 5 0 = e9 from n_e4]
  obtain ⟨w7, e7, h7, hn7⟩ := H6.out.stash e9
  have E7 := Lib.hid e7; clear e7
  have H7 := Lib.hid h7; clear h7
  have Hn7 := Lib.hid hn7; clear hn7
  go_wp2_with (refine wpList_store_mid rfl 42 (.tmp 14) (.tmp 83) rfl w6.heap.size 0 e9.cells.toArray rfl rfl ?_ Try.size42 (oneEnt _) ?_; exact Hn7.out; change wpList _ _ _ _ _ ((w6.alloc (.cells Ent.zero.cells.toArray 42)).setCells w6.heap.size 0 e9.cells); rw [← E7.out])
  refine (discard_any p S 4 bs C3 (0 + 1 + 1) w7 H7.out.cache).mono ?_
  rintro e w8 ⟨rfl, h8, hT8⟩
  have H8 : Hid (St w w8 p S bs 4 C4 (0 + 1 + 1) [(w6.heap.size, e9.cells)]) := Lib.hid (H7.out.turn h8 (hT8.mono (fun _ _ h => .inr h)))
  clear h8 hT8
  go_wp2_with fail
  refine (word_ok (a := 40) (ss := C4) H8.out.cache (by omega) n_f5 (by omega) (by omega)).mono ?_
  rintro e w9 ⟨rfl, h9, hT9⟩
  have H9 : Hid (St w w9 p S bs 4 C5 (0 + 1 + 1 + 1) [(w6.heap.size, e9.cells)]) := Lib.hid (H8.out.turn h9 hT9)
  clear h9 hT9
  rw [n_d5]
  go_wp2_with fail
  refine (fill_twice (ss := C5) H9.out.cache 5 1 L8.zero (.inl rfl) n_f6).mono ?_
  rintro e wa ⟨rfl, hba⟩
  have Ha := Lib.hid (H9.out.idle hba); clear hba
  obtain ⟨wb, eb, hb, hnb⟩ := Ha.out.stash Ent.zero
  have Eb := Lib.hid eb; clear eb
  have Hb := Lib.hid hb; clear hb
  have Hnb := Lib.hid hnb; clear hnb
  go_wp2_with (refine wpList_store_mid rfl 42 (.tmp 19) (.tmp 96) rfl wa.heap.size 0 Ent.zero.cells.toArray rfl rfl ?_ Try.size42 (oneEnt _) ?_; exact Hnb.out; change wpList _ _ _ _ _ ((wa.alloc (.cells Ent.zero.cells.toArray 42)).setCells wa.heap.size 0 Ent.zero.cells); rw [← Eb.out])
  refine (fill_arg p (-1) 1 L8.zero wb (by omega)).mono ?_
  rintro e wc ⟨rfl, hbc⟩
  have Hc := Lib.hid (Hb.out.idle hbc); clear hbc
  obtain ⟨wd, ed, hd, hnd⟩ := Hc.out.stash Ent.zero
  have Ed := Lib.hid ed; clear ed
  have Hd := Lib.hid hd; clear hd
  have Hnd := Lib.hid hnd; clear hnd
  go_wp2_with (refine wpList_store_mid rfl 42 (.tmp 22) (.tmp 103) rfl wc.heap.size 0 Ent.zero.cells.toArray rfl rfl ?_ Try.size42 (oneEnt _) ?_; exact Hnd.out; change wpList _ _ _ _ _ ((wc.alloc (.cells Ent.zero.cells.toArray 42)).setCells wc.heap.size 0 Ent.zero.cells); rw [← Ed.out])
  refine (fill_arg p 6 0 L8.zero wd (by omega)).mono ?_
  rintro e we ⟨rfl, hbe⟩
  have He := Lib.hid (Hd.out.idle hbe); clear hbe
  obtain ⟨wf, ef, hf, hnf⟩ := He.out.stash Ent.zero
  have Ef := Lib.hid ef; clear ef
  have Hf := Lib.hid hf; clear hf
  have Hnf := Lib.hid hnf; clear hnf
  go_wp2_with (refine wpList_store_mid rfl 42 (.tmp 25) (.tmp 110) rfl we.heap.size 0 Ent.zero.cells.toArray rfl rfl ?_ Try.size42 (oneEnt _) ?_; exact Hnf.out; change wpList _ _ _ _ _ ((we.alloc (.cells Ent.zero.cells.toArray 42)).setCells we.heap.size 0 Ent.zero.cells); rw [← Ef.out])
  refine (fill_ok (k := 6) (st := 1) (d := L8.zero) (ss := C5) (u := 0 + 1 + 1 + 1) Hf.out.cache (.inl rfl) n_f7 n_g7 (by omega) (by omega)).mono ?_
  rintro e wg ⟨rfl, hg, hTg⟩
  have Hg0 := Lib.hid (Hf.out.turn hg hTg)
  have Hg : Hid (St w wg p S bs 4 C6 (0 + 1 + 1 + 1 + 1) [(w6.heap.size, e9.cells)]) := Lib.hid ⟨hg, Hg0.out.below, Hg0.out.size, Hg0.out.mine, fun x hx => Hg0.out.rows x (by simp at hx; simp [hx])⟩
  clear hg hTg Hg0
  go_wp2_with fail
  refine (put_shared (a := 48) (v := 1) (ss := C6) Hg.out.cache (by omega) n_f8 n_t8).mono ?_
  rintro e wh ⟨rfl, hbh⟩
  have Hh := Lib.hid (Hg.out.idle hbh); clear hbh
  go_wp2_with fail
  refine (mark_write 6 20 (markW_bad 6 (.inr rfl) (heldAs_other (ss := C6) Hh.out.cache 2 n_f9 n_t8))).mono ?_
  rintro e wi ⟨rfl, hbi⟩
  have Hi := Lib.hid (Hh.out.idle hbi); clear hbi
  go_wp2_with fail
  refine (word_neg (-1) p wi (by omega)).mono ?_
  rintro e wj ⟨rfl, hbj⟩
  have Hj := Lib.hid (Hi.out.idle hbj); clear hbj
  have hrow := (Hj.out.rows (w6.heap.size, e9.cells) (List.mem_cons_self ..)).2.2
  have c3 : wj.cell? ⟨w6.heap.size, 3, none⟩ = some (.bool true) := hrow 3 _ rfl
  have c4 : wj.cell? ⟨w6.heap.size, 4, none⟩ = some (.int .u64 9) := hrow 4 _ rfl
  have c12 : wj.cell? ⟨w6.heap.size, 12, none⟩ = some (.int .u64 0) := hrow 12 _ rfl
  clear hrow
  go_wp2_with fail
  clear c3 c4 c12
  refine (find_bad (q := none) (v := 1) 0 (.inl rfl) (fun W _ => held_nil 0 W)).mono ?_
  rintro e wk ⟨rfl, hbk⟩
  have Hk := Lib.hid (Hj.out.idle hbk); clear hbk
  obtain ⟨wl, el, hl, hnl⟩ := Hk.out.stash Ent.zero
  have El := Lib.hid el; clear el
  have Hl := Lib.hid hl; clear hl
  have Hnl := Lib.hid hnl; clear hnl
  go_wp2_with (refine wpList_store_mid rfl 42 (.tmp 35) (.tmp 204) rfl wk.heap.size 0 Ent.zero.cells.toArray rfl rfl ?_ Try.size42 (oneEnt _) ?_; exact Hnl.out; change wpList _ _ _ _ _ ((wk.alloc (.cells Ent.zero.cells.toArray 42)).setCells wk.heap.size 0 Ent.zero.cells); rw [← El.out])
  refine (fill_nil 0 1 L8.zero wl).mono ?_
  rintro e wm ⟨rfl, hbm⟩
  have Hm := Lib.hid (Hl.out.idle hbm); clear hbm
  obtain ⟨wn, en, hn, hnn⟩ := Hm.out.stash Ent.zero
  have En := Lib.hid en; clear en
  have Hn := Lib.hid hn; clear hn
  have Hnn := Lib.hid hnn; clear hnn
  go_wp2_with (refine wpList_store_mid rfl 42 (.tmp 37) (.tmp 210) rfl wm.heap.size 0 Ent.zero.cells.toArray rfl rfl ?_ Try.size42 (oneEnt _) ?_; exact Hnn.out; change wpList _ _ _ _ _ ((wm.alloc (.cells Ent.zero.cells.toArray 42)).setCells wm.heap.size 0 Ent.zero.cells); rw [← En.out])
  refine (word_nil (-1) wn).mono ?_
  rintro e wo ⟨rfl, hbo⟩
  have Ho := Lib.hid (Hn.out.idle hbo); clear hbo
  go_wp2_with fail
  refine (put_nil 0 1 wo).mono ?_
  rintro e wp ⟨rfl, hbp⟩
  have Hp := Lib.hid (Ho.out.idle hbp); clear hbp
  go_wp2_with fail
  refine (mark_nil 0 wp).mono ?_
  rintro e wq ⟨rfl, hbq⟩
  have Hq := Lib.hid (Hp.out.idle hbq); clear hbq
  go_wp2_with fail
  refine (demote_bad (q := .pointer none) (v := 1) 0 (.inl rfl) (fun W _ => heldAs_nil 0 2 W)).mono ?_
  rintro e wr ⟨rfl, hbr⟩
  have Hr := Lib.hid (Hq.out.idle hbr); clear hbr
  obtain ⟨ws, es, hs, hns⟩ := Hr.out.stash36 L8.zero
  have Es := Lib.hid es; clear es
  have Hs := Lib.hid hs; clear hs
  have Hns := Lib.hid hns; clear hns
  go_wp2_with (refine wpList_store_mid rfl 36 (.tmp 44) (.tmp 225) rfl wr.heap.size 0 L8.zero.cells.toArray rfl rfl ?_ Try.size36 (oneCells _) ?_; exact Hns.out; change wpList _ _ _ _ _ ((wr.alloc (.cells L8.zero.cells.toArray 36)).setCells wr.heap.size 0 L8.zero.cells); rw [← Es.out])
  refine (promote_bad (q := .pointer none) (v := 1) 0 L8.zero (.inl rfl) (fun W _ => heldAs_nil 0 1 W)).mono ?_
  rintro e wt ⟨rfl, hbt⟩
  have Ht := Lib.hid (Hs.out.idle hbt); clear hbt
  go_wp2_with fail
  refine (drop_bad (q := none) (v := 1) 0 (.inl rfl) (fun W _ => held_nil 0 W)).mono ?_
  rintro e wu ⟨rfl, hbu⟩
  have Hu := Lib.hid (Ht.out.idle hbu); clear hbu
  obtain ⟨wv, ev, hv, hnv⟩ := Hu.out.stash Ent.zero
  have Ev := Lib.hid ev; clear ev
  have Hv := Lib.hid hv; clear hv
  have Hnv := Lib.hid hnv; clear hnv
  go_wp2_with (refine wpList_store_mid rfl 42 (.tmp 47) (.tmp 233) rfl wu.heap.size 0 Ent.zero.cells.toArray rfl rfl ?_ Try.size42 (oneEnt _) ?_; exact Hnv.out; change wpList _ _ _ _ _ ((wu.alloc (.cells Ent.zero.cells.toArray 42)).setCells wu.heap.size 0 Ent.zero.cells); rw [← Ev.out])
  refine (commit_nil wv).mono ?_
  rintro e w' ⟨rfl, rfl⟩
  go_wp2_with fail
  refine (discard_nil wv).mono ?_
  rintro e w' ⟨rfl, rfl⟩
  go_wp2_with fail
  refine (alls_nil wv).mono ?_
  rintro e w' ⟨rfl, rfl⟩
  go_wp2_with fail
  refine (alive_ok wv).mono ?_
  rintro e ww ⟨rfl, hbw⟩
  have Hw := Lib.hid (Hv.out.below.trans (hbw.mono Hv.out.size)); clear hbw
  go_wp2
  go_ret
  exact ⟨rfl, Hw.out⟩

end Go.Proofs.Ytimoaiebikoojaa
