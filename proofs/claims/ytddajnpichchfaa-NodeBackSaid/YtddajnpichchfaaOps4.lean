/- Find and Drop. Conditions: those stated in each theorem. -/
import Derived.Test.YtddajnpichchfaaOps3
namespace Go.Proofs.Ytddajnpichchfaa
open Go.RowKit

theorem oneEnt (e : Ent) : (e.cells.toArray).all (·.oneCell') = true := by simp [Ent.cells, Value.oneCell']
/-- A fresh block of an entry. -/
theorem there_new (w : World) (L : List Value) (t : TypeId) (n : Nat) (hn : n = L.length) : (w.alloc (.cells L.toArray t)).there w.heap.size 0 n := fun j hj => by
  have h := Holds.new w t L
  rw [Nat.zero_add]
  exact ⟨by rw [h.cell (List.getElem?_eq_getElem (show j < L.length by omega))]; rfl, h.free j⟩
theorem there_later {w w' : World} {b o n : Nat} (h : w.there b o n) (hb : w'.heap[b]? = w.heap[b]?) : w'.there b o n := fun j hj => by
  rw [World.cell?_of_block (a := ⟨b, o + j, none⟩) hb, World.frozen?_of_block (a := ⟨b, o + j, none⟩) hb]; exact h j hj
/-- What a row of stores has left. -/
theorem range_set {w : World} {b o : Nat} (L : List Value) (h : w.there b o L.length) : (w.setCells b o L).rangeAt b o L := fun j v hv => by
  have hj : j < L.length := (List.getElem?_eq_some_iff.1 hv).1
  rw [World.cell?_setCells_in b L o w (fun j hj => (h j hj).1) j hj]
  rw [List.getElem?_eq_getElem hj] at hv
  exact hv

theorem results_ct {fn : Func} {a t : Tmp} {ty : TypeId} (h : fn.results = #[.cell a ty, .tmp t]) {tmps : Array Value} {P : Program} {w : World} {ad : Addr} {v u : Value} (ha : tmps.getD a undef = .pointer (some ad)) (hv : (loadVar ty ad).run P w = .ok v w) (hu : tmps.getD t undef = u) :
    (results fn tmps).run P w = .ok (.tuple #[v, u]) w := by
  subst hu
  unfold results
  rw [h]
  rw [Array.getD_eq_getD_getElem?] at ha
  simp [ha, asAddr, hv, Result.andThen]
theorem results_ctt {fn : Func} {a t t2 : Tmp} {ty : TypeId} (h : fn.results = #[.cell a ty, .tmp t, .tmp t2]) {tmps : Array Value} {P : Program} {w : World} {ad : Addr} {v u u2 : Value} (ha : tmps.getD a undef = .pointer (some ad)) (hv : (loadVar ty ad).run P w = .ok v w) (hu : tmps.getD t undef = u) (hu2 : tmps.getD t2 undef = u2) :
    (results fn tmps).run P w = .ok (.tuple #[v, u, u2]) w := by
  subst hu hu2
  unfold results
  rw [h]
  rw [Array.getD_eq_getD_getElem?] at ha
  simp [ha, asAddr, hv, Result.andThen]

theorem Try.load42 {w : World} {b : Nat} (e : Ent) (h : w.rangeAt b 0 e.cells) : (loadVar 42 ⟨b, 0, none⟩).run Try.prog w = .ok (.agg e.cells.toArray) w :=
  run_loadVar_mid (P := Try.prog) w b 0 42 e.cells _ h Try.underlying42 rfl Try.size42

def FindPost (e0 : Ent) (had : Bool) (w : World) (e : Ending) (w' : World) : Prop := e = .returned (.tuple #[.agg e0.cells.toArray, .bool had]) ∧ Below w.heap.size w w'

theorem below_setCells {B : Nat} {a : World} {b : Nat} (hp : B ≤ b) : ∀ (vs : List Value) (o : Nat) {w : World}, Below B a w → Below B a (w.setCells b o vs)
  | [], _, _, h => h
  | v :: r, o, _, h => below_setCells hp r (o + 1) (h.setCell (p := ⟨b, o, none⟩) hp v)

set_option maxRecDepth 100000 in
set_option maxHeartbeats 1000000 in
theorem find_some {w : World} {p S : Nat} {bs : List Nat} {ways : Nat} {ss : List (List Ent)} {u : Int} (h : CacheAt w p S bs ways ss u) (k : Int) {i j : Nat} (hf : Finds ss k = some (i, j)) :
    Calls Try.prog 50 #[.pointer (some ⟨p, 0, none⟩), .int .i64 k] w (FindPost (getE ss i j) true w) := by
  obtain ⟨b, hbx, hjl⟩ := Finds.bk h hf
  have h0 := h.alloc (.cells Ent.zero.cells.toArray 42)
  have H := Lib.hid (held_some h0 hf hbx)
  have H0 := Lib.hid h0
  have Hn := Lib.hid (there_new w Ent.zero.cells 42 21 rfl)
  have hB0 : Below w.heap.size w (w.alloc (.cells Ent.zero.cells.toArray 42)) := (Below.refl _ w).alloc (Nat.le_refl _) _
  have hs0 : (w.alloc (.cells Ent.zero.cells.toArray 42)).heap.size = w.heap.size + 1 := by simp
  have HB0 := Lib.hid hB0; clear hB0
  have Hs0 := Lib.hid hs0; clear hs0
  clear h h0 hf
  have Hbx := Lib.hid hbx; clear hbx
  go_enter Try.func50, Try.ntmps50
  go_wp2_with fail
  refine H.out.mono ?_
  rintro e w1 ⟨rfl, hb⟩
  have h1 := H0.out.below hb (Nat.le_refl _)
  obtain ⟨s, hs, he, hr⟩ := h1.ent Hbx.out hjl
  have hg := hr.whole he
  have ht := there_later Hn.out (hb.block w.heap.size (by rw [Hs0.out]; omega))
  have hB := HB0.out.trans (hb.mono (by rw [Hs0.out]; omega))
  have Hg := Lib.hid hg; clear hg
  have Ht := Lib.hid ht; clear ht
  have HB := Lib.hid hB; clear hB
  clear hs he hr h1 hb
  go_wp2_with (first | (refine wpList_load_mid rfl 42 (.tmp 18) rfl b (j * 21) rfl (getE ss i j).cells _ ?_ Try.underlying42 rfl Try.size42 ?_; exact Hg.out) | (refine wpList_store_mid rfl 42 (.tmp 4) (.tmp 19) rfl w.heap.size 0 (getE ss i j).cells.toArray rfl rfl ?_ Try.size42 (oneEnt _) ?_; exact Ht.out))
  have hl := Try.load42 (getE ss i j) (range_set (w := w1) (b := w.heap.size) (o := 0) (getE ss i j).cells (by rw [Ent.len]; exact Ht.out))
  exact bodyPost_ret (results_ct rfl rfl hl rfl) rfl ⟨rfl, below_setCells (Nat.le_refl _) _ _ HB.out⟩

set_option maxRecDepth 100000 in
set_option maxHeartbeats 1000000 in
theorem find_bad {w : World} {q : Option Addr} {v : Int} (k : Int) (hv : v = 1 ∨ v = 20) (h : ∀ W, W = w.alloc (.cells Ent.zero.cells.toArray 42) → Calls Try.prog 69 #[.pointer q, .int .i64 k] W fun e w' => e = .returned (.tuple #[.pointer none, .int .i64 v]) ∧ Below W.heap.size W w') :
    Calls Try.prog 50 #[.pointer q, .int .i64 k] w (FindPost Ent.zero false w) := by
  have H := Lib.hid (h _ rfl)
  have Hn := Lib.hid (there_new w Ent.zero.cells 42 21 rfl)
  have hB0 : Below w.heap.size w (w.alloc (.cells Ent.zero.cells.toArray 42)) := (Below.refl _ w).alloc (Nat.le_refl _) _
  have hs0 : (w.alloc (.cells Ent.zero.cells.toArray 42)).heap.size = w.heap.size + 1 := by simp
  have HB0 := Lib.hid hB0; clear hB0
  have Hs0 := Lib.hid hs0; clear hs0
  clear h
  rcases hv with rfl | rfl
  all_goals
    go_enter Try.func50, Try.ntmps50
    go_wp2_with fail
    refine H.out.mono ?_
    rintro e w1 ⟨rfl, hb⟩
    have ht := there_later Hn.out (hb.block w.heap.size (by rw [Hs0.out]; omega))
    have hB := HB0.out.trans (hb.mono (by rw [Hs0.out]; omega))
    have Ht := Lib.hid ht; clear ht
    have HB := Lib.hid hB; clear hB
    clear hb
    go_wp2_with (refine wpList_store_mid rfl 42 (.tmp 4) (.tmp 16) rfl w.heap.size 0 Ent.zero.cells.toArray rfl rfl ?_ Try.size42 (oneEnt _) ?_; exact Ht.out)
    have hl := Try.load42 Ent.zero (range_set (w := w1) (b := w.heap.size) (o := 0) Ent.zero.cells (by rw [Ent.len]; exact Ht.out))
    exact bodyPost_ret (results_ct rfl rfl hl rfl) rfl ⟨rfl, below_setCells (Nat.le_refl _) _ _ HB.out⟩

theorem there_setCells {b' : Nat} : ∀ (vs : List Value) (o' : Nat) {w : World} {b o n : Nat}, w.there b o n → (w.setCells b' o' vs).there b o n
  | [], _, _, _, _, _, h => h
  | v :: r, o', _, _, _, _, h => there_setCells r (o' + 1) (there_set h ⟨b', o', none⟩ v)
theorem range_other {w : World} {b b' o o' : Nat} {L : List Value} (h : w.rangeAt b o L) (hb : b ≠ b') (vs : List Value) : (w.setCells b' o' vs).rangeAt b o L := fun j v hv => by
  rw [World.cell?_setCells_out b' vs o' w _ (fun e => absurd e hb)]; exact h j v hv

theorem splice_all : ∀ (vs A L : List Value), L.length = vs.length → splice (A ++ L) A.length vs = A ++ vs
  | [], A, L, h => by
    obtain rfl : L = [] := List.length_eq_zero_iff.1 h
    rfl
  | v :: r, A, L, h => by
    match L, h with
    | x :: L, h =>
      rw [splice, List.set_append_right _ _ (Nat.le_refl _), Nat.sub_self, List.set_cons_zero]
      have := splice_all r (A ++ [v]) L (by simpa using h)
      simpa using this
theorem splices_over (L L' : List Value) (h : L.length = L'.length) : splices L [(0, L')] = L' := splice_all L' [] L h
theorem Ent.over (e e' : Ent) : splices e.cells [(0, e'.cells)] = e'.cells := splices_over _ _ ((Ent.len e).trans (Ent.len e').symm)
theorem wr_one (w : World) (b o : Nat) (L : List Value) : wr w b o [(0, L)] = w.setCells b o L := by
  show w.setCells b (o + 0) L = _
  rw [Nat.add_zero]

def DropPost (p S ways : Nat) (bs : List Nat) (ss : List (List Ent)) (u : Int) (i j : Nat) (w : World) (e : Ending) (w' : World) : Prop :=
  e = .returned (.tuple #[.agg (getE ss i j).cells.toArray, .int .i64 0]) ∧ CacheAt w' p S bs ways (upd ss i j Ent.zero) u ∧ Tch (Turns p bs) w w'

set_option maxRecDepth 100000 in
set_option maxHeartbeats 1000000 in
theorem drop_some {w : World} {p S : Nat} {bs : List Nat} {ways : Nat} {ss : List (List Ent)} {u : Int} (h : CacheAt w p S bs ways ss u) (k : Int) {i j : Nat} (hf : Finds ss k = some (i, j)) :
    Calls Try.prog 44 #[.pointer (some ⟨p, 0, none⟩), .int .i64 k] w (DropPost p S ways bs ss u i j w) := by
  obtain ⟨b, hbx, hjl⟩ := Finds.bk h hf
  have hbl := h.lt.2.2 b (List.mem_of_getElem? hbx)
  have h0 := h.alloc (.cells Ent.zero.cells.toArray 42)
  have H := Lib.hid (held_some h0 hf hbx)
  have H0 := Lib.hid h0
  have Hn := Lib.hid (there_new w Ent.zero.cells 42 21 rfl)
  have hB0 : Below w.heap.size w (w.alloc (.cells Ent.zero.cells.toArray 42)) := (Below.refl _ w).alloc (Nat.le_refl _) _
  have hs0 : (w.alloc (.cells Ent.zero.cells.toArray 42)).heap.size = w.heap.size + 1 := by simp
  have HB0 := Lib.hid hB0; clear hB0
  have Hs0 := Lib.hid hs0; clear hs0
  have Hlt := Lib.hid h.lt
  clear h h0 hf
  have Hbx := Lib.hid hbx; clear hbx
  go_enter Try.func44, Try.ntmps44
  go_wp2_with fail
  refine H.out.mono ?_
  rintro e w1 ⟨rfl, hb⟩
  have hs1 : w.heap.size < w1.heap.size := by have := hb.size; rw [Hs0.out] at this; omega
  have h1 := H0.out.below hb (Nat.le_refl _)
  obtain ⟨s, hs, he, hr⟩ := h1.ent Hbx.out hjl
  have hg := hr.whole he
  have htb := hr.there0 he
  have ht := there_later Hn.out (hb.block w.heap.size (by rw [Hs0.out]; omega))
  have hB := HB0.out.trans (hb.mono (by rw [Hs0.out]; omega))
  have hbn : b < w1.heap.size := hr.lt
  -- behind the copy
  have hnew := there_new w1 Ent.zero.cells 42 21 rfl
  have hT3 : Tch (fun k => k = w1.heap.size) w1 ((w1.alloc (.cells Ent.zero.cells.toArray 42)).setCells w1.heap.size 0 (getE ss i j).cells) := Tch.setCells (C := fun k => k = w1.heap.size) (.inl rfl) _ _ ((Tch.refl _ w1).alloc _)
  have hl1 := h1.lt
  have h3 := h1.frame hT3 (by omega) (by omega) (fun b hb => by have := hl1.2.2 b hb; omega)
  have ht3 : ((w1.alloc (.cells Ent.zero.cells.toArray 42)).setCells w1.heap.size 0 (getE ss i j).cells).there b (j * 21) 21 := there_later htb (hT3.block b hbn (by omega))
  have hr3 := range_set (w := w1.alloc (.cells Ent.zero.cells.toArray 42)) (b := w1.heap.size) (o := 0) (getE ss i j).cells (by rw [Ent.len]; exact hnew)
  have h4 := h3.puts Hbx.out hs he (e' := Ent.zero) [(0, Ent.zero.cells)] (by simp [Ent.cells]) (Ent.over _ _)
  rw [wr_one] at h4
  have hr4 := range_other (b' := b) (o' := j * 21) hr3 (by omega) Ent.zero.cells
  have ht4 : (((w1.alloc (.cells Ent.zero.cells.toArray 42)).setCells w1.heap.size 0 (getE ss i j).cells).setCells b (j * 21) Ent.zero.cells).there w.heap.size 0 21 := there_setCells _ _ (there_later ht (hT3.block _ hs1 (by omega)))
  have hl4 := h4.lt
  have h5 := h4.frame (Tch.setCells (C := (· = w.heap.size)) (.inl rfl) (getE ss i j).cells 0 (Tch.refl _ _)) (by have := Hlt.out.1; omega) (by have := Hlt.out.2.1; omega) (fun b hb => by have := Hlt.out.2.2 b hb; omega)
  have hT5 : Tch (Turns p bs) w ((((w1.alloc (.cells Ent.zero.cells.toArray 42)).setCells w1.heap.size 0 (getE ss i j).cells).setCells b (j * 21) Ent.zero.cells).setCells w.heap.size 0 (getE ss i j).cells) :=
    Tch.setCells (.inr (Nat.le_refl _)) _ _ (Tch.setCells (.inl (.inr (List.mem_of_getElem? Hbx.out))) _ _ (Tch.setCells (.inr (by omega)) _ _ ((turns_of_below hB).alloc _)))
  have Hg := Lib.hid hg; clear hg
  have Hnew := Lib.hid hnew; clear hnew
  have Ht3 := Lib.hid ht3; clear ht3
  have Hr4 := Lib.hid hr4; clear hr4
  have Ht4 := Lib.hid ht4; clear ht4
  have H5 := Lib.hid h5; clear h5
  have HT5 := Lib.hid hT5; clear hT5
  clear hs he hr h1 hb htb ht hB hT3 hl1 h3 hr3 h4 hl4
  go_wp2_with (first | (refine wpList_load_mid rfl 42 (.tmp 20) rfl b (j * 21) rfl (getE ss i j).cells _ ?_ Try.underlying42 rfl Try.size42 ?_; exact Hg.out) | (refine wpList_store_mid rfl 42 (.tmp 8) (.tmp 21) rfl w1.heap.size 0 (getE ss i j).cells.toArray rfl rfl ?_ Try.size42 (oneEnt _) ?_; exact Hnew.out) | (refine wpList_store_mid rfl 42 (.tmp 24) (.tmp 23) rfl b (j * 21) Ent.zero.cells.toArray rfl rfl ?_ Try.size42 (oneEnt _) ?_; exact Ht3.out) | (refine wpList_load_mid rfl 42 (.tmp 8) rfl w1.heap.size 0 rfl (getE ss i j).cells _ ?_ Try.underlying42 rfl Try.size42 ?_; exact Hr4.out) | (refine wpList_store_mid rfl 42 (.tmp 4) (.tmp 25) rfl w.heap.size 0 (getE ss i j).cells.toArray rfl rfl ?_ Try.size42 (oneEnt _) ?_; exact Ht4.out))
  have hl := Try.load42 (getE ss i j) (range_set (b := w.heap.size) (o := 0) (getE ss i j).cells (by rw [Ent.len]; exact Ht4.out))
  exact bodyPost_ret (results_ct rfl rfl hl rfl) rfl ⟨rfl, H5.out, HT5.out⟩

set_option maxRecDepth 100000 in
set_option maxHeartbeats 1000000 in
theorem drop_bad {w : World} {q : Option Addr} {v : Int} (k : Int) (hv : v = 1 ∨ v = 20) (h : ∀ W, W = w.alloc (.cells Ent.zero.cells.toArray 42) → Calls Try.prog 69 #[.pointer q, .int .i64 k] W fun e w' => e = .returned (.tuple #[.pointer none, .int .i64 v]) ∧ Below W.heap.size W w') :
    Calls Try.prog 44 #[.pointer q, .int .i64 k] w fun e w' => e = .returned (.tuple #[.agg Ent.zero.cells.toArray, .int .i64 v]) ∧ Below w.heap.size w w' := by
  have H := Lib.hid (h _ rfl)
  have Hn := Lib.hid (there_new w Ent.zero.cells 42 21 rfl)
  have hB0 : Below w.heap.size w (w.alloc (.cells Ent.zero.cells.toArray 42)) := (Below.refl _ w).alloc (Nat.le_refl _) _
  have hs0 : (w.alloc (.cells Ent.zero.cells.toArray 42)).heap.size = w.heap.size + 1 := by simp
  have HB0 := Lib.hid hB0; clear hB0
  have Hs0 := Lib.hid hs0; clear hs0
  clear h
  rcases hv with rfl | rfl
  all_goals
    go_enter Try.func44, Try.ntmps44
    go_wp2_with fail
    refine H.out.mono ?_
    rintro e w1 ⟨rfl, hb⟩
    have ht := there_later Hn.out (hb.block w.heap.size (by rw [Hs0.out]; omega))
    have hB := HB0.out.trans (hb.mono (by rw [Hs0.out]; omega))
    have Ht := Lib.hid ht; clear ht
    have HB := Lib.hid hB; clear hB
    clear hb
    go_wp2_with (refine wpList_store_mid rfl 42 (.tmp 4) (.tmp 17) rfl w.heap.size 0 Ent.zero.cells.toArray rfl rfl ?_ Try.size42 (oneEnt _) ?_; exact Ht.out)
    have hl := Try.load42 Ent.zero (range_set (w := w1) (b := w.heap.size) (o := 0) Ent.zero.cells (by rw [Ent.len]; exact Ht.out))
    exact bodyPost_ret (results_ct rfl rfl hl rfl) rfl ⟨rfl, below_setCells (Nat.le_refl _) _ _ HB.out⟩

end Go.Proofs.Ytddajnpichchfaa
