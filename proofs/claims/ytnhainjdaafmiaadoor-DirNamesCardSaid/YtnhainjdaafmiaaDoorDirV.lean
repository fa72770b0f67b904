/- The directory: a message is taken; Hear. Conditions: those stated in each theorem. -/
import Derived.Test.YtnhainjdaafmiaaDoorDirU
namespace Go.Proofs.YtnhainjdaafmiaaDoor
open Go.RowKit Go.BigFrame

/-! ### Memory as a list of lines -/
def wordsD (d : L8) : List Int := [d.x0, d.x1, d.x2, d.x3, d.x4, d.x5, d.x6, d.x7]
def flatD (ds : List L8) : List Int := ds.flatMap wordsD
theorem wordsD_len (d : L8) : (wordsD d).length = 8 := rfl
theorem flatD_len (ds : List L8) : (flatD ds).length = ds.length * 8 := by
  induction ds with
  | nil => rfl
  | cons d r ih => rw [flatD, List.flatMap_cons, List.length_append, wordsD_len, List.length_cons]; unfold flatD at ih; omega
theorem flatD_get (ds : List L8) : ∀ (i k : Nat), k < 8 → (flatD ds).getD (i * 8 + k) 0 = (wordsD (ds.getD i L8.zero)).getD k 0 := by
  induction ds with
  | nil => intro i k hk; simp only [flatD, List.flatMap_nil, List.getD_nil]; have : ∀ k, k < 8 → (0 : Int) = (wordsD L8.zero).getD k 0 := by decide
           exact this k hk
  | cons d r ih =>
    intro i k hk
    cases i with
    | zero =>
      show (wordsD d ++ flatD r).getD (0 * 8 + k) 0 = (wordsD d).getD k 0
      rw [Nat.zero_mul, Nat.zero_add, List.getD_eq_getElem?_getD, List.getD_eq_getElem?_getD, List.getElem?_append_left (by rw [wordsD_len]; exact hk)]
    | succ i =>
      show (wordsD d ++ flatD r).getD ((i + 1) * 8 + k) 0 = (wordsD (r.getD i L8.zero)).getD k 0
      rw [← ih i k hk, List.getD_eq_getElem?_getD, List.getD_eq_getElem?_getD, List.getElem?_append_right (by rw [wordsD_len, Nat.add_mul]; omega), wordsD_len, show (i + 1) * 8 + k - 8 = i * 8 + k by rw [Nat.add_mul]; omega]
theorem lineD_flat (ds : List L8) (i : Nat) : lineD (flatD ds) i = ds.getD i L8.zero := by
  have h := fun k hk => flatD_get ds i k hk
  unfold lineD
  rw [show (flatD ds).getD (i * 8) 0 = _ from h 0 (by omega), h 1 (by omega), h 2 (by omega), h 3 (by omega), h 4 (by omega), h 5 (by omega), h 6 (by omega), h 7 (by omega)]
  rfl
theorem setLine_flat (x : L8) (ds : List L8) : ∀ i, i < ds.length → setLine (flatD ds) i x.x0 x.x1 x.x2 x.x3 x.x4 x.x5 x.x6 x.x7 = flatD (ds.set i x) := by
  induction ds with
  | nil => intro i hi; cases hi
  | cons d r ih =>
    intro i hi
    cases i with
    | zero => rfl
    | succ i =>
      have := ih i (by simpa using hi)
      simp only [flatD, List.flatMap_cons, List.set_cons_succ] at this ⊢
      rw [← this]
      unfold setLine
      have e0 : (i + 1) * 8 = i * 8 + 8 := by rw [Nat.add_mul]
      have s : ∀ (B : List Int) (k : Nat) (v : Int), (wordsD d ++ B).set (k + 8) v = wordsD d ++ B.set k v := fun B k v => by rw [List.set_append_right _ _ (by rw [wordsD_len]; omega), wordsD_len]; rfl
      simp only [e0, s]
theorem setL_flat (n : Nat) (ds : List L8) (i : Nat) (hn : ds.length = n) (hi : i < n) (x : L8) : setL n (flatD ds) i x = flatD (ds.set i x) := by
  unfold setL setLineS
  rw [if_pos ⟨by omega, by omega⟩, Int.toNat_natCast]
  exact setLine_flat x ds i (by omega)
theorem set_getD (ds : List L8) (i : Nat) : ds.set i (ds.getD i L8.zero) = ds := by
  apply List.ext_getElem?
  intro k
  by_cases h : k = i
  · subst h
    by_cases hk : k < ds.length
    · rw [List.getElem?_set_self hk, List.getD_eq_getElem?_getD, List.getElem?_eq_getElem hk]; rfl
    · rw [List.getElem?_eq_none (by rw [List.length_set]; omega), List.getElem?_eq_none (by omega)]
  · rw [List.getElem?_set_ne (Ne.symm h)]

section
variable {w w' : World} {lo p m b L o n : Nat} {ds : List L8} {l l' : LV} {wv v : Value} {ms : List MsgV}

set_option maxRecDepth 100000 in
set_option maxHeartbeats 1000000 in
theorem take_req1 (h : DK w lo p m b L o n (flatD ds) l wv) {i : Nat} (hw : LWf i l) (hi : i < n) (x : MsgV) (hl : x.line = i) (hx0 : 0 ≤ x.core) (hx4 : x.core < 4) (hk : x.kind = 1) :
    Calls Tryd.prog 29 #[.pointer (some ⟨p, 0, none⟩), .pointer (some ⟨L, o, none⟩), .agg x.cells.toArray] w fun e w' => ∃ v, e = .returned v ∧ DPost w lo p m b L o n wv (flatD (ds.set i (l.take (ds.getD i L8.zero) x).2.1)) (l.take (ds.getD i L8.zero) x).1 (l.take (ds.getD i L8.zero) x).2.2 v w' := by
  have HB := Lib.hid (mbox_new w x)
  have HW1 := h.below HB.out.below
  have b0 : (w.alloc (.cells x.cells.toArray 45)).cell? ⟨w.heap.size, 0, none⟩ = some (.int .i64 1) := by rw [HB.out.c0, hk]
  have HR := Lib.hid HB.out.row
  have HG := Lib.hid (request_any HW1 hw x ⟨.inl hk, hx0, hx4, hl⟩ hi _ (lineD_flat ds i))
  have e1 : l.take (ds.getD i L8.zero) x = ((l.request x (ds.getD i L8.zero)).1, (ds.getD i L8.zero), (l.request x (ds.getD i L8.zero)).2) := by
    unfold LV.take
    rw [if_pos (by rw [hk]; decide)]
  rw [e1]
  dsimp only
  rw [set_getD]
  have HO := Lib.hid (Only.of_below (C := fun _ => False) (L := L) (o := o) HB.out.below)
  clear h HW1 HB e1 hw hi hk hl hx0 hx4
  go_enter Tryd.func29, Tryd.ntmps29
  go_wp2_with (first | (refine wpList_load_mid rfl 45 (.tmp 5) rfl w.heap.size 0 rfl x.cells _ ?_ Tryd.underlying45 rfl Tryd.size52 ?_; exact HR.out) | fail)
  refine HG.out.mono ?_
  rintro e w' ⟨v, rfl, h5⟩
  have Hf := Lib.hid (h5.after HO.out); clear h5
  go_wp2
  go_ret
  exact ⟨v, rfl, Hf.out⟩

set_option maxRecDepth 100000 in
set_option maxHeartbeats 1000000 in
theorem take_req2 (h : DK w lo p m b L o n (flatD ds) l wv) {i : Nat} (hw : LWf i l) (hi : i < n) (x : MsgV) (hl : x.line = i) (hx0 : 0 ≤ x.core) (hx4 : x.core < 4) (hk : x.kind = 2) :
    Calls Tryd.prog 29 #[.pointer (some ⟨p, 0, none⟩), .pointer (some ⟨L, o, none⟩), .agg x.cells.toArray] w fun e w' => ∃ v, e = .returned v ∧ DPost w lo p m b L o n wv (flatD (ds.set i (l.take (ds.getD i L8.zero) x).2.1)) (l.take (ds.getD i L8.zero) x).1 (l.take (ds.getD i L8.zero) x).2.2 v w' := by
  have HB := Lib.hid (mbox_new w x)
  have HW1 := h.below HB.out.below
  have b0 : (w.alloc (.cells x.cells.toArray 45)).cell? ⟨w.heap.size, 0, none⟩ = some (.int .i64 2) := by rw [HB.out.c0, hk]
  have HR := Lib.hid HB.out.row
  have HG := Lib.hid (request_any HW1 hw x ⟨.inr hk, hx0, hx4, hl⟩ hi _ (lineD_flat ds i))
  have e1 : l.take (ds.getD i L8.zero) x = ((l.request x (ds.getD i L8.zero)).1, (ds.getD i L8.zero), (l.request x (ds.getD i L8.zero)).2) := by
    unfold LV.take
    rw [if_pos (by rw [hk]; decide)]
  rw [e1]
  dsimp only
  rw [set_getD]
  have HO := Lib.hid (Only.of_below (C := fun _ => False) (L := L) (o := o) HB.out.below)
  clear h HW1 HB e1 hw hi hk hl hx0 hx4
  go_enter Tryd.func29, Tryd.ntmps29
  go_wp2_with (first | (refine wpList_load_mid rfl 45 (.tmp 5) rfl w.heap.size 0 rfl x.cells _ ?_ Tryd.underlying45 rfl Tryd.size52 ?_; exact HR.out) | fail)
  refine HG.out.mono ?_
  rintro e w' ⟨v, rfl, h5⟩
  have Hf := Lib.hid (h5.after HO.out); clear h5
  go_wp2
  go_ret
  exact ⟨v, rfl, Hf.out⟩

set_option maxRecDepth 100000 in
set_option maxHeartbeats 1000000 in
theorem take_put (h : DK w lo p m b L o n (flatD ds) l wv) {i : Nat} (hw : LWf i l) (hn : ds.length = n) (hi : i < n) (x : MsgV) (hl : x.line = i) (hx0 : 0 ≤ x.core) (hx4 : x.core < 4) (hu : l.phase = 2 → ReqOk i l.under) (hk : x.kind = 3) :
    Calls Tryd.prog 29 #[.pointer (some ⟨p, 0, none⟩), .pointer (some ⟨L, o, none⟩), .agg x.cells.toArray] w fun e w' => ∃ v, e = .returned v ∧ DPost w lo p m b L o n wv (flatD (ds.set i (l.take (ds.getD i L8.zero) x).2.1)) (l.take (ds.getD i L8.zero) x).1 (l.take (ds.getD i L8.zero) x).2.2 v w' := by
  have HB := Lib.hid (mbox_new w x)
  have HW1 := h.below HB.out.below
  have b0 : (w.alloc (.cells x.cells.toArray 45)).cell? ⟨w.heap.size, 0, none⟩ = some (.int .i64 3) := by rw [HB.out.c0, hk]
  have HR := Lib.hid HB.out.row
  have hsf := setL_flat n ds i hn hi x.data
  have hd : lineD (setL n (flatD ds) x.line x.data) i = x.data := by
    rw [hl, hsf, lineD_flat, List.getD_eq_getElem?_getD, List.getElem?_set_self (by omega)]; rfl
  have HG := Lib.hid (put_any HW1 hw hu hi x hx0 hx4 hd)
  have e1 : l.take (ds.getD i L8.zero) x = ((l.put x).1, x.data, (l.put x).2) := by
    unfold LV.take
    rw [if_neg (by rw [hk]; decide), if_pos hk]
  rw [e1]
  dsimp only
  rw [hl, hsf] at HG
  have HO := Lib.hid (Only.of_below (C := fun _ => False) (L := L) (o := o) HB.out.below)
  clear h HW1 HB e1 hw hi hk hn hl hx0 hx4 hu hd hsf
  go_enter Tryd.func29, Tryd.ntmps29
  go_wp2_with (first | (refine wpList_load_mid rfl 45 (.tmp 5) rfl w.heap.size 0 rfl x.cells _ ?_ Tryd.underlying45 rfl Tryd.size52 ?_; exact HR.out) | fail)
  refine HG.out.mono ?_
  rintro e w' ⟨v, rfl, h5⟩
  have Hf := Lib.hid (h5.after HO.out); clear h5
  go_wp2
  go_ret
  exact ⟨v, rfl, Hf.out⟩

set_option maxRecDepth 100000 in
set_option maxHeartbeats 1000000 in
theorem take_invAck (h : DK w lo p m b L o n (flatD ds) l wv) {i : Nat} (hw : LWf i l) (hi : i < n) (x : MsgV) (hx0 : 0 ≤ x.core) (hx4 : x.core < 4) (hu : ReqOk i l.under) (hk : x.kind = 4) :
    Calls Tryd.prog 29 #[.pointer (some ⟨p, 0, none⟩), .pointer (some ⟨L, o, none⟩), .agg x.cells.toArray] w fun e w' => ∃ v, e = .returned v ∧ DPost w lo p m b L o n wv (flatD (ds.set i (l.take (ds.getD i L8.zero) x).2.1)) (l.take (ds.getD i L8.zero) x).1 (l.take (ds.getD i L8.zero) x).2.2 v w' := by
  have HB := Lib.hid (mbox_new w x)
  have HW1 := h.below HB.out.below
  have b0 : (w.alloc (.cells x.cells.toArray 45)).cell? ⟨w.heap.size, 0, none⟩ = some (.int .i64 4) := by rw [HB.out.c0, hk]
  have HR := Lib.hid HB.out.row
  obtain ⟨c, hc⟩ : ∃ c : Nat, x.core = c := ⟨x.core.toNat, by omega⟩
  have hc4 : c < 4 := by omega
  have b1 : (w.alloc (.cells x.cells.toArray 45)).cell? ⟨w.heap.size, 1, none⟩ = some (.int .i64 c) := by rw [HB.out.c1, hc]
  have HG := Lib.hid (invAck_any HW1 hw hu hi _ (lineD_flat ds i) c hc4)
  have e1 : l.take (ds.getD i L8.zero) x = ((l.invAck c (ds.getD i L8.zero)).1, (ds.getD i L8.zero), (l.invAck c (ds.getD i L8.zero)).2) := by
    unfold LV.take
    rw [if_neg (by rw [hk]; decide), if_neg (by rw [hk]; decide), if_pos hk]; rw [hc, Int.toNat_natCast]
  rw [e1]
  dsimp only
  rw [set_getD]
  have HO := Lib.hid (Only.of_below (C := fun _ => False) (L := L) (o := o) HB.out.below)
  clear h HW1 HB e1 hw hi hk hx0 hx4 hu hc
  go_enter Tryd.func29, Tryd.ntmps29
  go_wp2_with (first | (refine wpList_load_mid rfl 45 (.tmp 5) rfl w.heap.size 0 rfl x.cells _ ?_ Tryd.underlying45 rfl Tryd.size52 ?_; exact HR.out) | fail)
  refine HG.out.mono ?_
  rintro e w' ⟨v, rfl, h5⟩
  have Hf := Lib.hid (h5.after HO.out); clear h5
  go_wp2
  go_ret
  exact ⟨v, rfl, Hf.out⟩

set_option maxRecDepth 100000 in
set_option maxHeartbeats 1000000 in
theorem take_recallAck (h : DK w lo p m b L o n (flatD ds) l wv) {i : Nat} (hw : LWf i l) (hn : ds.length = n) (hi : i < n) (x : MsgV) (hl : x.line = i) (hx0 : 0 ≤ x.core) (hx4 : x.core < 4) (hu : ReqOk i l.under) (hk : x.kind = 5) :
    Calls Tryd.prog 29 #[.pointer (some ⟨p, 0, none⟩), .pointer (some ⟨L, o, none⟩), .agg x.cells.toArray] w fun e w' => ∃ v, e = .returned v ∧ DPost w lo p m b L o n wv (flatD (ds.set i (l.take (ds.getD i L8.zero) x).2.1)) (l.take (ds.getD i L8.zero) x).1 (l.take (ds.getD i L8.zero) x).2.2 v w' := by
  have HB := Lib.hid (mbox_new w x)
  have HW1 := h.below HB.out.below
  have b0 : (w.alloc (.cells x.cells.toArray 45)).cell? ⟨w.heap.size, 0, none⟩ = some (.int .i64 5) := by rw [HB.out.c0, hk]
  have HR := Lib.hid HB.out.row
  have hsf := setL_flat n ds i hn hi x.data
  have hd : lineD (setL n (flatD ds) x.line x.data) i = x.data := by
    rw [hl, hsf, lineD_flat, List.getD_eq_getElem?_getD, List.getElem?_set_self (by omega)]; rfl
  have HG := Lib.hid (recallAck_any HW1 hw hu hi x hx0 hx4 hd)
  have e1 : l.take (ds.getD i L8.zero) x = ((l.recallAck x).1, x.data, (l.recallAck x).2) := by
    unfold LV.take
    rw [if_neg (by rw [hk]; decide), if_neg (by rw [hk]; decide), if_neg (by rw [hk]; decide), if_pos hk]
  rw [e1]
  dsimp only
  rw [hl, hsf] at HG
  have HO := Lib.hid (Only.of_below (C := fun _ => False) (L := L) (o := o) HB.out.below)
  clear h HW1 HB e1 hw hi hk hn hl hx0 hx4 hu hd hsf
  go_enter Tryd.func29, Tryd.ntmps29
  go_wp2_with (first | (refine wpList_load_mid rfl 45 (.tmp 5) rfl w.heap.size 0 rfl x.cells _ ?_ Tryd.underlying45 rfl Tryd.size52 ?_; exact HR.out) | fail)
  refine HG.out.mono ?_
  rintro e w' ⟨v, rfl, h5⟩
  have Hf := Lib.hid (h5.after HO.out); clear h5
  go_wp2
  go_ret
  exact ⟨v, rfl, Hf.out⟩

set_option maxRecDepth 100000 in
set_option maxHeartbeats 1000000 in
theorem take_recallNone (h : DK w lo p m b L o n (flatD ds) l wv) {i : Nat} (hw : LWf i l) (hi : i < n) (x : MsgV) (hu : ReqOk i l.under) (hk : x.kind = 6) :
    Calls Tryd.prog 29 #[.pointer (some ⟨p, 0, none⟩), .pointer (some ⟨L, o, none⟩), .agg x.cells.toArray] w fun e w' => ∃ v, e = .returned v ∧ DPost w lo p m b L o n wv (flatD (ds.set i (l.take (ds.getD i L8.zero) x).2.1)) (l.take (ds.getD i L8.zero) x).1 (l.take (ds.getD i L8.zero) x).2.2 v w' := by
  have HB := Lib.hid (mbox_new w x)
  have HW1 := h.below HB.out.below
  have b0 : (w.alloc (.cells x.cells.toArray 45)).cell? ⟨w.heap.size, 0, none⟩ = some (.int .i64 6) := by rw [HB.out.c0, hk]
  have HR := Lib.hid HB.out.row
  have HG := Lib.hid (recallNone_any HW1 hw hu hi _ (lineD_flat ds i))
  have e1 : l.take (ds.getD i L8.zero) x = ((l.recallNone (ds.getD i L8.zero)).1, (ds.getD i L8.zero), (l.recallNone (ds.getD i L8.zero)).2) := by
    unfold LV.take
    rw [if_neg (by rw [hk]; decide), if_neg (by rw [hk]; decide), if_neg (by rw [hk]; decide), if_neg (by rw [hk]; decide), if_pos hk]
  rw [e1]
  dsimp only
  rw [set_getD]
  have HO := Lib.hid (Only.of_below (C := fun _ => False) (L := L) (o := o) HB.out.below)
  clear h HW1 HB e1 hw hi hk hu
  go_enter Tryd.func29, Tryd.ntmps29
  go_wp2_with (first | (refine wpList_load_mid rfl 45 (.tmp 5) rfl w.heap.size 0 rfl x.cells _ ?_ Tryd.underlying45 rfl Tryd.size52 ?_; exact HR.out) | fail)
  refine HG.out.mono ?_
  rintro e w' ⟨v, rfl, h5⟩
  have Hf := Lib.hid (h5.after HO.out); clear h5
  go_wp2
  go_ret
  exact ⟨v, rfl, Hf.out⟩

set_option maxRecDepth 100000 in
set_option maxHeartbeats 1000000 in
theorem take_unblock (h : DK w lo p m b L o n (flatD ds) l wv) {i : Nat} (hw : LWf i l) (hi : i < n) (x : MsgV) (hk : x.kind = 7) :
    Calls Tryd.prog 29 #[.pointer (some ⟨p, 0, none⟩), .pointer (some ⟨L, o, none⟩), .agg x.cells.toArray] w fun e w' => ∃ v, e = .returned v ∧ DPost w lo p m b L o n wv (flatD (ds.set i (l.take (ds.getD i L8.zero) x).2.1)) (l.take (ds.getD i L8.zero) x).1 (l.take (ds.getD i L8.zero) x).2.2 v w' := by
  have HB := Lib.hid (mbox_new w x)
  have HW1 := h.below HB.out.below
  have b0 : (w.alloc (.cells x.cells.toArray 45)).cell? ⟨w.heap.size, 0, none⟩ = some (.int .i64 7) := by rw [HB.out.c0, hk]
  have HR := Lib.hid HB.out.row
  have HG := Lib.hid (unblock_any HW1 hw hi _ (lineD_flat ds i))
  have e1 : l.take (ds.getD i L8.zero) x = ((l.unblock (ds.getD i L8.zero)).1, (ds.getD i L8.zero), (l.unblock (ds.getD i L8.zero)).2) := by
    unfold LV.take
    rw [if_neg (by rw [hk]; decide), if_neg (by rw [hk]; decide), if_neg (by rw [hk]; decide), if_neg (by rw [hk]; decide), if_neg (by rw [hk]; decide)]
  rw [e1]
  dsimp only
  rw [set_getD]
  have HO := Lib.hid (Only.of_below (C := fun _ => False) (L := L) (o := o) HB.out.below)
  clear h HW1 HB e1 hw hi hk
  go_enter Tryd.func29, Tryd.ntmps29
  go_wp2_with (first | (refine wpList_load_mid rfl 45 (.tmp 5) rfl w.heap.size 0 rfl x.cells _ ?_ Tryd.underlying45 rfl Tryd.size52 ?_; exact HR.out) | fail)
  refine HG.out.mono ?_
  rintro e w' ⟨v, rfl, h5⟩
  have Hf := Lib.hid (h5.after HO.out); clear h5
  go_wp2
  go_ret
  exact ⟨v, rfl, Hf.out⟩

theorem take_any (h : DK w lo p m b L o n (flatD ds) l wv) {i : Nat} (hw : LWf i l) (hn : ds.length = n) (hi : i < n) (x : MsgV) (hl : x.line = i) (hx0 : 0 ≤ x.core) (hx4 : x.core < 4) (hr : l.refuses x = false) :
    Calls Tryd.prog 29 #[.pointer (some ⟨p, 0, none⟩), .pointer (some ⟨L, o, none⟩), .agg x.cells.toArray] w fun e w' => ∃ v, e = .returned v ∧ DPost w lo p m b L o n wv (flatD (ds.set i (l.take (ds.getD i L8.zero) x).2.1)) (l.take (ds.getD i L8.zero) x).1 (l.take (ds.getD i L8.zero) x).2.2 v w' := by
  have hr' := hr
  unfold LV.refuses refusesL at hr
  split at hr
  next hk =>
    rcases hk with hk | hk
    · exact take_req1 h hw hi x hl hx0 hx4 hk
    · exact take_req2 h hw hi x hl hx0 hx4 hk
  split at hr
  next hk => exact take_put h hw hn hi x hl hx0 hx4 (fun hp => hw.under (by omega)) hk
  split at hr
  next hk =>
    have hp : l.phase = 3 := by simp only [Bool.or_eq_false_iff, bne_eq_false_iff_eq] at hr; exact hr.1
    exact take_invAck h hw hi x hx0 hx4 (hw.under (by omega)) hk
  split at hr
  next hk =>
    have hp : l.phase = 1 := by simp only [Bool.or_eq_false_iff, bne_eq_false_iff_eq] at hr; exact hr.1
    exact take_recallAck h hw hn hi x hl hx0 hx4 (hw.under (by omega)) hk
  split at hr
  next hk =>
    have hp : l.phase = 1 := by simp only [Bool.or_eq_false_iff, bne_eq_false_iff_eq] at hr; exact hr.1
    exact take_recallNone h hw hi x (hw.under (by omega)) hk
  split at hr
  next hk => exact take_unblock h hw hi x hk
  · cases hr
end

end Go.Proofs.YtnhainjdaafmiaaDoor
