/- What is found in a program: the list; Look. Conditions: those stated in each theorem. -/
import Derived.Test.YteijhcibdglkeaaGreatDoorLntG
import Derived.Laws.AppendOwnNone
namespace Go.Proofs.YteijhcibdglkeaaGreatDoor
open Go.RowKit Go.BigFrame Go.Shelf

theorem Tryz.infoFinds : (Tryz.prog.info? 86).map (fun i => (i.zero, i.size, i.bytes)) = some (some (.agg #[.bool false, .bool false, .bool false, .bool false, .bool false, .bool false, .bool false, .bool false, .bool false]), 9, 9) := by kernel_rfl
theorem Tryz.infoFound : (Tryz.prog.info? 25).map (fun i => (i.zero, i.size, i.bytes)) = some (some (.agg #[.int .i64 0, .int .i64 0]), 2, 16) := by kernel_rfl
def flatF (L : List (Nat × Nat)) : List Value := L.flatMap fun s => [.int .i64 (s.1 : Nat), .int .i64 (s.2 : Nat)]
theorem flatF_snoc (L : List (Nat × Nat)) (s : Nat × Nat) : flatF (L ++ [s]) = flatF L ++ [.int .i64 (s.1 : Nat), .int .i64 (s.2 : Nat)] := by simp [flatF]
theorem ninC_len (g : Nat → Bool) : (ninC g).length = 9 := rfl
theorem ninC_get (g : Nat → Bool) {k : Nat} (hk : k < 9) : (ninC g)[k]? = some (.bool (g k)) := by
  match k, hk with
  | 0, _ | 1, _ | 2, _ | 3, _ | 4, _ | 5, _ | 6, _ | 7, _ | 8, _ => rfl
theorem ninC_one (g : Nat → Bool) : ∀ v ∈ ninC g, v.oneCell' = true := by simp [ninC, Value.oneCell']
theorem store_nin (g : Nat → Bool) (b o : Nat) (W : World) (h : W.there b o 9) : (storeCells ⟨b, o, none⟩ (ninC g)).run Tryz.prog W = .ok () (W.setCells b o (ninC g)) := by
  have := run_storeCells_cells (P := Tryz.prog) b o (ninC g) 0 W (fun j hj => by rw [Nat.add_zero]; exact (h j hj).1) (fun j hj => by rw [Nat.add_zero]; exact (h j hj).2) (fun v hv => ninC_one g v hv)
  simpa using this
theorem new_block_at {V : World} {o : Obj} {N : Nat} (h : V.heap.size = N) : (V.alloc o).heap[N]? = some o := by subst h; exact new_block V o
theorem there_of_cells {w : World} {b o n : Nat} {cs : Array Value} {t : TypeId} (h : w.heap[b]? = some (.cells cs t (0, 0))) (hn : o + n ≤ cs.size) : w.there b o n := by
  have h' : Holds w b t cs.toList := by unfold Holds; simpa using h
  exact h'.there (by simpa using hn)
theorem owns_there {w : World} {lo g n m : Nat} {e : TypeId} {size : Nat} {xs : List Value} (h : w.ownsRow lo e size (.slice (some ⟨g, 0, none⟩) n m) n xs) : w.there g 0 (n * size) := by
  rcases h.2 with ⟨h0, _⟩ | ⟨g', cap, cur, h0, h1, h2, h3, h4, h5, h6⟩
  · cases h0
  · cases h0
    exact there_of_cells h2 (by rw [Nat.zero_add, h5]; exact Nat.mul_le_mul_right _ h3)
theorem there_same {w w' : World} {b o n : Nat} (h : w.there b o n) (hb : w'.heap[b]? = w.heap[b]?) : w'.there b o n := fun j hj =>
  ⟨by rw [World.cell?_of_block (a := ⟨b, o + j, none⟩) hb]; exact (h j hj).1, by
    have := (h j hj).2
    unfold World.frozen? at this ⊢
    rw [hb]; exact this⟩
theorem there_lt {w : World} {b o n : Nat} (h : w.there b o n) (hn : 0 < n) : b < w.heap.size := by
  obtain ⟨v, hv⟩ := Option.isSome_iff_exists.1 (h 0 hn).1
  exact World.block_lt_of_cell? _ _ hv

/-- All places' rows, as far as they are written. -/
structure FuS (W : World) (N n : Nat) (F : Nat → Nat → Bool) (j : Nat) (V : World) : Prop where
  below : Below N W V
  rows : ∀ p, p < j → V.rangeAt N (p * 9) (ninC (F p))
  there : V.there N 0 (n * 9)
theorem FuS.next {W V V' : World} {N n j : Nat} {F : Nat → Nat → Bool} (h : FuS W N n F j V) (hN : W.heap.size = N) (hlt : N < V.heap.size) (k : Below V.heap.size V V') : FuS W N n F j V' :=
  ⟨h.below.trans (k.mono (by rw [← hN]; exact h.below.size)), fun p hp => rangeAt_same (h.rows p hp) (k.block N hlt), there_same h.there (k.block N hlt)⟩
theorem FuS.put {W V : World} {N n j : Nat} {F : Nat → Nat → Bool} (h : FuS W N n F j V) (hj : j < n) : FuS W N n F (j + 1) (V.setCells N (j * 9) (ninC (F j))) :=
  ⟨below_cells (Nat.le_refl _) _ _ _ h.below, fun p hp => by
    by_cases e : p = j
    · subst e
      exact World.rangeAt_setCells_same _ _ _ _ (fun k hk => by
        have := h.there (p * 9 + k) (by rw [ninC_len] at hk; have : p * 9 + 9 ≤ n * 9 := by rw [← Nat.succ_mul]; exact Nat.mul_le_mul_right _ hj
                                        omega)
        rw [Nat.zero_add] at this; exact this)
    · exact World.rangeAt_setCells_apart (h.rows p (by omega)) _ _ _ (.inr (.inl (by rw [ninC_len]; rw [← Nat.succ_mul]; exact Nat.mul_le_mul_right _ (by omega)))),
    World.there_setCells h.there _ _ _⟩
theorem FuS.at_ {W V : World} {N n j : Nat} {F : Nat → Nat → Bool} (h : FuS W N n F j V) {p : Nat} (hp : p < n) : V.there N (p * 9) 9 := fun k hk => by
  have := h.there (p * 9 + k) (by have : p * 9 + 9 ≤ n * 9 := by rw [← Nat.succ_mul]; exact Nat.mul_le_mul_right _ hp
                                  omega)
  rw [Nat.zero_add] at this; exact this
/-- The list, as far as it is gathered. -/
structure FvS (W : World) (N n : Nat) (F : Nat → Nat → Bool) (L : List (Nat × Nat)) (v : Value) (V : World) : Prop where
  fu : FuS W N n F n V
  own : V.ownsRow (N + 1) 25 2 v L.length (flatF L)
  lt : N < V.heap.size
theorem FvS.next {W V V' : World} {N n : Nat} {F : Nat → Nat → Bool} {L : List (Nat × Nat)} {v : Value} (h : FvS W N n F L v V) (hN : W.heap.size = N) (k : Below V.heap.size V V') : FvS W N n F L v V' :=
  ⟨h.fu.next hN h.lt k, h.own.kept (grown_below k) (by
    by_cases e : v.ownBlock = none
    · exact .inl e
    · exact .inr e), Nat.lt_of_lt_of_le h.lt k.size⟩

def rowTo (c : List In) (f : MV) (k j : Nat) : List (Nat × Nat) := ((List.range j).filter (findB c f k)).map fun p => (k, p)
def lookTo (c : List In) (f : MV) (k : Nat) : List (Nat × Nat) := (List.range k).flatMap (rowB c f)
theorem rowTo_succ (c : List In) (f : MV) (k j : Nat) : rowTo c f k (j + 1) = rowTo c f k j ++ if findB c f k j then [(k, j)] else [] := by
  unfold rowTo
  rw [List.range_succ, List.filter_append, List.map_append]
  congr 1
  rw [List.filter_cons, List.filter_nil]
  split <;> rfl
theorem lookTo_succ (c : List In) (f : MV) (k : Nat) : lookTo c f (k + 1) = lookTo c f k ++ rowTo c f k c.length := by
  unfold lookTo
  rw [List.range_succ, List.flatMap_append, List.flatMap_cons, List.flatMap_nil, List.append_nil]
  rfl
theorem rowTo_len (c : List In) (f : MV) (k j : Nat) : (rowTo c f k j).length ≤ j := by
  unfold rowTo
  rw [List.length_map]
  have := List.length_filter_le (findB c f k) (List.range j)
  rw [List.length_range] at this; exact this
theorem lookTo_len (c : List In) (f : MV) : ∀ k, (lookTo c f k).length ≤ k * c.length
  | 0 => by simp [lookTo]
  | k + 1 => by
    have h1 := lookTo_len c f k
    have h2 := rowTo_len c f k c.length
    rw [lookTo_succ, List.length_append, Nat.succ_mul]; omega

set_option maxRecDepth 100000 in
set_option maxHeartbeats 4000000 in
theorem found_any (a : Option Addr) (cap : Nat) (c : List In) (mb n : Nat) (f : MV) (w : World) (N : Nat) (hN : w.heap.size = N) (hn : c.length ≤ 1024) (hF : FormsAt w) (hr : RowsIn w a 5 In.cells c) (hm : RgAt w mb n f) (hlt : ∀ s m, f s = some m → m < 256) :
    Calls Tryz.prog 22 #[.slice a c.length cap, .map (some mb)] w fun e w' => ∃ v, e = .returned v ∧ w'.ownsRow N 25 2 v (lookB c f).length (flatF (lookB c f)) ∧ Below N w w' := by
  obtain ⟨i0, hj0, hj1, hj2, hj3⟩ := info_parts Tryz.infoFinds
  have HI := Lib.hid (And.intro hj0 (And.intro hj1 (And.intro hj2 hj3))); clear hj0 hj1 hj2 hj3
  obtain ⟨i1, hk0, hk1, hk2, hk3⟩ := info_parts Tryz.infoFound
  have HI1 := Lib.hid (And.intro hk0 (And.intro hk1 (And.intro hk2 hk3))); clear hk0 hk1 hk2 hk3
  have H := Lib.hid (And.intro hF (And.intro hr (And.intro hm (And.intro hlt hn)))); clear hF hr hm hlt hn
  have HN := Lib.hid hN
  go_enter Tryz.func22, Tryz.ntmps22
  go_upto_region 2 with (at_make; refine wpList_make_full _ rfl _ _ 84 rfl w.heap.size 86 i0 _ 9 Tryz.underlying84 HI.out.1 HI.out.2.1 HI.out.2.2.1 .i64 .i64 c.length c.length c.length rfl rfl rfl rfl (by rw [HI.out.2.2.2]; have := H.out.2.2.2.2; omega) (by unfold maxLen; have := H.out.2.2.2.2; omega) (Nat.le_refl _) ?_; intro w2 ho2 hg2; have Ho2 := Lib.hid ho2; have Hb2 := Lib.hid ((Below.refl w.heap.size w).grown hg2 (Nat.le_refl _) (fun g e => by cases e)); clear ho2 hg2)
  have hglt := (owns_lt Ho2.out (g := w.heap.size) rfl).2
  have hfu0 : FuS w N c.length (fun p k => findB c f k p) 0 w2 := ⟨by rw [← HN.out]; exact Hb2.out, fun p hp => by omega, by rw [← HN.out]; exact owns_there Ho2.out⟩
  rw [hN] at hglt
  have Hfu0 := Lib.hid (And.intro hfu0 hglt); clear hfu0 hglt Ho2 Hb2
  go_wp2_with fail
  go_loopg [16] (c.length + 1) (fun gg s16 wr => ∃ j : Nat, j ≤ c.length ∧ c.length + 1 - j ≤ gg ∧ s16 = .int .i64 j ∧ FuS w N c.length (fun p k => findB c f k p) j wr ∧ N < wr.heap.size)
  case atStart => exact ⟨0, by omega, by omega, rfl, Hfu0.out⟩
  case round =>
    obtain ⟨j, hj, hgg, rfl, hst, hlt⟩ := hrel
    clear Hfu0
    by_cases hjn : j < c.length
    · obtain ⟨i, hi⟩ : ∃ i, c[j]? = some i := ⟨_, List.getElem?_eq_getElem hjn⟩
      have hji : (0 : Int) ≤ j ∧ (j : Int) < c.length := by omega
      have hkk : IntKind.i64.wrap ((j : Int) + 1) = (j : Int) + 1 := by rw [IntKind.wrap_i64]; have := H.out.2.2.2.2; omega
      have hbw : Below w.heap.size w wr := by rw [hN]; exact hst.below
      have HC := Lib.hid (findsOf_any a cap c j mb n i f wr wr.heap.size rfl H.out.2.2.2.2 (H.out.1.below hbw) (H.out.2.1.below hbw) hi (H.out.2.2.1.below hbw) H.out.2.2.2.1)
      have hfb : (fun k => findP c.length k i f j) = fun k => findB c f k j := by funext k; exact (findB_at hi k).symm
      rw [hfb] at HC
      have Hst := Lib.hid (And.intro hst (And.intro hlt (And.intro hjn (And.intro hj hgg)))); clear hst hlt hjn hj hgg hfb hi hbw
      go_wp2_with fail
      refine HC.out.mono ?_
      rintro e w3 ⟨rfl, hb3⟩
      have hst3 := Hst.out.1.next hN Hst.out.2.1 hb3
      have hth3 := hst3.at_ Hst.out.2.2.1
      have hone := ninC_one (fun k => findB c f k j)
      have hput := hst3.put Hst.out.2.2.1
      have hlt3 : N < w3.heap.size := Nat.lt_of_lt_of_le Hst.out.2.1 hb3.size
      have Hp := Lib.hid (And.intro hput hlt3); clear hput hlt3 hst3 hb3 HC
      have Hth := Lib.hid hth3; clear hth3
      have Hone := Lib.hid hone; clear hone
      have hsc := store_nin (fun k => findB c f k j) N (j * 9) w3 Hth.out
      go_wp2_with fail
      go_roundg (c.length - j)
      case rel => exact ⟨j + 1, by have := Hst.out.2.2.1; omega, by have := Hst.out.2.2.1; omega, by simp, Hp.out.1, by
        have h := Hp.out.2
        have h2 := (Hp.out.1.there)
        exact Nat.lt_of_lt_of_le h (Tch.setCells (C := fun b => b = N) (.inl rfl) _ _ (Tch.refl _ w3)).size⟩
      case measure => have := Hst.out.2.2; omega
    · obtain rfl : j = c.length := by omega
      have hfv0 : FvS w N c.length (fun p k => findB c f k p) [] (.slice none 0 0) wr := ⟨hst, World.ownsRow_nil _ _ _ _, hlt⟩
      have Hfv := Lib.hid hfv0; clear hfv0 hst hlt hjn hj hgg
      obtain ⟨wk, hwk⟩ : ∃ x, x = wr := ⟨_, rfl⟩
      subst hwk
      go_wp2_with fail
      go_loopg [7, 27] 10 (fun g2 s7 s27 wq => ∃ (q : Nat) (v : Value), q ≤ 9 ∧ 10 - q ≤ g2 ∧ s7 = v ∧ s27 = .int .i64 q ∧ FvS w N c.length (fun p k => findB c f k p) (lookTo c f q) v wq)
      case atStart => exact ⟨0, _, by omega, by omega, rfl, rfl, Hfv.out⟩
      case round =>
        obtain ⟨q, v, hq, hg2, hv, rfl, hfv⟩ := hrel
        have hv := hv.symm
        subst hv
        clear Hfv
        by_cases hq9 : q = 9
        · subst hq9
          have hlk : lookTo c f 9 = lookB c f := rfl
          rw [hlk] at hfv
          have Hfv := Lib.hid hfv; clear hfv hq hg2 hlk
          go_wp2_with fail
          go_ret
          exact ⟨_, rfl, owns_mono Hfv.out.own (fun g e => by have := (owns_lt Hfv.out.own e).1; omega), Hfv.out.fu.below⟩
        · have hq1 : q < 9 := by omega
          have hqi : (0 : Int) ≤ q ∧ (q : Int) < 9 := by omega
          have hqk : IntKind.i64.wrap ((q : Int) + 1) = (q : Int) + 1 := by rw [IntKind.wrap_i64]; omega
          have hfv' : FvS w N c.length (fun p k => findB c f k p) (lookTo c f q ++ rowTo c f q 0) v wr := by
            have : lookTo c f q ++ rowTo c f q 0 = lookTo c f q := by simp [rowTo]
            rw [this]; exact hfv
          have Hfv := Lib.hid hfv'; clear hfv hfv'
          have Hq := Lib.hid (And.intro hq1 hg2); clear hq hq9 hq1 hg2
          obtain ⟨wj, hwj⟩ : ∃ x, x = wr := ⟨_, rfl⟩
          subst hwj
          go_wp2_with fail
          go_loopg [7, 32] (c.length + 1) (fun g3 s7 s32 wp => ∃ (p : Nat) (v : Value), p ≤ c.length ∧ c.length + 1 - p ≤ g3 ∧ s7 = v ∧ s32 = .int .i64 p ∧ FvS w N c.length (fun p k => findB c f k p) (lookTo c f q ++ rowTo c f q p) v wp)
          case atStart => exact ⟨0, _, by omega, by omega, rfl, rfl, Hfv.out⟩
          case round =>
            obtain ⟨p, v, hp, hg3, hv, rfl, hfv⟩ := hrel
            have hv := hv.symm
            subst hv
            clear Hfv
            by_cases hpn : p < c.length
            · have hpi : (0 : Int) ≤ p ∧ (p : Int) < c.length := by omega
              have hpk : IntKind.i64.wrap ((p : Int) + 1) = (p : Int) + 1 := by rw [IntKind.wrap_i64]; have := H.out.2.2.2.2; omega
              have hrow := hfv.fu.rows p hpn
              have c0 : wr.cell? ⟨N, p * 9, none⟩ = some (.bool (findB c f 0 p)) := hrow 0 _ rfl
              have c1 : wr.cell? ⟨N, p * 9 + 1, none⟩ = some (.bool (findB c f 1 p)) := hrow 1 _ rfl
              have c2 : wr.cell? ⟨N, p * 9 + 2, none⟩ = some (.bool (findB c f 2 p)) := hrow 2 _ rfl
              have c3 : wr.cell? ⟨N, p * 9 + 3, none⟩ = some (.bool (findB c f 3 p)) := hrow 3 _ rfl
              have c4 : wr.cell? ⟨N, p * 9 + 4, none⟩ = some (.bool (findB c f 4 p)) := hrow 4 _ rfl
              have c5 : wr.cell? ⟨N, p * 9 + 5, none⟩ = some (.bool (findB c f 5 p)) := hrow 5 _ rfl
              have c6 : wr.cell? ⟨N, p * 9 + 6, none⟩ = some (.bool (findB c f 6 p)) := hrow 6 _ rfl
              have c7 : wr.cell? ⟨N, p * 9 + 7, none⟩ = some (.bool (findB c f 7 p)) := hrow 7 _ rfl
              have c8 : wr.cell? ⟨N, p * 9 + 8, none⟩ = some (.bool (findB c f 8 p)) := hrow 8 _ rfl
              have hb1 : Below wr.heap.size wr (wr.alloc (.cells (ninC fun k => findB c f k p).toArray 86)) := (Below.refl _ wr).alloc (Nat.le_refl _) _
              have hnew : (wr.alloc (.cells (ninC fun k => findB c f k p).toArray 86)).cell? ⟨wr.heap.size, q, none⟩ = some (.bool (findB c f q p)) := (Holds.new wr 86 (ninC fun k => findB c f k p)).cell (ninC_get _ Hq.out.1)
              have hfv1 := hfv.next hN hb1
              unfold ninC at hnew hfv1
              simp only at hnew hfv1
              have hlen := lookTo_len c f q
              have hlen2 := rowTo_len c f q p
              have hrs := rowTo_succ c f q p
              have Hrow := Lib.hid (And.intro hfv1 (And.intro hlen (And.intro hlen2 (And.intro hrs (And.intro hpn hg3))))); clear hfv1 hlen hlen2 hrs hpn hg3 hrow hb1 hp hfv
              cases hb : findB c f q p with
              | false =>
                rw [hb] at hnew Hrow
                have Hb := Lib.hid hb; clear hb
                go_wp2_with fail
                go_roundg (c.length - p)
                case rel => exact ⟨p + 1, _, by have := Hrow.out.2.2.2.2.1; omega, by have := Hrow.out.2.2.2.2.1; omega, rfl, by simp, by rw [Hrow.out.2.2.2.1]; simp only [Bool.false_eq_true, if_false, List.append_nil]; exact Hrow.out.1⟩
                case measure => have := Hrow.out.2.2.2.2; omega
              | true =>
                rw [hb] at hnew Hrow
                have Hb := Lib.hid hb; clear hb
                have hrow1 := Hrow.out.1.own
                have hle : (lookTo c f q ++ rowTo c f q p).length ≤ 20000 := by
                  have h1 := Hrow.out.2.1
                  have h2 := Hrow.out.2.2.1
                  have h3 := Hq.out.1
                  have h4 := H.out.2.2.2.2
                  have h5 := Hrow.out.2.2.2.2.1
                  have h6 : q * c.length ≤ 9 * 1024 := Nat.mul_le_mul (by omega) h4
                  rw [List.length_append]; omega
                generalize hLL : lookTo c f q ++ rowTo c f q p = LL at *
                have HLL := Lib.hid (And.intro hLL (And.intro hrow1 hle)); clear hLL hrow1 hle
                go_wp2_with (at_builtin; refine wpList_append_own_at _ rfl _ _ 27 rfl (N + 1) 25 i1 _ 2 16 Tryz.underlying27 HI1.out.1 HI1.out.2.1 HI1.out.2.2.1 HI1.out.2.2.2 rfl (by decide) v LL.length _ rfl (HLL.out.2.1.alloc _) ⟨wr.heap.size + 1, 0, none⟩ 1 1 [.int .i64 (q : Nat), .int .i64 (p : Nat)] rfl rfl (World.news_of_block (t := 25) (fr := (0, 0)) (new_block_at (by simp))) (by simp [Value.oneCell']) (by unfold maxLen; have := HLL.out.2.2; omega) (by have := HLL.out.2.2; omega) (by have := Hrow.out.1.lt; simp at this ⊢; omega) ?_; intro v' w7 hown7 hgrow7 hnil7 hat7; have Hown7 := Lib.hid hown7; have Hg7 := Lib.hid hgrow7; clear hown7 hgrow7 hnil7 hat7)
                have hne : v.ownBlock ≠ some N := fun e => by have := (owns_lt HLL.out.2.1 e).1; omega
                have hfu := (Hrow.out.1.fu.next hN Hrow.out.1.lt ((Below.refl _ _).alloc (Nat.le_refl _) (.cells #[.int .i64 (q : Nat), .int .i64 (p : Nat)] 25)))
                have hlt7 := Nat.lt_of_lt_of_le Hrow.out.1.lt (show _ ≤ w7.heap.size from Nat.le_trans (by simp) Hg7.out.size)
                have hfin : FvS w N c.length (fun p k => findB c f k p) (LL ++ [(q, p)]) v' w7 := by
                  refine ⟨⟨hfu.below.grown Hg7.out (by simp; have := Hrow.out.1.lt; simp at this; omega) (fun r e => by have := (owns_lt HLL.out.2.1 e).1; omega), fun p2 hp2 => rangeAt_same (hfu.rows p2 hp2) (Hg7.out.block N (by simp; have := Hrow.out.1.lt; simp at this; omega) (fun e => hne e.symm)), there_same hfu.there (Hg7.out.block N (by simp; have := Hrow.out.1.lt; simp at this; omega) (fun e => hne e.symm))⟩, ?_, hlt7⟩
                  rw [List.length_append, List.length_singleton, flatF_snoc]
                  exact Hown7.out
                go_roundg (c.length - p)
                case rel => exact ⟨p + 1, _, by have := Hrow.out.2.2.2.2.1; omega, by have := Hrow.out.2.2.2.2.1; omega, rfl, by simp, by
                  rw [Hrow.out.2.2.2.1]; simp only [if_true]; rw [← List.append_assoc, HLL.out.1]; exact hfin⟩
                case measure => have := Hrow.out.2.2.2.2; omega
            · obtain rfl : p = c.length := by omega
              have hls := lookTo_succ c f q
              have Hfv := Lib.hid (And.intro hfv hls); clear hfv hls hpn hp hg3
              go_wp2_with fail
              go_roundg (9 - q)
              case rel => exact ⟨q + 1, _, by have := Hq.out.1; omega, by omega, rfl, by simp, by rw [Hfv.out.2]; exact Hfv.out.1⟩
              case measure => have := Hq.out; omega
theorem met_lt {c : List In} {f : MV} (h : MetOf c f) (s : Spot) (m : Nat) (e : f s = some m) : m < 256 := ((h s).2 m e).1
set_option maxRecDepth 100000 in
theorem look_any (a : Option Addr) (cap : Nat) (c : List In) (w : World) (hn : c.length ≤ 1024) (hF : FormsAt w) (hr : RowsIn w a 5 In.cells c) :
    Calls Tryz.prog 11 #[.slice a c.length cap] w fun e w' => ∃ v f, e = .returned (.tuple #[v, .int .i64 0]) ∧ MetOf c f ∧ w'.ownsRow w.heap.size 25 2 v (lookB c f).length (flatF (lookB c f)) ∧ Below w.heap.size w w' := by
  have d1 : decide (1024 < (c.length : Int)) = false := decide_eq_false (by omega)
  have HM := Lib.hid (met_any a cap c w hn hF hr)
  have H := Lib.hid (And.intro hn (And.intro hF hr)); clear hn hF hr
  go_enter Tryz.func11, Tryz.ntmps11
  go_wp2_with fail
  refine HM.out.mono ?_
  rintro e w2 ⟨b, rfl, hb, n, f, hrg, hmet, hbw⟩
  have HC := Lib.hid (found_any a cap c b n f w2 _ rfl H.out.1 (H.out.2.1.below hbw) (H.out.2.2.below hbw) hrg (met_lt hmet))
  have H2 := Lib.hid (And.intro hmet hbw); clear hb hrg hmet hbw HM
  go_wp2_with fail
  refine HC.out.mono ?_
  rintro e w3 ⟨v, rfl, hown, hb3⟩
  have H3 := Lib.hid (And.intro hown hb3); clear hown hb3 HC
  go_wp2_with fail
  go_ret2
  exact ⟨v, f, rfl, H2.out.1, owns_mono H3.out.1 (fun g e => Nat.le_trans H2.out.2.size (owns_lt H3.out.1 e).1), H2.out.2.trans (H3.out.2.mono H2.out.2.size)⟩
theorem look_long (a : Option Addr) (n cap : Nat) (w : World) (hn : 1024 < n) : Calls Tryz.prog 11 #[.slice a n cap] w fun e w' => e = .returned (.tuple #[.slice none 0 0, .int .i64 2]) ∧ w' = w := by
  have d1 : decide (1024 < (n : Int)) = true := decide_eq_true (by omega)
  clear hn
  go_enter Tryz.func11, Tryz.ntmps11
  go_wp2_with fail
  go_ret2
  exact ⟨rfl, rfl⟩
end Go.Proofs.YteijhcibdglkeaaGreatDoor
