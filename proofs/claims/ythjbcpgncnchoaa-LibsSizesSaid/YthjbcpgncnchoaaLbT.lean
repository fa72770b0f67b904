/- Sizes, and which libraries may be: the law's walk. Conditions: the place and the call that came in. -/
import Derived.Test.YthjbcpgncnchoaaLbS
import Derived.Deep.CutBlock
namespace Go.Proofs.Ythjbcpgncnchoaa
open Go.RowKit Go.BigFrame Go.Maps

def kindX (x : Pc) (k : Int) : Pc := { x with kind := k }
theorem kindX_ok {x : Pc} (h : x.Ok) (k : Int) : (kindX x k).Ok := ⟨h.b, h.c⟩
theorem qsize_same (x : Pc) : (queueP 0 x.cap).size = sizeR (kindX x 0) := size_same ⟨0, 0, x.buckets, x.cap⟩ (.inl rfl) rfl
theorem hsize_same (x : Pc) : (hashP 0 x.buckets x.cap).size = sizeR (kindX x 1) := size_same ⟨1, 0, x.buckets, x.cap⟩ (.inr (.inl rfl)) rfl
theorem tsize_same (x : Pc) : (treeP 0 x.cap).size = sizeR (kindX x 2) := size_same ⟨2, 0, x.buckets, x.cap⟩ (.inr (.inr rfl)) rfl

/-- Where the walk stands: the place, the call, three places of three kinds. -/
structure Sz (w W : World) (x : Pc) (c : Cc) (a b d : Nat) : Prop where
  bx : Holds W w.heap.size 23 x.cells
  bc : Holds W (w.heap.size + 1) 26 c.cells
  qa : Holds W a 23 (kindX x 0).cells
  qb : Holds W b 23 (kindX x 1).cells
  qd : Holds W d 23 (kindX x 2).cells
  below : Below w.heap.size w W
theorem Sz.next {w W V : World} {x : Pc} {c : Cc} {a b d : Nat} (h : Sz w W x c a b d) (hb : Below W.heap.size W V) : Sz w V x c a b d :=
  ⟨h.bx.below hb, h.bc.below hb, h.qa.below hb, h.qb.below hb, h.qd.below hb, h.below.trans (hb.mono h.below.size)⟩
/-- Three places that are one, apart. -/
structure S3 (w W : World) (x : Pc) (c : Cc) (a b d : Nat) : Prop where
  bx : Holds W w.heap.size 23 x.cells
  bc : Holds W (w.heap.size + 1) 26 c.cells
  qa : Holds W a 23 x.cells
  qb : Holds W b 23 x.cells
  qd : Holds W d 23 x.cells
  below : Below w.heap.size w W
  ne : a ≠ b ∧ a ≠ d ∧ b ≠ d ∧ w.heap.size + 1 < a ∧ w.heap.size + 1 < b ∧ w.heap.size + 1 < d
theorem s3_start {w W : World} {x : Pc} {c : Cc} {a b d : Nat} (hbx : Holds W w.heap.size 23 x.cells) (hbc : Holds W (w.heap.size + 1) 26 c.cells) (hbl : Below w.heap.size w W) (hz : W.heap.size = w.heap.size + 1 + 1)
    (ha : a < W.heap.size + 3 ∧ W.heap.size ≤ a) (hb : b < W.heap.size + 3 ∧ W.heap.size ≤ b) (hd : d < W.heap.size + 3 ∧ W.heap.size ≤ d) (hab : a ≠ b ∧ a ≠ d ∧ b ≠ d) :
    S3 w (((W.alloc (.cells #[.int .i64 x.kind, .int .i64 x.base, .int .i64 x.buckets, .int .i64 x.cap] 23)).alloc (.cells #[.int .i64 x.kind, .int .i64 x.base, .int .i64 x.buckets, .int .i64 x.cap] 23)).alloc (.cells #[.int .i64 x.kind, .int .i64 x.base, .int .i64 x.buckets, .int .i64 x.cap] 23)).drew x c a b d := by
  obtain ⟨V, hV⟩ : ∃ V, V = (((W.alloc (.cells #[.int .i64 x.kind, .int .i64 x.base, .int .i64 x.buckets, .int .i64 x.cap] 23)).alloc (.cells #[.int .i64 x.kind, .int .i64 x.base, .int .i64 x.buckets, .int .i64 x.cap] 23)).alloc (.cells #[.int .i64 x.kind, .int .i64 x.base, .int .i64 x.buckets, .int .i64 x.cap] 23)).drew := ⟨_, rfl⟩
  have hall : ∀ q, q < W.heap.size + 3 ∧ W.heap.size ≤ q → Holds V q 23 x.cells := fun q hq => by
    subst hV
    refine Holds.drew ?_
    rcases (by omega : q = W.heap.size ∨ q = W.heap.size + 1 ∨ q = W.heap.size + 1 + 1) with rfl | rfl | rfl
    · exact ((boxP W x).alloc _).alloc _
    · exact (newAt (by simp) 23 x.cells).alloc _
    · exact newAt (by simp) 23 x.cells
  have hbV : Below W.heap.size W V := by
    subst hV
    exact below_drew1 ((((Below.refl _ W).alloc (Nat.le_refl _) _).alloc (by simp) _).alloc (by simp; omega) _)
  rw [← hV]
  exact ⟨hbx.below hbV, hbc.below hbV, hall a ha, hall b hb, hall d hd, hbl.trans (hbV.mono hbl.size), hab.1, hab.2.1, hab.2.2, by omega, by omega, by omega⟩
theorem S3.turn {w W : World} {x : Pc} {c : Cc} {a b d : Nat} (h : S3 w W x c a b d) : Sz w (((W.setCell ⟨a, 0, none⟩ (.int .i64 0)).setCell ⟨b, 0, none⟩ (.int .i64 1)).setCell ⟨d, 0, none⟩ (.int .i64 2)) x c a b d := by
  obtain ⟨n1, n2, n3, n4, n5, n6⟩ := h.ne
  have hB : Below w.heap.size w (((W.setCell ⟨a, 0, none⟩ (.int .i64 0)).setCell ⟨b, 0, none⟩ (.int .i64 1)).setCell ⟨d, 0, none⟩ (.int .i64 2)) := ((h.below.setCell (by show _ ≤ a; omega) _).setCell (by show _ ≤ b; omega) _).setCell (by show _ ≤ d; omega) _
  have ho : ∀ (q : Nat) (t : TypeId) (L : List Value), Holds W q t L → q ≠ a → q ≠ b → q ≠ d → Holds (((W.setCell ⟨a, 0, none⟩ (.int .i64 0)).setCell ⟨b, 0, none⟩ (.int .i64 1)).setCell ⟨d, 0, none⟩ (.int .i64 2)) q t L := fun q t L hq h1 h2 h3 => Holds.other (Holds.other (Holds.other hq h1 _) h2 _) h3 _
  refine ⟨ho _ _ _ h.bx (by omega) (by omega) (by omega), ho _ _ _ h.bc (by omega) (by omega) (by omega), ?_, ?_, ?_, hB⟩
  · exact Holds.other (Holds.other (h.qa.set 0 _) n1 _) n2 _
  · exact Holds.other ((Holds.other h.qb (Ne.symm n1) _).set 0 _) n3 _
  · exact (Holds.other (Holds.other h.qd (Ne.symm n2) _) (Ne.symm n3) _).set 0 _
theorem rows_code {w : World} {lo : Nat} {ad : Option Addr} {cap : Nat} {l : List In} (h : w.ownsRow lo 40 5 (.slice ad l.length cap) l.length (flatI l)) : RowsIn w ad 5 In.cells l := by
  rcases owns_form h with ⟨_, h0, _⟩ | ⟨g, c, e, _⟩
  · exact .inl (List.eq_nil_of_length_eq_zero h0)
  · simp only [Value.slice.injEq] at e
    obtain ⟨rfl, _, rfl⟩ := e
    refine .inr ⟨g, 0, rfl, (owns_lt h rfl).2, fun k y hy j v hj => ?_⟩
    rw [Nat.zero_add]
    exact (owns_cell h (g := g) rfl (flatI_at l k y hy j v hj)).1
/-- The three places in a row. -/
def rowC (x : Pc) : List Value := (kindX x 0).cells ++ (kindX x 1).cells ++ (kindX x 2).cells
theorem rowC_at (x : Pc) (i : Nat) (hi : i < 3) (j : Nat) (v : Value) (h : (kindX x i).cells[j]? = some v) : (rowC x)[i * 4 + j]? = some v := by
  have hj : j < 4 := (List.getElem?_eq_some_iff.1 h).1
  match i, hi with
  | 0, _ => rw [Nat.zero_mul, Nat.zero_add]; unfold rowC; rw [List.append_assoc, List.getElem?_append_left hj]; exact h
  | 1, _ => rw [Nat.one_mul]; unfold rowC; rw [List.append_assoc, List.getElem?_append_right (by simp [Pc.cells]), List.getElem?_append_left (by simp [Pc.cells]; omega), show 4 + j - (kindX x 0).cells.length = j by simp [Pc.cells]]; exact h
  | 2, _ => unfold rowC; rw [List.getElem?_append_right (by simp [Pc.cells]), show 2 * 4 + j - ((kindX x 0).cells ++ (kindX x 1).cells).length = j by simp [Pc.cells]]; exact h

/-- In the loops. -/
structure Lp (w W : World) (x : Pc) (c : Cc) (r : Nat) (ck : Int) : Prop where
  bc : Holds W (w.heap.size + 1) 26 (Cc.cells { c with kind := ck })
  row : Holds W r 23 (rowC x)
  below : Below w.heap.size w W
theorem Lp.next {w W V : World} {x : Pc} {c : Cc} {r : Nat} {ck : Int} (h : Lp w W x c r ck) (hb : Below W.heap.size W V) : Lp w V x c r ck :=
  ⟨h.bc.below hb, h.row.below hb, h.below.trans (hb.mono h.below.size)⟩
structure Li (w W : World) (x : Pc) (c : Cc) (r q k : Nat) (ck : Int) : Prop where
  lp : Lp w W x c r ck
  y : Holds W q 23 (kindX x k).cells
theorem Li.next {w W V : World} {x : Pc} {c : Cc} {r q k : Nat} {ck : Int} (h : Li w W x c r q k ck) (hb : Below W.heap.size W V) : Li w V x c r q k ck := ⟨h.lp.next hb, h.y.below hb⟩
theorem Li.turn {w W : World} {x : Pc} {c : Cc} {r q k : Nat} {ck : Int} (h : Li w W x c r q k ck) (z : Int) : Li w (W.setCell ⟨w.heap.size + 1, 0, none⟩ (.int .i64 z)) x c r q k z :=
  ⟨⟨h.lp.bc.set 0 _, h.lp.row.other (h.lp.row.ne h.lp.bc (by decide)) _, h.lp.below.setCell (by show _ ≤ w.heap.size + 1; omega) _⟩, h.y.other (h.y.ne h.lp.bc (by decide)) _⟩
theorem Li.cells {w W : World} {x : Pc} {c : Cc} {r q k : Nat} {ck : Int} (h : Li w W x c r q k ck) : W.cell? ⟨q, 0, none⟩ = some (.int .i64 k) ∧ W.cell? ⟨q, 1, none⟩ = some (.int .i64 x.base) ∧ W.cell? ⟨q, 2, none⟩ = some (.int .i64 x.buckets) ∧ W.cell? ⟨q, 3, none⟩ = some (.int .i64 x.cap) ∧ W.cell? ⟨w.heap.size + 1, 0, none⟩ = some (.int .i64 ck) ∧ W.cell? ⟨w.heap.size + 1, 1, none⟩ = some (.int .u64 c.k) ∧ W.cell? ⟨w.heap.size + 1, 2, none⟩ = some (.int .u64 c.v) :=
  ⟨h.y.cell (i := 0) rfl, h.y.cell (i := 1) rfl, h.y.cell (i := 2) rfl, h.y.cell (i := 3) rfl, h.lp.bc.cell (i := 0) rfl, h.lp.bc.cell (i := 1) rfl, h.lp.bc.cell (i := 2) rfl⟩
theorem owns_below {w w' : World} {lo : Nat} {e : TypeId} {size : Nat} {v : Value} {n : Nat} {xs : List Value} (h : w.ownsRow lo e size v n xs) (hb : Below w.heap.size w w') : w'.ownsRow lo e size v n xs := owns_same h (fun g e => hb.block g (owns_lt h e).2)

set_option maxRecDepth 100000 in
set_option maxHeartbeats 8000000 in
theorem sizes_any (x : Pc) (c : Cc) (hx : x.Ok) (hc : c.Ok) (w : World) : Calls Try.prog 3 #[x.val, c.val] w fun e w' => e = .returned (.bool true) ∧ Below w.heap.size w w' := by
  obtain ⟨hbx, hbc, hbl⟩ := two_boxes w x c
  go_enter Try.func3, Try.ntmps3
  go_upto_region 1 with (fail)
  have hs0 : ((w.alloc (.cells #[.int .i64 x.kind, .int .i64 x.base, .int .i64 x.buckets, .int .i64 x.cap] 23)).alloc (.cells #[.int .i64 c.kind, .int .u64 c.k, .int .u64 c.v] 26)).heap.size = w.heap.size + 1 + 1 := by simp
  generalize (w.alloc (.cells #[.int .i64 x.kind, .int .i64 x.base, .int .i64 x.buckets, .int .i64 x.cap] 23)).alloc (.cells #[.int .i64 c.kind, .int .u64 c.k, .int .u64 c.v] 26) = W at *
  have x0 := hbx.cell (i := 0) rfl
  have x1 := hbx.cell (i := 1) rfl
  have x2 := hbx.cell (i := 2) rfl
  have x3 := hbx.cell (i := 3) rfl
  have hlx := hbx.lt
  have Hbx := Lib.hid hbx; clear hbx
  have Hbc := Lib.hid hbc; clear hbc
  have Hbl := Lib.hid hbl; clear hbl
  go_cut [5, 6, 7] from 13 to 15 (fun o5 o6 o7 wx => ∃ a b d : Nat, o5 = .pointer (some ⟨a, 0, none⟩) ∧ o6 = .pointer (some ⟨b, 0, none⟩) ∧ o7 = .pointer (some ⟨d, 0, none⟩) ∧ S3 w wx x c a b d)
  case first =>
    go_region
    all_goals go_wp2_with fail
    all_goals go_meet
    all_goals (case rel => exact ⟨_, _, _, rfl, rfl, rfl, s3_start Hbx.out Hbc.out Hbl.out hs0 ⟨by omega, by omega⟩ ⟨by omega, by omega⟩ ⟨by omega, by omega⟩ ⟨by omega, by omega, by omega⟩⟩)
  case rest =>
  obtain ⟨a, b, d, rfl, rfl, rfl, hz⟩ := hcut
  clear x0 x1 x2 x3 hlx Hbx Hbc Hbl hs0
  obtain ⟨n1, n2, n3, n4, n5, n6⟩ := hz.ne
  have a0 := hz.qa.cell (i := 0) rfl
  have b0 := hz.qb.cell (i := 0) rfl
  have d0 := hz.qd.cell (i := 0) rfl
  have af := hz.qa.free 0
  have bf := hz.qb.free 0
  have df := hz.qd.free 0
  have HZ := Lib.hid hz.turn; clear hz

  go_upto_region 3 with (fail)
  generalize ((wc.setCell ⟨a, 0, none⟩ (.int .i64 0)).setCell ⟨b, 0, none⟩ (.int .i64 1)).setCell ⟨d, 0, none⟩ (.int .i64 2) = W3 at *
  clear a0 b0 d0 af bf df n1 n2 n3 n4 n5 n6
  have hD := HZ.out.next (below_drew1 (Below.refl _ _))
  clear HZ
  have HK : Hid (∀ V, Sz w V x c a b d → V.cell? ⟨w.heap.size, 2, none⟩ = some (.int .i64 x.buckets) ∧ V.cell? ⟨w.heap.size, 3, none⟩ = some (.int .i64 x.cap) ∧ V.cell? ⟨a, 0, none⟩ = some (.int .i64 0) ∧ V.cell? ⟨a, 1, none⟩ = some (.int .i64 x.base) ∧ V.cell? ⟨a, 2, none⟩ = some (.int .i64 x.buckets) ∧ V.cell? ⟨a, 3, none⟩ = some (.int .i64 x.cap) ∧ V.cell? ⟨b, 0, none⟩ = some (.int .i64 1) ∧ V.cell? ⟨b, 1, none⟩ = some (.int .i64 x.base) ∧ V.cell? ⟨b, 2, none⟩ = some (.int .i64 x.buckets) ∧ V.cell? ⟨b, 3, none⟩ = some (.int .i64 x.cap) ∧ V.cell? ⟨d, 0, none⟩ = some (.int .i64 2) ∧ V.cell? ⟨d, 1, none⟩ = some (.int .i64 x.base) ∧ V.cell? ⟨d, 2, none⟩ = some (.int .i64 x.buckets) ∧ V.cell? ⟨d, 3, none⟩ = some (.int .i64 x.cap)) := Lib.hid (fun V h => ⟨h.bx.cell (i := 2) rfl, h.bx.cell (i := 3) rfl, h.qa.cell (i := 0) rfl, h.qa.cell (i := 1) rfl, h.qa.cell (i := 2) rfl, h.qa.cell (i := 3) rfl, h.qb.cell (i := 0) rfl, h.qb.cell (i := 1) rfl, h.qb.cell (i := 2) rfl, h.qb.cell (i := 3) rfl, h.qd.cell (i := 0) rfl, h.qd.cell (i := 1) rfl, h.qd.cell (i := 2) rfl, h.qd.cell (i := 3) rfl⟩)
  have HQ := Lib.hid (fun V => QueueSize_any x.cap hx.c V)
  have HH := Lib.hid (fun V => HashSize_any x.buckets x.cap hx.c V)
  have HT := Lib.hid (fun V => TreeSize_any x.cap hx.c V)
  rw [qsize_same x] at HQ
  rw [hsize_same x] at HH
  rw [tsize_same x] at HT
  have R0 := Lib.hid (fun V => rsize_any (kindX x 0) V)
  have R1 := Lib.hid (fun V => rsize_any (kindX x 1) V)
  have R2 := Lib.hid (fun V => rsize_any (kindX x 2) V)
  generalize sizeR (kindX x 0) = z0 at *
  generalize sizeR (kindX x 1) = z1 at *
  generalize sizeR (kindX x 2) = z2 at *
  simp only [kindX, Pc.val] at R0 R1 R2
  have m0 : (z0 != z0) = false := by simp
  have m1 : (z1 != z1) = false := by simp
  have m2 : (z2 != z2) = false := by simp
  go_region_held3 (fun V => V.cell? ⟨w.heap.size, 2, none⟩ = some (.int .i64 x.buckets) ∧ V.cell? ⟨w.heap.size, 3, none⟩ = some (.int .i64 x.cap) ∧ V.cell? ⟨a, 0, none⟩ = some (.int .i64 0) ∧ V.cell? ⟨a, 1, none⟩ = some (.int .i64 x.base) ∧ V.cell? ⟨a, 2, none⟩ = some (.int .i64 x.buckets) ∧ V.cell? ⟨a, 3, none⟩ = some (.int .i64 x.cap) ∧ V.cell? ⟨b, 0, none⟩ = some (.int .i64 1) ∧ V.cell? ⟨b, 1, none⟩ = some (.int .i64 x.base) ∧ V.cell? ⟨b, 2, none⟩ = some (.int .i64 x.buckets) ∧ V.cell? ⟨b, 3, none⟩ = some (.int .i64 x.cap) ∧ V.cell? ⟨d, 0, none⟩ = some (.int .i64 2) ∧ V.cell? ⟨d, 1, none⟩ = some (.int .i64 x.base) ∧ V.cell? ⟨d, 2, none⟩ = some (.int .i64 x.buckets) ∧ V.cell? ⟨d, 3, none⟩ = some (.int .i64 x.cap)) (first | with_reducible exact HK.out _ hD) (first | (go_at_call 9; (with_reducible refine (HQ.out _).mono ?_); rintro e V ⟨rfl, hb⟩; have hD := hD.next hb) | (go_at_call 11; (with_reducible refine (HH.out _).mono ?_); rintro e V ⟨rfl, hb⟩; have hD := hD.next hb) | (go_at_call 12; (with_reducible refine (HT.out _).mono ?_); rintro e V ⟨rfl, hb⟩; have hD := hD.next hb) | (go_at_call 10; (with_reducible refine (R0.out _).mono ?_); rintro e V ⟨rfl, hb⟩; have hD := hD.next hb) | (go_at_call 10; (with_reducible refine (R1.out _).mono ?_); rintro e V ⟨rfl, hb⟩; have hD := hD.next hb) | (go_at_call 10; (with_reducible refine (R2.out _).mono ?_); rintro e V ⟨rfl, hb⟩; have hD := hD.next hb))
  clear HQ HH HT R0 R1 R2
  obtain ⟨y0, y1, k00, k01, k02, k03, k10, k11, k12, k13, k20, k21, k22, k23⟩ := HK.out _ hD
  have HZ := Lib.hid hD; clear hD
  have hr := HZ.out
  go_wp2_with fail
  have hlp : Lp w (V.alloc (.cells #[.int .i64 0, .int .i64 x.base, .int .i64 x.buckets, .int .i64 x.cap, .int .i64 1, .int .i64 x.base, .int .i64 x.buckets, .int .i64 x.cap, .int .i64 2, .int .i64 x.base, .int .i64 x.buckets, .int .i64 x.cap] 23)) x c V.heap.size c.kind :=
    ⟨hr.bc.alloc _, Holds.new V 23 (rowC x), hr.below.alloc hr.below.size _⟩
  clear hr HZ HK y0 y1 k00 k01 k02 k03 k10 k11 k12 k13 k20 k21 k22 k23
  generalize V.alloc (.cells #[.int .i64 0, .int .i64 x.base, .int .i64 x.buckets, .int .i64 x.cap, .int .i64 1, .int .i64 x.base, .int .i64 x.buckets, .int .i64 x.cap, .int .i64 2, .int .i64 x.base, .int .i64 x.buckets, .int .i64 x.cap] 23) = V0 at *
  generalize V.heap.size = r at *
  have HL := Lib.hid hlp; clear hlp
  go_loopw [48] (fun i wr => ∃ (k : Nat) (ck : Int), k ≤ 3 ∧ i = .int .i64 k ∧ Lp w wr x c r ck) (fun i _ => 3 - (intOf i).toNat)
  case atStart => exact ⟨0, c.kind, by omega, by simp, HL.out⟩
  case round =>
    obtain ⟨k, ck, hk, rfl, hlp⟩ := hrel
    by_cases hlt : k < 3
    · have hbk : (0 : Int) ≤ k ∧ (k : Int) < 3 := by omega
      have e0 := hlp.row.cell (i := k * 4 + 0) (rowC_at x k hlt 0 _ rfl)
      have e1 := hlp.row.cell (i := k * 4 + 1) (rowC_at x k hlt 1 _ rfl)
      have e2 := hlp.row.cell (i := k * 4 + 2) (rowC_at x k hlt 2 _ rfl)
      have e3 := hlp.row.cell (i := k * 4 + 3) (rowC_at x k hlt 3 _ rfl)
      rw [Nat.add_zero] at e0
      simp only [kindX] at e0 e1 e2 e3
      have HL2 := Lib.hid hlp; clear hlp
      go_wp2_with fail
      have hli : Li w (wr.alloc (.cells #[.int .i64 k, .int .i64 x.base, .int .i64 x.buckets, .int .i64 x.cap] 23)) x c r wr.heap.size k ck :=
        ⟨HL2.out.next ((Below.refl _ wr).alloc (Nat.le_refl _) _), Holds.new wr 23 (kindX x k).cells⟩
      clear HL2 e0 e1 e2 e3
      generalize wr.alloc (.cells #[.int .i64 k, .int .i64 x.base, .int .i64 x.buckets, .int .i64 x.cap] 23) = V1 at *
      generalize wr.heap.size = q at *
      have HLi := Lib.hid hli; clear hli
      go_loopw [10] (fun i wr => ∃ (j : Nat) (ck : Int), j ≤ 4 ∧ i = .int .i64 j ∧ Li w wr x c r q k ck) (fun i _ => 4 - (intOf i).toNat)
      case atStart => exact ⟨0, ck, by omega, by simp, HLi.out⟩
      case round =>
        obtain ⟨j, ck2, hj, rfl, hli⟩ := hrel
        by_cases hjt : j < 4
        · obtain ⟨p0, p1, p2, p3, p4, p5, p6⟩ := hli.cells
          have pf := hli.lp.bc.free 0
          have HT := Lib.hid (hli.turn j); clear hli
          go_upto_region 12 with (fail)
          generalize wr.setCell ⟨w.heap.size + 1, 0, none⟩ (.int .i64 j) = V2 at *
          clear p0 p1 p2 p3 p4 p5 p6 pf
          have hS := HT.out
          obtain ⟨p0, p1, p2, p3, p4, p5, p6⟩ := hS.cells
          have HS := Lib.hid hS; clear hS HT
          have hko : (kindX x k).Ok := kindX_ok hx k
          have hco : Cc.Ok { c with kind := (j : Int) } := ⟨hc.k, hc.v⟩
          have HU : Hid (∀ V, Calls Try.prog 13 #[.agg #[.int .i64 k, .int .i64 x.base, .int .i64 x.buckets, .int .i64 x.cap], .agg #[.int .i64 j, .int .u64 c.k, .int .u64 c.v]] V fun e w' => e = .returned (.bool (usualP k j)) ∧ Below V.heap.size V w') := Lib.hid (fun V => usual_any (kindX x k) { c with kind := (j : Int) } V)
          have HC : Hid (∀ V, Calls Try.prog 14 #[.agg #[.int .i64 k, .int .i64 x.base, .int .i64 x.buckets, .int .i64 x.cap], .agg #[.int .i64 j, .int .u64 c.k, .int .u64 c.v]] V fun e w' => LibO V (poolX (kindX x k)) (codeX (kindX x k) { c with kind := (j : Int) }).out e w') := Lib.hid (fun V => code_any (kindX x k) { c with kind := (j : Int) } hko hco V)
          have hms : (poolX (kindX x k)).mayBe = mayR (kindX x k) := may_same (kindX x k) (by show (k : Int) = 0 ∨ (k : Int) = 1 ∨ (k : Int) = 2; omega)
          have HM : Hid (∀ V, Calls Try.prog 15 #[.agg #[.int .i64 k, .int .i64 x.base, .int .i64 x.buckets, .int .i64 x.cap]] V fun e w' => e = .returned (.bool (poolX (kindX x k)).mayBe) ∧ Below V.heap.size V w') := Lib.hid (fun V => by rw [hms]; exact rmay_any (kindX x k) V)
          have HFi := Lib.hid (codeX_fits (kindX x k) { c with kind := (j : Int) } hko)
          have hle := HFi.out.1
          clear hms hko hco
          generalize (codeX (kindX x k) { c with kind := (j : Int) }).out = l at *
          generalize hmb : (poolX (kindX x k)).mayBe = mb at *
          generalize poolX (kindX x k) = PP at *
          cases hu : usualP k j with
          | false =>
            rw [hu] at HU
            clear hu
            go_wp2_with (go_at_call 13; (with_reducible refine (HU.out _).mono ?_); rintro e V3 ⟨rfl, hb⟩; have HS := Lib.hid (HS.out.next hb); clear hb)
            go_roundw
            case rel => exact ⟨j + 1, j, by omega, by simp, HS.out⟩
            case measure => simp [intOf]; omega
          | true =>
            rw [hu] at HU
            clear hu
            cases mb with
            | true =>
              go_wp2_with (first | (go_at_call 13; (with_reducible refine (HU.out _).mono ?_); rintro e V3 ⟨rfl, hb⟩; have hS := HS.out.next hb; clear p0 p1 p2 p3 p4 p5 p6; obtain ⟨p0, p1, p2, p3, p4, p5, p6⟩ := hS.cells; have HS := Lib.hid hS; clear hb hS) | (go_at_call 14; (with_reducible refine (HC.out _).mono ?_); rintro e V4 ⟨v, n, rfl, hb, h3, h4⟩; obtain ⟨rfl, hrow⟩ := h3 hmb; obtain ⟨ad, cap, rfl⟩ := row_form hrow; have hS := HS.out.next hb; clear p0 p1 p2 p3 p4 p5 p6; obtain ⟨p0, p1, p2, p3, p4, p5, p6⟩ := hS.cells; have HS := Lib.hid hS; have HR := Lib.hid hrow; clear hb hS h3 h4 hrow) | (go_at_call 15; (with_reducible refine (HM.out _).mono ?_); rintro e V5 ⟨rfl, hb⟩; have hS := HS.out.next hb; have HR5 := Lib.hid (owns_below HR.out hb); clear p0 p1 p2 p3 p4 p5 p6; obtain ⟨p0, p1, p2, p3, p4, p5, p6⟩ := hS.cells; have HS := Lib.hid hS; clear hb hS) | (go_at_call 16; (with_reducible refine (fits_yes ad cap l _ (rows_code HR5.out) HFi.out).mono ?_); rintro e V6 ⟨rfl, hb⟩; have HS := Lib.hid (HS.out.next hb); clear hb))
              go_roundw
              case rel => exact ⟨j + 1, j, by omega, by simp, HS.out⟩
              case measure => simp [intOf]; omega
            | false =>
              go_wp2_with (first | (go_at_call 13; (with_reducible refine (HU.out _).mono ?_); rintro e V3 ⟨rfl, hb⟩; have hS := HS.out.next hb; clear p0 p1 p2 p3 p4 p5 p6; obtain ⟨p0, p1, p2, p3, p4, p5, p6⟩ := hS.cells; have HS := Lib.hid hS; clear hb hS) | (go_at_call 14; (with_reducible refine (HC.out _).mono ?_); rintro e V4 ⟨v, n, rfl, hb, h3, h4⟩; obtain ⟨rfl, rfl⟩ := h4 hmb; have hS := HS.out.next hb; clear p0 p1 p2 p3 p4 p5 p6; obtain ⟨p0, p1, p2, p3, p4, p5, p6⟩ := hS.cells; have HS := Lib.hid hS; clear hb hS h3 h4) | (go_at_call 15; (with_reducible refine (HM.out _).mono ?_); rintro e V5 ⟨rfl, hb⟩; have hS := HS.out.next hb; clear p0 p1 p2 p3 p4 p5 p6; obtain ⟨p0, p1, p2, p3, p4, p5, p6⟩ := hS.cells; have HS := Lib.hid hS; clear hb hS))
              go_roundw
              case rel => exact ⟨j + 1, j, by omega, by simp, HS.out⟩
              case measure => simp [intOf]; omega
        · obtain rfl : j = 4 := by omega
          have HLj := Lib.hid hli; clear hli
          go_wp2_with fail
          go_roundw
          case rel => exact ⟨k + 1, ck2, by omega, by simp, HLj.out.lp⟩
          case measure => simp [intOf]; omega
    · obtain rfl : k = 3 := by omega
      have HLk := Lib.hid hlp; clear hlp
      go_wp2
      go_ret
      exact ⟨rfl, HLk.out.below⟩

end Go.Proofs.Ythjbcpgncnchoaa
