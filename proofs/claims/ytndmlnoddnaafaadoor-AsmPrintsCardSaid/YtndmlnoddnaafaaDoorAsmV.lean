/- Print. Conditions: those stated in each theorem. -/
import Derived.Test.YtndmlnoddnaafaaDoorAsmU
import Derived.Test.YtndmlnoddnaafaaDoorAsmT
import Derived.Test.YtndmlnoddnaafaaDoorShelfB
import Derived.Laws.OwnMore
namespace Go.Proofs.YtndmlnoddnaafaaDoor
open Go.RowKit Go.BigFrame Go.Shelf Go.Maps

/-- What Print stands on: two tables, in each later world. -/
structure StdP (w : World) : Prop where
  forms : FormsAt w
  tab : Lib.TabBelow Tryd.prog w.heap.size w "internal/strconv.uint64pow10" .u64 Lib.pow10Tab
theorem StdP.below {w w' : World} (h : StdP w) (hb : Below w.heap.size w w') : StdP w' := ⟨h.forms.below hb, fun w2 h2 => h.tab w2 (hb.trans (h2.mono hb.size))⟩
theorem Std.p {w : World} (h : Std w) : StdP w := ⟨h.forms, h.tab⟩
theorem nameof_any (n : Int) (hn : I64 n) {w : World} (h : StdP w) : Calls Tryd.prog 15 #[.int .i64 n] w fun e w' => e = .returned (.string ⟨((108 :: Lib.itoa n : By)).toArray⟩) ∧ Below w.heap.size w w' := by
  have hi := itoa_any n hn w h.tab
  have hl := itoa_len n hn
  have Hi := Lib.hid hi; clear hi
  generalize Lib.itoa n = it at *
  go_enter Tryd.func15, Tryd.ntmps15
  go_wp2_with fail
  refine Hi.out.mono ?_
  rintro e w2 ⟨rfl, hb⟩
  have Hb := Lib.hid hb; clear hb
  go_wp2_with (refine wpList_cat2 rfl _ _ _ _ rfl [108] it rfl rfl (by simp) (by omega) ?_)
  exact bodyPost_ret (results_tmp rfl _ _ _) rfl ⟨rfl, Hb.out⟩

theorem Tryd.infoStr : (Tryd.prog.info? 9).map (fun i => (i.zero, i.size, i.bytes)) = some (some (.string ⟨#[]⟩), 1, 16) := by kernel_rfl
theorem Tryd.infoBool : (Tryd.prog.info? 4).map (fun i => (i.zero, i.size, i.bytes)) = some (some (.bool false), 1, 1) := by kernel_rfl
theorem made_at {z : Value} {n j : Nat} (h : j < n) (hz : z.cells = #[z]) : (madeCells z.cells (n * 1)).toList[j]? = some z := by
  rw [hz, Nat.mul_one]
  simp [madeCells, h, Nat.mod_one]

/-- How far the lines have been made. -/
structure PrA (l : List In) (k : Nat) (xs ys : List Value) : Prop where
  lines : ∀ j i, j < k → l[j]? = some i → xs[j]? = some (.string ⟨(lineP l.length i).toArray⟩)
  marks : ∀ j, j ≤ l.length → ys[j]? = some (.bool (markP l.length (l.take k) j))
theorem PrA.next {l : List In} {k : Nat} {xs ys : List Value} {i : In} (h : PrA l k xs ys) (hx : xs.length = l.length) (hy : ys.length = l.length + 1) (hi : l[k]? = some i) {u : Value} (hu : u = .string ⟨(lineP l.length i).toArray⟩) {ys' : List Value}
    (hys : (goesI l.length i = false ∧ ys' = ys) ∨ (goesI l.length i = true ∧ 0 ≤ i.imm ∧ i.imm ≤ l.length ∧ ys' = ys.set i.imm.toNat (.bool true))) : PrA l (k + 1) (xs.set k u) ys' := by
  have hk := (List.getElem?_eq_some_iff.1 hi).1
  refine ⟨fun j x hj hx2 => ?_, fun j hj => ?_⟩
  · by_cases e : j = k
    · subst e
      rw [hi] at hx2; cases hx2
      rw [List.getElem?_set_self (by omega), hu]
    · rw [List.getElem?_set_ne (by omega)]
      exact h.lines j x (by omega) hx2
  · have hm : markP l.length (l.take (k + 1)) j = (markP l.length (l.take k) j || (goesI l.length i && i.imm == j)) := by
      unfold markP; rw [List.take_add_one, hi]; simp
    rw [hm]
    rcases hys with ⟨hg, rfl⟩ | ⟨hg, h0, h1, rfl⟩
    · rw [hg]; simp [h.marks j hj]
    · rw [hg]
      by_cases e : i.imm = j
      · have : i.imm.toNat = j := by omega
        rw [this, List.getElem?_set_self (by omega)]; simp [e]
      · have e1 : (i.imm == (j : Int)) = false := by simpa using e
        rw [List.getElem?_set_ne (by omega), h.marks j hj]; simp [e1]
theorem goesI_no1 {n : Nat} {i : In} (h : goesP (textP i) = false) : goesI n i = false ∧ lineP n i = textP i := by
  have : goesI n i = false := by unfold goesI; rw [h]; rfl
  exact ⟨this, by unfold lineP; rw [this]; rfl⟩
theorem goesI_no2 {n : Nat} {i : In} (h : ¬ (0 ≤ i.imm ∧ i.imm ≤ n)) : goesI n i = false ∧ lineP n i = textP i := by
  have : goesI n i = false := by
    unfold goesI
    by_cases h0 : 0 ≤ i.imm
    · have h1 : ¬ i.imm ≤ n := fun e => h ⟨h0, e⟩
      simp [h1]
    · simp [h0]
  exact ⟨this, by unfold lineP; rw [this]; rfl⟩
theorem goesI_yes {n : Nat} {i : In} (h : goesP (textP i) = true) (h0 : 0 ≤ i.imm) (h1 : i.imm ≤ n) : goesI n i = true ∧ lineP n i = (textP i).take (lastP (textP i)) ++ (108 :: Lib.itoa i.imm) := by
  have : goesI n i = true := by unfold goesI; simp [h, h0, h1]
  refine ⟨this, ?_⟩
  unfold lineP plName
  rw [this, if_pos rfl, Int.toNat_of_nonneg h0]

theorem builder_below {T e : TypeId} {B b : Nat} {bs : List Value} {w w' : World} (h : Lib.IsBuilder T e B b bs w) (hb : Below w.heap.size w w') : Lib.IsBuilder T e B b bs w' := by
  have key : ∀ p, Lib.BuilderAt T e B b p bs w → Lib.BuilderAt T e B b p bs w' := fun p ⟨h1, v, h2, h3, h4⟩ =>
    ⟨h1, v, (hb.block b (Array.getElem?_eq_some_iff.1 h2).1).trans h2, owns_same h3 (fun g e => hb.block g (owns_lt h3 e).2), h4⟩
  exact h.imp (key _) (key _)
theorem piece_len {l : List In} (hok : ∀ i ∈ l, i.Ok) (hl : l.length ≤ 1024) (k : Nat) (hk : k ≤ l.length) : (pieceP l.length l k).length ≤ 300 := by
  have hi := itoa_len (k : Int) (by unfold I64; omega)
  unfold pieceP
  rw [List.length_append]
  have h1 : (if markP l.length l k then plName k ++ [58, 10] else []).length ≤ 24 := by
    split
    · simp [plName]; omega
    · simp
  have h2 : (match l[k]? with | some i => lineP l.length i ++ [10] | none => []).length ≤ 250 := by
    cases hx : l[k]? with
    | none => simp
    | some i =>
      have := text_len i (hok i (List.mem_of_getElem? hx))
      simp only [List.length_append, List.length_singleton]
      unfold lineP
      split
      · rename_i hg
        unfold goesI at hg
        simp only [Bool.and_eq_true, decide_eq_true_eq] at hg
        have h3 := itoa_len (i.imm.toNat : Int) (by unfold I64; omega)
        simp only [List.length_append, List.length_take, plName, List.length_cons]
        omega
      · omega
  exact Nat.le_trans (Nat.add_le_add h1 h2) (by decide)
theorem print_len {l : List In} (hok : ∀ i ∈ l, i.Ok) (hl : l.length ≤ 1024) : ∀ k, k ≤ l.length + 1 → (printTo l.length l k).length ≤ 300 * k
  | 0, _ => by simp [printTo]
  | k + 1, hk => by
    rw [printTo_succ, List.length_append]
    have h1 := print_len hok hl k (by omega)
    have h2 := piece_len hok hl k (by omega)
    omega

/-- The two rows, and what they hold. -/
structure PrS (w : World) (a : Option Addr) (l : List In) (gl gn k : Nat) (W : World) : Prop where
  below : Below w.heap.size w W
  rows : ∃ xs ys, W.ownsRow w.heap.size 9 1 (.slice (some ⟨gl, 0, none⟩) l.length l.length) l.length xs ∧ W.ownsRow w.heap.size 4 1 (.slice (some ⟨gn, 0, none⟩) (l.length + 1) (l.length + 1)) (l.length + 1) ys ∧ PrA l k xs ys

set_option maxRecDepth 100000 in
set_option maxHeartbeats 4000000 in
theorem print_any (a : Option Addr) (cap : Nat) (l : List In) {w : World} (h : StdP w) (hr : RowsIn w a 5 In.cells l) (hok : ∀ i ∈ l, i.Ok) (hl : l.length ≤ 1024) : Calls Tryd.prog 6 #[.slice a l.length cap] w fun e w' => e = .returned (.tuple #[.string ⟨(printP l).toArray⟩, .int .i64 0]) ∧ Below w.heap.size w w' := by
  obtain ⟨i0, hi0, hi1, hi2, hi3⟩ := info_parts Tryd.infoStr
  have Hi := Lib.hid (And.intro hi0 (And.intro hi1 (And.intro hi2 hi3))); clear hi0 hi1 hi2 hi3
  obtain ⟨i1, hj0, hj1, hj2, hj3⟩ := info_parts Tryd.infoBool
  have Hj := Lib.hid (And.intro hj0 (And.intro hj1 (And.intro hj2 hj3))); clear hj0 hj1 hj2 hj3
  have H := Lib.hid h; clear h
  have Hr := Lib.hid hr; clear hr
  have Hok := Lib.hid hok; clear hok
  have d1 : decide (1024 < (l.length : Int)) = false := decide_eq_false (by omega)
  have hw1 : IntKind.i64.wrap ((l.length : Int) + 1) = (l.length : Int) + 1 := by rw [IntKind.wrap_i64]; omega
  go_enter Tryd.func6, Tryd.ntmps6
  go_upto_region 5 with (first
    | (at_make; refine wpList_make_full _ rfl _ _ 41 rfl w.heap.size 9 i0 _ 1 Tryd.underlying41 Hi.out.1 Hi.out.2.1 Hi.out.2.2.1 .i64 .i64 l.length l.length l.length rfl rfl rfl rfl (by rw [Hi.out.2.2.2]; omega) (by unfold maxLen; omega) (Nat.le_refl _) ?_; intro w2 ho2 hg2; have Ho2 := Lib.hid ho2; have Hb2 := Lib.hid ((Below.refl w.heap.size w).grown hg2 (Nat.le_refl _) (fun g e => by cases e)); have Hg2 := Lib.hid hg2; clear ho2 hg2)
    | (at_make; refine wpList_make_full _ rfl _ _ 42 rfl w.heap.size 4 i1 _ 1 Tryd.underlying42 Hj.out.1 Hj.out.2.1 Hj.out.2.2.1 .i64 .i64 (↑l.length + 1) (↑l.length + 1) (l.length + 1) rfl rfl (by simp) (by simp) (by rw [Hj.out.2.2.2]; omega) (by unfold maxLen; omega) Hb2.out.size ?_; intro w3 ho3 hg3; have Ho3 := Lib.hid ho3; have Hg3 := Lib.hid hg3; clear ho3 hg3))
  have ho23 := owns_same Ho2.out (w' := w3) (fun g e => Hg3.out.block g (owns_lt Ho2.out e).2 (fun e => by cases e))
  have hS : PrS w a l w.heap.size w2.heap.size 0 w3 := ⟨Hb2.out.grown Hg3.out Hb2.out.size (fun g e => by cases e), _, _, ho23, Ho3.out, ⟨fun j i hj => by omega, fun j hj => by
    rw [made_at (by omega) rfl]; simp [markP]⟩⟩
  have hgl : w.heap.size < w2.heap.size := (owns_lt Ho2.out (g := w.heap.size) rfl).2
  clear ho23 Ho2 Ho3 Hg2 Hg3 Hb2 Hi Hj
  have HS := Lib.hid hS; clear hS
  obtain ⟨gl, hgle⟩ : ∃ gl, w.heap.size = gl := ⟨_, rfl⟩
  rw [hgle] at HS hgl ⊢
  generalize w2.heap.size = gn at *
  go_wp2_with fail
  go_loopw [25] (fun i wr => ∃ k : Nat, k ≤ l.length ∧ i = .int .i64 k ∧ PrS w a l gl gn k wr) (fun i _ => l.length - (intOf i).toNat)
  case atStart => exact ⟨0, Nat.zero_le _, rfl, HS.out⟩
  case round =>
    obtain ⟨k, hk, rfl, hbw, xs, ys, hxs, hys, hA⟩ := hrel
    clear HS
    by_cases hlt : k < l.length
    · obtain ⟨x, hx⟩ : ∃ x, l[k]? = some x := ⟨l[k], List.getElem?_eq_getElem hlt⟩
      obtain ⟨q, c, rfl, hq, hr1⟩ := (Hr.out.below hbw).row hx
      have hxo := Hok.out x (List.mem_of_getElem? hx)
      have hkk : IntKind.i64.wrap ((k : Int) + 1) = (k : Int) + 1 := by rw [IntKind.wrap_i64]; omega
      have hki : (0 : Int) ≤ k ∧ (k : Int) < l.length := by omega
      have r0 := hr1 0 _ rfl
      have r1 := hr1 1 _ rfl
      have r2 := hr1 2 _ rfl
      have r3 := hr1 3 _ rfl
      have r4 := hr1 4 _ rfl
      rw [Nat.add_zero] at r0
      clear hr1
      have hbB : Below wr.heap.size wr (wr.alloc (.cells x.cells.toArray 44)) := (Below.refl _ wr).alloc (Nat.le_refl _) _
      have hqB : Holds (wr.alloc (.cells x.cells.toArray 44)) wr.heap.size 44 x.cells := Holds.new wr 44 x.cells
      have hxl : xs.length = l.length := by have := hxs.1; omega
      have hyl : ys.length = l.length + 1 := by have := hys.1; omega
      have htl := text_len x hxo
      have Hbw := Lib.hid hbw; clear hbw
      have Hxs := Lib.hid hxs; clear hxs
      have Hys := Lib.hid hys; clear hys
      have HA := Lib.hid (And.intro hA (And.intro hxl hyl)); clear hA hxl hyl
      have HX := Lib.hid (And.intro hx (And.intro hxo htl)); clear hx hxo htl
      obtain ⟨xo, xa, xb, xc, xi⟩ := x
      simp only [In.cells] at r0 r1 r2 r3 r4 hbB hqB
      have HbB := Lib.hid hbB; clear hbB
      have HqB := Lib.hid hqB; clear hqB
      have htx := text_any ⟨xo, xa, xb, xc, xi⟩ _ ((H.out.below Hbw.out).below HbB.out).forms HX.out.2.1 ((H.out.below Hbw.out).below HbB.out).tab
      have Htx := Lib.hid htx; clear htx
      simp only [In.val] at Htx
      go_wp2_with fail
      refine Htx.out.mono ?_
      rintro e w4 ⟨rfl, hb4⟩
      have hb4w : Below wr.heap.size wr w4 := HbB.out.trans (hb4.mono HbB.out.size)
      have hq4 := HqB.out.below hb4
      have hxs4 := owns_same Hxs.out (w' := w4) (fun g e => hb4w.block g (owns_lt Hxs.out e).2)
      have hys4 := owns_same Hys.out (w' := w4) (fun g e => hb4w.block g (owns_lt Hys.out e).2)
      have hglr : gl < wr.heap.size := (owns_lt Hxs.out (g := gl) rfl).2
      have hgnr : gn < wr.heap.size := (owns_lt Hys.out (g := gn) rfl).2
      obtain ⟨u0, hu0⟩ : ∃ u0, xs[k]? = some u0 := ⟨xs[k]'(by have := HA.out.2.1; omega), List.getElem?_eq_getElem _⟩
      obtain ⟨c40, f40⟩ := owns_cell hxs4 (g := gl) rfl hu0
      obtain ⟨tx, htx⟩ : ∃ tx, textP ⟨xo, xa, xb, xc, xi⟩ = tx := ⟨_, rfl⟩
      have htl := HX.out.2.2
      have hno1 := goesI_no1 (n := l.length) (i := ⟨xo, xa, xb, xc, xi⟩)
      have hno2 := goesI_no2 (n := l.length) (i := ⟨xo, xa, xb, xc, xi⟩)
      have hyes := goesI_yes (n := l.length) (i := ⟨xo, xa, xb, xc, xi⟩)
      rw [htx] at htl hno1 hno2 hyes ⊢
      simp only at hno2 hyes
      have Htl := Lib.hid htl; clear htl htx
      have Hno1 := Lib.hid hno1; clear hno1
      have Hno2 := Lib.hid hno2; clear hno2
      have Hyes := Lib.hid hyes; clear hyes
      have hgo := fun V => goes_any tx (by have := Htl.out; omega) V
      have Hgo := Lib.hid hgo; clear hgo
      -- behind the first store
      have hx5 := (hxs4.stored k (.string ⟨tx.toArray⟩)).1
      have hy5 := owns_same hys4 (w' := w4.setCell ⟨gl, k, none⟩ (.string ⟨tx.toArray⟩)) (fun g e => Below.heap_setCell w4 ⟨gl, k, none⟩ _ g (by cases e; simp only; omega))
      have hq5 := hq4.other (p := ⟨gl, k, none⟩) (show wr.heap.size ≠ gl by omega) (.string ⟨tx.toArray⟩)
      have hb5 : Below w.heap.size w (w4.setCell ⟨gl, k, none⟩ (.string ⟨tx.toArray⟩)) := (Hbw.out.trans (hb4w.mono Hbw.out.size)).setCell (p := ⟨gl, k, none⟩) (by simp only; omega) _
      have Hx5 := Lib.hid hx5; clear hx5 hxs4
      have Hy5 := Lib.hid hy5; clear hy5 hys4
      have Hq5 := Lib.hid hq5; clear hq5 hq4
      have Hb5 := Lib.hid hb5; clear hb5 hb4w hb4
      have Hg := Lib.hid (And.intro hglr hgnr); clear hglr hgnr
      have Hu0 := Lib.hid hu0; clear hu0
      cases hg : goesP tx with
      | false =>
        rw [hg] at Hgo
        have hln := Hno1.out hg
        clear hg
        go_wp2_with fail
        refine (Hgo.out _).mono ?_
        rintro e w6 ⟨rfl, hb6⟩
        have Hfin : Hid (PrS w (some ⟨q, c, none⟩) l gl gn (k + 1) w6) := Lib.hid ⟨Hb5.out.trans (hb6.mono Hb5.out.size), _, _, owns_same Hx5.out (fun g e => hb6.block g (owns_lt Hx5.out e).2), owns_same Hy5.out (fun g e => hb6.block g (owns_lt Hy5.out e).2), HA.out.1.next HA.out.2.1 HA.out.2.2 HX.out.1 (by rw [hln.2]) (.inl ⟨hln.1, rfl⟩)⟩
        clear hb6
        go_wp2_with fail
        go_roundw
        case rel => exact ⟨k + 1, by omega, by simp, Hfin.out⟩
        case measure => simp [intOf]; omega
      | true =>
        rw [hg] at Hgo
        have Hgt := Lib.hid hg; clear hg
        go_upto_region 9 with fail
        have c41 : (w4.setCell ⟨gl, k, none⟩ (.string ⟨tx.toArray⟩)).cell? ⟨gl, k, none⟩ = some (.string ⟨tx.toArray⟩) := (owns_cell Hx5.out (g := gl) rfl (by rw [List.getElem?_set_self (by have := HA.out.2.1; omega)])).1
        generalize w4.setCell ⟨gl, k, none⟩ (.string ⟨tx.toArray⟩) = w5 at *
        have Hc41 := Lib.hid c41
        by_cases h0 : 0 ≤ xi
        · obtain ⟨m, rfl⟩ : ∃ m : Nat, xi = m := ⟨xi.toNat, by omega⟩
          by_cases h1 : (m : Int) ≤ l.length
          · have d1 : decide ((m : Int) ≤ (l.length : Int)) = true := decide_eq_true h1
            have d1n : decide (m ≤ l.length) = true := decide_eq_true (by omega)
            have hln := Hyes.out Hgt.out h0 h1
            have hmi : (0 : Int) ≤ m ∧ (m : Int) < (l.length : Int) + 1 := by omega
            have Hln := Lib.hid hln; clear hln
            go_wp2_with fail
            refine (Hgo.out _).mono ?_
            rintro e w6 ⟨rfl, hb6⟩
            have hx6 := owns_same Hx5.out (w' := w6) (fun g e => hb6.block g (owns_lt Hx5.out e).2)
            have hy6 := owns_same Hy5.out (w' := w6) (fun g e => hb6.block g (owns_lt Hy5.out e).2)
            have hq6 := Hq5.out.below hb6
            have Hb6 := Lib.hid (Hb5.out.trans (hb6.mono Hb5.out.size))
            have k64 := hq6.cell (i := 4) rfl
            have c61 : w6.cell? ⟨gl, k, none⟩ = some (.string ⟨tx.toArray⟩) := (owns_cell hx6 (g := gl) rfl (by rw [List.getElem?_set_self (by have := HA.out.2.1; omega)])).1
            clear hb6
            have Hx6 := Lib.hid hx6; clear hx6
            have Hy6 := Lib.hid hy6; clear hy6
            have Hq6 := Lib.hid hq6; clear hq6
            go_wp2_with fail
            refine (lastw_any tx (by have := Htl.out; omega) w6).mono ?_
            rintro e w7 ⟨rfl, hb7⟩
            have hx7 := owns_same Hx6.out (w' := w7) (fun g e => hb7.block g (owns_lt Hx6.out e).2)
            have hy7 := owns_same Hy6.out (w' := w7) (fun g e => hb7.block g (owns_lt Hy6.out e).2)
            have hq7 := Hq6.out.below hb7
            have Hb7 := Lib.hid (Hb6.out.trans (hb7.mono Hb6.out.size))
            have k74 := hq7.cell (i := 4) rfl
            clear hb7 k64 c61
            have Hx7 := Lib.hid hx7; clear hx7
            have Hy7 := Lib.hid hy7; clear hy7
            have Hq7 := Lib.hid hq7; clear hq7
            have htk : (tx.take (lastP tx)).length ≤ 200 := by have := Htl.out; rw [List.length_take]; omega
            generalize tx.take (lastP tx) = ah at *
            generalize tx.drop (lastP tx) = wd at *
            have Htk := Lib.hid htk; clear htk
            have hmI : I64 (m : Int) := by unfold I64; omega
            have hno := nameof_any (m : Int) hmI (H.out.below Hb7.out)
            have hil := itoa_len (m : Int) hmI
            generalize Lib.itoa (m : Int) = it at *
            have Hno := Lib.hid hno; clear hno
            have Hil := Lib.hid hil; clear hil
            go_wp2_with fail
            refine Hno.out.mono ?_
            rintro e w8 ⟨rfl, hb8⟩
            have hx8 := owns_same Hx7.out (w' := w8) (fun g e => hb8.block g (owns_lt Hx7.out e).2)
            have hy8 := owns_same Hy7.out (w' := w8) (fun g e => hb8.block g (owns_lt Hy7.out e).2)
            have hq8 := Hq7.out.below hb8
            have Hb8 := Lib.hid (Hb7.out.trans (hb8.mono Hb7.out.size))
            have k84 := hq8.cell (i := 4) rfl
            obtain ⟨c80, f80⟩ := owns_cell hx8 (g := gl) rfl (u := .string ⟨tx.toArray⟩) (by rw [List.getElem?_set_self (by have := HA.out.2.1; omega)])
            obtain ⟨u1, hu1⟩ : ∃ u1, ys[m]? = some u1 := ⟨ys[m]'(by have := HA.out.2.2; omega), List.getElem?_eq_getElem _⟩
            obtain ⟨c81, f81⟩ := owns_cell hy8 (g := gn) rfl hu1
            have hxf := (hx8.stored k (.string ⟨(ah ++ (108 :: it)).toArray⟩)).1
            rw [List.set_set] at hxf
            have hyf0 := owns_same hy8 (w' := w8.setCell ⟨gl, k, none⟩ (.string ⟨(ah ++ (108 :: it)).toArray⟩)) (fun g e => Below.heap_setCell w8 ⟨gl, k, none⟩ _ g (by cases e; simp only; omega))
            have hyf := (hyf0.stored m (.bool true)).1
            have hxf2 := owns_same hxf (w' := (w8.setCell ⟨gl, k, none⟩ (.string ⟨(ah ++ (108 :: it)).toArray⟩)).setCell ⟨gn, m, none⟩ (.bool true)) (fun g e => Below.heap_setCell _ ⟨gn, m, none⟩ _ g (by cases e; simp only; omega))
            have hbf : Below w.heap.size w ((w8.setCell ⟨gl, k, none⟩ (.string ⟨(ah ++ (108 :: it)).toArray⟩)).setCell ⟨gn, m, none⟩ (.bool true)) := (Hb8.out.setCell (p := ⟨gl, k, none⟩) (by simp only; omega) _).setCell (p := ⟨gn, m, none⟩) (by simp only; omega) _
            have hqg : wr.heap.size ≠ gl := by have := Hg.out; omega
            have hng : gn ≠ gl := by omega
            have hqn : wr.heap.size ≠ gn := by have := Hg.out; omega
            have Hfin : Hid (PrS w (some ⟨q, c, none⟩) l gl gn (k + 1) ((w8.setCell ⟨gl, k, none⟩ (.string ⟨(ah ++ (108 :: it)).toArray⟩)).setCell ⟨gn, m, none⟩ (.bool true))) := Lib.hid ⟨hbf, _, _, hxf2, hyf, HA.out.1.next HA.out.2.1 HA.out.2.2 HX.out.1 (by rw [Hln.out.2]) (.inr ⟨Hln.out.1, h0, h1, by simp⟩)⟩
            clear hxf hyf0 hyf hxf2 hbf hb8 k74
            have Hx8 := Lib.hid hx8; clear hx8
            have Hy8 := Lib.hid hy8; clear hy8
            have Hq8 := Lib.hid hq8; clear hq8
            have Hu1 := Lib.hid hu1; clear hu1
            go_wp2_with (refine wpList_cat2 rfl _ _ _ _ rfl ah (108 :: it) rfl rfl (by have := Htk.out; omega) (by have := Hil.out; simp; omega) ?_)
            go_roundw
            case rel => exact ⟨k + 1, by omega, by simp, Hfin.out⟩
            case measure => simp [intOf]; omega
          · have d1 : decide ((m : Int) ≤ (l.length : Int)) = false := decide_eq_false h1
            have d1n : decide (m ≤ l.length) = false := decide_eq_false (by omega)
            have hln := Hno2.out (fun e => h1 e.2)
            go_upto_region 9 with fail
            go_wp2_with fail
            refine (Hgo.out _).mono ?_
            rintro e w6 ⟨rfl, hb6⟩
            have Hx6 := Lib.hid (owns_same Hx5.out (w' := w6) (fun g e => hb6.block g (owns_lt Hx5.out e).2))
            have Hy6 := Lib.hid (owns_same Hy5.out (w' := w6) (fun g e => hb6.block g (owns_lt Hy5.out e).2))
            have Hb6 := Lib.hid (Hb5.out.trans (hb6.mono Hb5.out.size))
            have k64 := (Hq5.out.below hb6).cell (i := 4) rfl
            clear hb6
            have Hfin : Hid (PrS w (some ⟨q, c, none⟩) l gl gn (k + 1) w6) := Lib.hid ⟨Hb6.out, _, _, Hx6.out, Hy6.out, HA.out.1.next HA.out.2.1 HA.out.2.2 HX.out.1 (by rw [hln.2]) (.inl ⟨hln.1, rfl⟩)⟩
            go_wp2_with fail
            go_roundw
            case rel => exact ⟨k + 1, by omega, by simp, Hfin.out⟩
            case measure => simp [intOf]; omega
        · have d0 : decide (0 ≤ xi) = false := decide_eq_false h0
          have hln := Hno2.out (fun e => h0 e.1)
          go_wp2_with fail
          refine (Hgo.out _).mono ?_
          rintro e w6 ⟨rfl, hb6⟩
          have Hx6 := Lib.hid (owns_same Hx5.out (w' := w6) (fun g e => hb6.block g (owns_lt Hx5.out e).2))
          have Hy6 := Lib.hid (owns_same Hy5.out (w' := w6) (fun g e => hb6.block g (owns_lt Hy5.out e).2))
          have Hb6 := Lib.hid (Hb5.out.trans (hb6.mono Hb5.out.size))
          have k64 := (Hq5.out.below hb6).cell (i := 4) rfl
          clear hb6
          have Hfin : Hid (PrS w (some ⟨q, c, none⟩) l gl gn (k + 1) w6) := Lib.hid ⟨Hb6.out, _, _, Hx6.out, Hy6.out, HA.out.1.next HA.out.2.1 HA.out.2.2 HX.out.1 (by rw [hln.2]) (.inl ⟨hln.1, rfl⟩)⟩
          go_wp2_with fail
          go_roundw
          case rel => exact ⟨k + 1, by omega, by simp, Hfin.out⟩
          case measure => simp [intOf]; omega
    · obtain rfl : k = l.length := by omega
      obtain ⟨hAl, hAm⟩ := hA
      rw [List.take_length] at hAm
      have hHB : Holds (wr.alloc (.cells #[.pointer none, .slice none 0 0] 51)) wr.heap.size 51 [.pointer none, .slice none 0 0] := Holds.new wr 51 [.pointer none, .slice none 0 0]
      have hbd : Lib.IsBuilder 51 5 wr.heap.size wr.heap.size (Lib.byteCells (printTo l.length l 0)) (wr.alloc (.cells #[.pointer none, .slice none 0 0] 51)) := .inl ⟨Nat.le_refl _, .slice none 0 0, hHB, World.ownsRow_nil _ _ _ _, by simp [Value.ownBlock]⟩
      have hbb : Below wr.heap.size wr (wr.alloc (.cells #[.pointer none, .slice none 0 0] 51)) := (Below.refl _ wr).alloc (Nat.le_refl _) _
      have hcl : ∀ (k : Nat) (i : In), l[k]? = some i → ∀ V, Below wr.heap.size wr V → V.cell? ⟨gl, k, none⟩ = some (.string ⟨(lineP l.length i).toArray⟩) := fun k i hi V hV =>
        (owns_cell (owns_same hxs (w' := V) (fun g e => hV.block g (owns_lt hxs e).2)) (g := gl) rfl (hAl k i (List.getElem?_eq_some_iff.1 hi).1 hi)).1
      have hcm : ∀ (k : Nat), k ≤ l.length → ∀ V, Below wr.heap.size wr V → V.cell? ⟨gn, k, none⟩ = some (.bool (markP l.length l k)) := fun k hk V hV =>
        (owns_cell (owns_same hys (w' := V) (fun g e => hV.block g (owns_lt hys e).2)) (g := gn) rfl (hAm k hk)).1
      have Hcl := Lib.hid hcl; clear hcl
      have Hcm := Lib.hid hcm; clear hcm
      have Hbw := Lib.hid hbw; clear hbw
      have Hbd := Lib.hid hbd; clear hbd
      have Hbb := Lib.hid hbb; clear hbb
      clear hxs hys hAl hAm hHB
      obtain ⟨b, hbe⟩ : ∃ b, wr.heap.size = b := ⟨_, rfl⟩
      go_wp2_with fail
      have hwb : w.heap.size ≤ wr.heap.size := Hbw.out.size
      obtain ⟨wq, hwq⟩ : ∃ wq, wr = wq := ⟨_, rfl⟩
      rw [hbe] at Hbd Hbb Hcl Hcm hwb
      rw [hwq] at hbe Hbw Hcl Hcm Hbb Hbd ⊢
      clear hwq
      go_loopw [75] (fun i wr => ∃ k2 : Nat, k2 ≤ l.length + 1 ∧ i = .int .i64 k2 ∧ Lib.IsBuilder 51 5 b b (Lib.byteCells (printTo l.length l k2)) wr ∧ Below b wq wr) (fun i _ => l.length + 1 - (intOf i).toNat)
      case atStart => exact ⟨0, Nat.zero_le _, rfl, Hbd.out, Hbb.out⟩
      case round =>
        obtain ⟨k2, hk2, rfl, hbd2, hbb2⟩ := hrel
        clear Hbd Hbb
        have hlen := print_len Hok.out hl k2 hk2
        have Hbd2 := Lib.hid hbd2; clear hbd2
        have Hbb2 := Lib.hid hbb2; clear hbb2
        by_cases hlt : k2 ≤ l.length
        · have hlen2 : (printTo l.length l k2).length ≤ 400000 := by omega
          have Hlen := Lib.hid hlen2; clear hlen2 hlen
          have hkk : IntKind.i64.wrap ((k2 : Int) + 1) = (k2 : Int) + 1 := by rw [IntKind.wrap_i64]; omega
          have dk : decide ((k2 : Int) < (l.length : Int) + 1) = true := decide_eq_true (by omega)
          have hki : (0 : Int) ≤ k2 ∧ (k2 : Int) < (l.length : Int) + 1 := by omega
          have Hll := Lib.hid (show ∀ i ∈ l, (lineP l.length i).length ≤ 300 from fun i hi => by
            obtain ⟨j, hj, rfl⟩ := List.mem_iff_getElem.1 hi
            have := piece_len Hok.out hl j (by omega)
            unfold pieceP at this
            rw [List.getElem?_eq_getElem hj] at this
            simp only [List.length_append] at this
            omega)
          have HbW := Lib.hid (show ∀ V, Below b wq V → Below w.heap.size w V from fun V hV => Hbw.out.trans (hV.mono hwb))
          cases hm : markP l.length l k2 with
          | true =>
            cases hx : l[k2]? with
            | some i =>
              have hlt2 : k2 < l.length := (List.getElem?_eq_some_iff.1 hx).1
              have dn : decide ((k2 : Int) < (l.length : Int)) = true := decide_eq_true (by omega)
              have hki2 : (0 : Int) ≤ k2 ∧ (k2 : Int) < (l.length : Int) := by omega
              have c1 := Hcm.out k2 (by omega) wr Hbb2.out
              rw [hm] at c1
              have hpc : pieceP l.length l k2 = plName k2 ++ [58, 10] ++ (lineP l.length i ++ [10]) := by unfold pieceP; rw [hm, hx]; rfl
              have hsc := printTo_succ l.length l k2
              rw [hpc] at hsc
              clear hpc hm
              have hll : (lineP l.length i).length ≤ 300 := Hll.out i (List.mem_of_getElem? hx)
              have Hcl2 := Lib.hid (Hcl.out k2 i hx); clear hx
              generalize lineP l.length i = ln at *
              generalize printTo l.length l k2 = acc at *
              have Hsc := Lib.hid hsc; clear hsc
              have hno := nameof_any (k2 : Int) (by unfold I64; omega) (H.out.below (HbW.out _ Hbb2.out))
              have hil := itoa_len (k2 : Int) (by unfold I64; omega)
              rw [plName_pos] at Hsc
              obtain ⟨nm, hnm⟩ : ∃ nm, 108 :: Lib.itoa (k2 : Int) = nm := ⟨_, rfl⟩
              have Hnm := Lib.hid (And.intro hnm (show nm.length ≤ 22 by rw [← hnm]; simp; omega))
              rw [hnm] at hno Hsc
              clear hnm hil
              have Hno := Lib.hid hno; clear hno
              go_wp2_with fail
              refine Hno.out.mono ?_
              rintro e w5 ⟨rfl, hb5⟩
              have hbd5 := builder_below Hbd2.out hb5
              have Hbb5 := Lib.hid (Hbb2.out.trans (hb5.mono (by have := Hbb2.out.size; omega)))
              have hs5 := Hbb5.out.size
              clear hb5
              have hws := Tryd.Builder_WriteString b b _ ⟨((nm ++ [58]) ++ [10]).toArray⟩ w5 hbd5 (by have := Hlen.out; have := Hnm.out.2; simp [Lib.byteCells, ByteArray.size]; omega) (by omega)
              have Hws := Lib.hid hws; clear hws hbd5
              go_wp2_with (refine wpList_cat2 rfl _ _ (.tmp 82) (.const (.string ⟨#[58]⟩)) rfl nm [58] rfl rfl (by have := Hnm.out.2; omega) (by simp) ?_; refine Hid.out ?_)
              refine Lib.hid ?_
              generalize hnm2 : nm ++ [58] = nm2 at *
              go_wp2_with (refine wpList_cat2 rfl _ _ (.tmp 83) (.const (.string ⟨#[10]⟩)) rfl nm2 [10] rfl rfl (by rw [← hnm2]; have := Hnm.out.2; simp; omega) (by simp) ?_; refine Hid.out ?_)
              refine Lib.hid ?_
              generalize hnm3 : nm2 ++ [10] = nm3 at *
              have Hnm3 := Lib.hid (And.intro hnm2 hnm3); clear hnm2 hnm3
              go_wp2_with fail
              refine Hws.out.mono ?_
              rintro e w6 ⟨rfl, hbd6, hb6⟩
              have Hbb6 := Lib.hid (Hbb5.out.trans hb6)
              have hbd6' : Lib.IsBuilder 51 5 b b (Lib.byteCells (acc ++ (nm ++ [58, 10]))) w6 := by
                have e1 : Lib.byteCells (acc ++ (nm ++ [58, 10])) = Lib.byteCells acc ++ Lib.strCells ⟨nm3.toArray⟩ := by rw [← Hnm3.out.2, ← Hnm3.out.1]; simp [Lib.byteCells, Lib.strCells]
                rw [e1]; exact .inr hbd6
              have Hbd6 := Lib.hid hbd6'; clear hbd6' hbd6 hb6
              have c2 := Hcl2.out w6 Hbb6.out
              have hs7 := Hbb6.out.size
              have hws2 := Tryd.Builder_WriteString b b _ ⟨(ln ++ [10]).toArray⟩ w6 Hbd6.out (by have := Hlen.out; have := hll; have := Hnm.out.2; simp [Lib.byteCells, ByteArray.size]; omega) (by omega)
              have Hws2 := Lib.hid hws2; clear hws2
              go_wp2_with (refine wpList_cat2 rfl _ _ _ _ rfl ln [10] rfl rfl (by omega) (by simp) ?_)
              refine Hws2.out.mono ?_
              rintro e w8 ⟨rfl, hbd8, hb8⟩
              have Hbb8 := Lib.hid (Hbb6.out.trans hb8)
              have hbd8' : Lib.IsBuilder 51 5 b b (Lib.byteCells ((acc ++ (nm ++ [58, 10])) ++ (ln ++ [10]))) w8 := by
                have e1 : Lib.byteCells ((acc ++ (nm ++ [58, 10])) ++ (ln ++ [10])) = Lib.byteCells (acc ++ (nm ++ [58, 10])) ++ Lib.strCells ⟨(ln ++ [10]).toArray⟩ := by simp [Lib.byteCells, Lib.strCells]
                rw [e1]; exact .inr hbd8
              have Hbd8 := Lib.hid hbd8'; clear hbd8' hbd8 hb8
              go_wp2_with fail
              go_roundw
              case rel => exact ⟨k2 + 1, by omega, by simp, by rw [Hsc.out]; simpa using Hbd8.out, Hbb8.out⟩
              case measure => simp [intOf]; omega
            | none =>
              have hlt2 : ¬ k2 < l.length := fun h => by rw [List.getElem?_eq_getElem h] at hx; cases hx
              have dn : decide ((k2 : Int) < (l.length : Int)) = false := decide_eq_false (by omega)
              have c1 := Hcm.out k2 (by omega) wr Hbb2.out
              rw [hm] at c1
              have hpc : pieceP l.length l k2 = plName k2 ++ [58, 10] ++ [] := by unfold pieceP; rw [hm, hx]; rfl
              have hsc := printTo_succ l.length l k2
              rw [hpc] at hsc
              clear hpc hm
              clear hx
              generalize printTo l.length l k2 = acc at *
              have Hsc := Lib.hid hsc; clear hsc
              have hno := nameof_any (k2 : Int) (by unfold I64; omega) (H.out.below (HbW.out _ Hbb2.out))
              have hil := itoa_len (k2 : Int) (by unfold I64; omega)
              rw [plName_pos] at Hsc
              obtain ⟨nm, hnm⟩ : ∃ nm, 108 :: Lib.itoa (k2 : Int) = nm := ⟨_, rfl⟩
              have Hnm := Lib.hid (And.intro hnm (show nm.length ≤ 22 by rw [← hnm]; simp; omega))
              rw [hnm] at hno Hsc
              clear hnm hil
              have Hno := Lib.hid hno; clear hno
              go_wp2_with fail
              refine Hno.out.mono ?_
              rintro e w5 ⟨rfl, hb5⟩
              have hbd5 := builder_below Hbd2.out hb5
              have Hbb5 := Lib.hid (Hbb2.out.trans (hb5.mono (by have := Hbb2.out.size; omega)))
              have hs5 := Hbb5.out.size
              clear hb5
              have hws := Tryd.Builder_WriteString b b _ ⟨((nm ++ [58]) ++ [10]).toArray⟩ w5 hbd5 (by have := Hlen.out; have := Hnm.out.2; simp [Lib.byteCells, ByteArray.size]; omega) (by omega)
              have Hws := Lib.hid hws; clear hws hbd5
              go_wp2_with (refine wpList_cat2 rfl _ _ (.tmp 82) (.const (.string ⟨#[58]⟩)) rfl nm [58] rfl rfl (by have := Hnm.out.2; omega) (by simp) ?_; refine Hid.out ?_)
              refine Lib.hid ?_
              generalize hnm2 : nm ++ [58] = nm2 at *
              go_wp2_with (refine wpList_cat2 rfl _ _ (.tmp 83) (.const (.string ⟨#[10]⟩)) rfl nm2 [10] rfl rfl (by rw [← hnm2]; have := Hnm.out.2; simp; omega) (by simp) ?_; refine Hid.out ?_)
              refine Lib.hid ?_
              generalize hnm3 : nm2 ++ [10] = nm3 at *
              have Hnm3 := Lib.hid (And.intro hnm2 hnm3); clear hnm2 hnm3
              go_wp2_with fail
              refine Hws.out.mono ?_
              rintro e w6 ⟨rfl, hbd6, hb6⟩
              have Hbb6 := Lib.hid (Hbb5.out.trans hb6)
              have hbd6' : Lib.IsBuilder 51 5 b b (Lib.byteCells (acc ++ (nm ++ [58, 10]))) w6 := by
                have e1 : Lib.byteCells (acc ++ (nm ++ [58, 10])) = Lib.byteCells acc ++ Lib.strCells ⟨nm3.toArray⟩ := by rw [← Hnm3.out.2, ← Hnm3.out.1]; simp [Lib.byteCells, Lib.strCells]
                rw [e1]; exact .inr hbd6
              have Hbd6 := Lib.hid hbd6'; clear hbd6' hbd6 hb6
              go_wp2_with fail
              go_roundw
              case rel => exact ⟨k2 + 1, by omega, by simp, by rw [Hsc.out]; simpa using Hbd6.out, Hbb6.out⟩
              case measure => simp [intOf]; omega
          | false =>
            cases hx : l[k2]? with
            | some i =>
              have hlt2 : k2 < l.length := (List.getElem?_eq_some_iff.1 hx).1
              have dn : decide ((k2 : Int) < (l.length : Int)) = true := decide_eq_true (by omega)
              have hki2 : (0 : Int) ≤ k2 ∧ (k2 : Int) < (l.length : Int) := by omega
              have c1 := Hcm.out k2 (by omega) wr Hbb2.out
              rw [hm] at c1
              have hpc : pieceP l.length l k2 = [] ++ (lineP l.length i ++ [10]) := by unfold pieceP; rw [hm, hx]; rfl
              have hsc := printTo_succ l.length l k2
              rw [hpc] at hsc
              clear hpc hm
              have hll : (lineP l.length i).length ≤ 300 := Hll.out i (List.mem_of_getElem? hx)
              have Hcl2 := Lib.hid (Hcl.out k2 i hx); clear hx
              generalize lineP l.length i = ln at *
              generalize printTo l.length l k2 = acc at *
              have Hsc := Lib.hid hsc; clear hsc
              have c2 := Hcl2.out wr Hbb2.out
              have hs7 := Hbb2.out.size
              have hws2 := Tryd.Builder_WriteString b b _ ⟨(ln ++ [10]).toArray⟩ wr Hbd2.out (by have := Hlen.out; have := hll; simp [Lib.byteCells, ByteArray.size]; omega) (by omega)
              have Hws2 := Lib.hid hws2; clear hws2
              go_wp2_with (refine wpList_cat2 rfl _ _ _ _ rfl ln [10] rfl rfl (by omega) (by simp) ?_)
              refine Hws2.out.mono ?_
              rintro e w8 ⟨rfl, hbd8, hb8⟩
              have Hbb8 := Lib.hid (Hbb2.out.trans hb8)
              have hbd8' : Lib.IsBuilder 51 5 b b (Lib.byteCells (acc ++ (ln ++ [10]))) w8 := by
                have e1 : Lib.byteCells (acc ++ (ln ++ [10])) = Lib.byteCells acc ++ Lib.strCells ⟨(ln ++ [10]).toArray⟩ := by simp [Lib.byteCells, Lib.strCells]
                rw [e1]; exact .inr hbd8
              have Hbd8 := Lib.hid hbd8'; clear hbd8' hbd8 hb8
              go_wp2_with fail
              go_roundw
              case rel => exact ⟨k2 + 1, by omega, by simp, by rw [Hsc.out]; simpa using Hbd8.out, Hbb8.out⟩
              case measure => simp [intOf]; omega
            | none =>
              have hlt2 : ¬ k2 < l.length := fun h => by rw [List.getElem?_eq_getElem h] at hx; cases hx
              have dn : decide ((k2 : Int) < (l.length : Int)) = false := decide_eq_false (by omega)
              have c1 := Hcm.out k2 (by omega) wr Hbb2.out
              rw [hm] at c1
              have hpc : pieceP l.length l k2 = [] ++ [] := by unfold pieceP; rw [hm, hx]; rfl
              have hsc := printTo_succ l.length l k2
              rw [hpc] at hsc
              clear hpc hm
              clear hx
              generalize printTo l.length l k2 = acc at *
              have Hsc := Lib.hid hsc; clear hsc
              go_wp2_with fail
              go_roundw
              case rel => exact ⟨k2 + 1, by omega, by simp, by rw [Hsc.out]; simpa using Hbd2.out, Hbb2.out⟩
              case measure => simp [intOf]; omega
        · obtain rfl : k2 = l.length + 1 := by omega
          have dk : decide (((l.length + 1 : Nat) : Int) < (l.length : Int) + 1) = false := decide_eq_false (by omega)
          have hs9 := Hbb2.out.size
          have hst := Tryd.Builder_String_any b b (printTo l.length l (l.length + 1)) wr Hbd2.out (by omega)
          have Hst := Lib.hid hst; clear hst hlen
          have HbW := Lib.hid (Hbw.out.trans (Hbb2.out.mono hwb))
          go_wp2_with fail
          refine Hst.out.mono ?_
          rintro e w9 ⟨rfl, hb9⟩
          have Hf := Lib.hid (HbW.out.trans (hb9.mono hwb)); clear hb9
          go_wp2_with fail
          exact bodyPost_ret (results_tmp2 rfl _ _ _) rfl ⟨rfl, Hf.out⟩

end Go.Proofs.YtndmlnoddnaafaaDoor
