/- All and Copy of package mem: all lines, in new memory; a memory of its own with the same words. Conditions: those stated in each theorem. -/
import Derived.Test.YtjebkbpljbohcaaWh
import Derived.Shelf.Abstract
import Derived.Shelf.RegionOpen
namespace Go.Proofs.Ytjebkbpljbohcaa
open Go.RowKit Go.Shelf
attribute [local go_sem] Oper.semAt_some

theorem each1_stops (m Bs n₀ p b n : Nat) (xs : List Int) (hm1 : 1 ≤ m) (hn : n ≤ 64) (hp : p < n₀) (hb : b < n₀) (w : World) (hw : n₀ ≤ w.heap.size)
    (hBs : w.cell? ⟨Bs, 0, none⟩ = some (.pointer (some ⟨p, 0, none⟩))) (hmem : MemAt w p b n xs) :
    SeqStopsK Fence.wide m Try.prog 25 #[.pointer (some ⟨Bs, 0, none⟩)] (fun k : Nat => #[lineAt xs k]) (Below n₀) (fun ks => ks = List.range n) (fun _ => True) n w :=
  fun l J Jx W hW hJ _ hY h0 => each1_in m l Bs n₀ p b n xs hm1 hn hp hb J Jx W (Nat.le_trans hw hW.size) hJ hY ((hW.cell (World.block_lt_of_cell? _ _ hBs)).trans hBs) (hmem.below hW (by omega) (by omega)) h0

def lineCells (xs : List Int) (k : Nat) : List Value := [.int .u64 (xs.getD (k * 8) 0), .int .u64 (xs.getD (k * 8 + 1) 0), .int .u64 (xs.getD (k * 8 + 2) 0), .int .u64 (xs.getD (k * 8 + 3) 0), .int .u64 (xs.getD (k * 8 + 4) 0), .int .u64 (xs.getD (k * 8 + 5) 0), .int .u64 (xs.getD (k * 8 + 6) 0), .int .u64 (xs.getD (k * 8 + 7) 0)]

/-- Between two rounds of All: the box of 'all' at B, its row in block g. -/
structure AllI (xs : List Int) (n n₀ B g : Nat) (w : World) (pre : List Nat) (W : World) : Prop where
  box : Boxed W B 50 (.slice (some ⟨g, 0, none⟩) pre.length n)
  row : W.ownsRow n₀ 34 8 (.slice (some ⟨g, 0, none⟩) pre.length n) pre.length (pre.flatMap (lineCells xs))
  bel : Below n₀ w W

theorem cells8 (W : World) (y0 y1 y2 y3 y4 y5 y6 y7 : Int) : ∀ j u, [Value.int .u64 y0, Value.int .u64 y1, Value.int .u64 y2, Value.int .u64 y3, Value.int .u64 y4, Value.int .u64 y5, Value.int .u64 y6, Value.int .u64 y7][j]? = some u → (W.alloc (.cells #[.int .u64 y0, .int .u64 y1, .int .u64 y2, .int .u64 y3, .int .u64 y4, .int .u64 y5, .int .u64 y6, .int .u64 y7] 34)).cell? ((⟨W.heap.size, 0, none⟩ : Addr).add j) = some u := by
  intro j u h
  rw [show (⟨W.heap.size, 0, none⟩ : Addr).add j = ⟨W.heap.size, j, none⟩ from by unfold Addr.add; split <;> simp_all]
  simpa using h

theorem madeCells_zero (z : Array Value) : (madeCells z 0).toList = [] := by simp [madeCells]

set_option maxRecDepth 100000 in
set_option maxHeartbeats 2000000 in
theorem all_in (p b n : Nat) (xs : List Int) (w : World) (h : MemAt w p b n xs) (hn : n ≤ 64) :
    CallsIn Fence.wide 4 Try.prog 18 #[.pointer (some ⟨p, 0, none⟩)] w fun e w' => ∃ g, e = .returned (.slice (some ⟨g, 0, none⟩) n n) ∧ w'.ownsRow w.heap.size 34 8 (.slice (some ⟨g, 0, none⟩) n n) n ((List.range n).flatMap (lineCells xs)) ∧ Below w.heap.size w w' := by
  obtain ⟨i0, hi, hz0, hz1, hz2⟩ := info_parts Try.info34
  have hb : i0.bytes * n ≤ 281474976710656 := by rw [hz2]; omega
  have hmx : n ≤ maxLen := by unfold maxLen; omega
  have hc := h.head
  have hlp := World.block_lt_of_cell? _ _ hc
  have hlb := lt_of_block h.row
  have HI := Lib.hid hi; clear hi
  have HZ0 := Lib.hid hz0; clear hz0
  have HZ1 := Lib.hid hz1; clear hz1
  have HZ2 := Lib.hid hz2; clear hz2
  have H := Lib.hid h; clear h
  refine callsIn_of_wp_marks Try.func18 rfl trivial ?_ rfl
  simp only [Try.ntmps18, List.size_toArray, List.length_cons, List.length_nil, Nat.reduceAdd, Nat.reduceSub, Array.replicate_succ, Array.replicate_zero, List.push_toArray, List.append_toArray, List.nil_append, List.cons_append]
  gi_wp2_with (first | (gi_at_make; refine wpListIn_make_own _ rfl _ _ 50 rfl w.heap.size 34 i0 _ 8 Try.underlying50 HI.out HZ0.out HZ1.out .i64 .i64 n n rfl rfl rfl hb hmx (Nat.le_refl _) ?_; intro w1 hown hg) | (refine ⟨trivial, ?_⟩; gi_at_call 24; refine (callsIn_wide.2 (each_any p _)).mono ?_; rintro e w2 ⟨rfl, rfl⟩))
  have hB1 : Below w.heap.size w w1 := (Below.refl _ _).grown hg (Nat.le_refl _) (by simp)
  have hgl : w.heap.size < w1.heap.size := by
    obtain ⟨_, h | ⟨g', _, _, h, _, h2, _⟩⟩ := hown
    · cases h.1
    · simp only [Value.slice.injEq, Option.some.injEq, Addr.mk.injEq, and_true] at h
      rw [h.1]; exact lt_of_block h2
  have hBW := (hB1.alloc hB1.size (.cells #[.slice (some ⟨w.heap.size, 0, none⟩) 0 n] 50)).alloc (by simp; have := hB1.size; omega) (.cells #[.pointer (some ⟨p, 0, none⟩)] 23)
  have hbs := Boxed.new (w1.alloc (.cells #[.slice (some ⟨w.heap.size, 0, none⟩) 0 n] 50)) 23 (.pointer (some ⟨p, 0, none⟩))
  have hbx := (Boxed.new w1 50 (.slice (some ⟨w.heap.size, 0, none⟩) 0 n)).alloc (.cells #[.pointer (some ⟨p, 0, none⟩)] 23)
  have hrw := (hown.alloc (.cells #[.slice (some ⟨w.heap.size, 0, none⟩) 0 n] 50)).alloc (.cells #[.pointer (some ⟨p, 0, none⟩)] 23)
  have hsz : ((w1.alloc (.cells #[.slice (some ⟨w.heap.size, 0, none⟩) 0 n] 50)).alloc (.cells #[.pointer (some ⟨p, 0, none⟩)] 23)).heap.size = w1.heap.size + 2 := by simp
  simp only [World.size_alloc] at hbs
  generalize (w1.alloc (.cells #[.slice (some ⟨w.heap.size, 0, none⟩) 0 n] 50)).alloc (.cells #[.pointer (some ⟨p, 0, none⟩)] 23) = W0 at *
  clear hown hg hc
  have hpos : W0.heap.size = w1.heap.size + 2 := hsz
  have h1s := hB1.size
  refine wpIn_rangeFunc_ownH rfl (by omega) (gf := 25) (lb := #[.pointer (some ⟨w1.heap.size + 1, 0, none⟩)]) rfl trivial (enters_of Try.func25 (by kernel_rfl) rfl)
    (each1_stops 3 (w1.heap.size + 1) w.heap.size p b n xs (by omega) hn hlp hlb W0 hBW.size hbs.cell (H.out.below hBW hlp hlb)) belowK_t (belowK_b (by omega)) (Below.refl _ _) (fun _ => rfl)
    (AllI xs n w.heap.size w1.heap.size w.heap.size w) (fun _ _ _ => False) ?hI (fun _ _ _ _ _ hs _ _ => hs) ⟨hbx, hrw, hBW⟩
    (fun x a' W => ∃ Bx, w1.heap.size < Bx ∧ W.heap[Bx]? = some (.cells (lineCells xs x).toArray 34 (0, 0)) ∧ a' = { tmps := #[.pointer (some ⟨p, 0, none⟩), undef, .slice none 0 0, .pointer (some ⟨w1.heap.size, 0, none⟩), .pointer (some ⟨Bx, 0, none⟩), .pointer (some ⟨p, 0, none⟩), .bool false, .pointer (some ⟨p, 0, none⟩), .pointer (some ⟨p, 0, none⟩), .pointer (some ⟨p, 0, none⟩), .slice (some ⟨b, 0, none⟩) n n, .int .i64 n, .slice (some ⟨w.heap.size, 0, none⟩) 0 n, .pointer (some ⟨p, 0, none⟩), .func (.func 25) #[] #[.pointer (some ⟨w1.heap.size + 1, 0, none⟩)], lineAt xs x, undef, undef, undef, undef, undef], defers := [] }) ?hAx ?assign ?body ?done ?stop
  case hI =>
    intro s A B row hs hg hr
    have hr' : ∀ r, row = some r → ∃ o : Obj, A.heap[r]? = some o ∧ o.isCells = false := fun r e => (hr r e).2
    refine ⟨boxed_own _ _ (fun _ : Unit => _) () A B row hs.box hg hr', hs.row.kept hg ?_, ?_⟩
    · refine Or.inr fun e => ?_
      obtain ⟨o, ho, hco⟩ := hr' _ e.symm
      obtain ⟨_, h | ⟨g', _, _, h, _, h2, _⟩⟩ := hs.row
      · cases h.1
      · simp only [Value.slice.injEq, Option.some.injEq, Addr.mk.injEq, and_true] at h
        rw [← h.1] at h2; rw [h2] at ho; cases ho; cases hco
    · exact ownFrom_below (Nat.le_refl _) (by omega) () A B row hs.bel hg hr
  case hAx =>
    rintro x a' _ A B row ⟨Bx, hx, hr, rfl⟩ hg hrow
    refine ⟨Bx, hx, ?_, rfl⟩
    rw [grownBy_keeps_cells hg (fun r e => (hrow r e).2) hr rfl]; exact hr
  case assign =>
    rintro l pre x W K hi hK
    unfold lineAt at *
    gi_wp2
    exact hK _ _ ((KeepsOthers.alloc _ _).from _) ((Below.refl _ W).alloc hi.bel.size _) ⟨hi.box.alloc _, hi.row.alloc _, hi.bel.alloc hi.bel.size _⟩ ⟨W.heap.size, hi.box.lt, World.alloc_heap_new W _, rfl⟩
  case body =>
    rintro l pre x a' W hl ⟨r, hr⟩ hi ⟨Bx, hBx, hX, rfl⟩ hlt
    have hL : Hid (lineCells xs x = [.int .u64 (xs.getD (x * 8) 0), .int .u64 (xs.getD (x * 8 + 1) 0), .int .u64 (xs.getD (x * 8 + 2) 0), .int .u64 (xs.getD (x * 8 + 3) 0), .int .u64 (xs.getD (x * 8 + 4) 0), .int .u64 (xs.getD (x * 8 + 5) 0), .int .u64 (xs.getD (x * 8 + 6) 0), .int .u64 (xs.getD (x * 8 + 7) 0)]) := rfl
    have q0 : W.cell? ⟨Bx, 0, none⟩ = some (.int .u64 (xs.getD (x * 8) 0)) := by simp [World.cell?, hX, lineCells]
    have q1 : W.cell? ⟨Bx, 1, none⟩ = some (.int .u64 (xs.getD (x * 8 + 1) 0)) := by simp [World.cell?, hX, lineCells]
    have q2 : W.cell? ⟨Bx, 2, none⟩ = some (.int .u64 (xs.getD (x * 8 + 2) 0)) := by simp [World.cell?, hX, lineCells]
    have q3 : W.cell? ⟨Bx, 3, none⟩ = some (.int .u64 (xs.getD (x * 8 + 3) 0)) := by simp [World.cell?, hX, lineCells]
    have q4 : W.cell? ⟨Bx, 4, none⟩ = some (.int .u64 (xs.getD (x * 8 + 4) 0)) := by simp [World.cell?, hX, lineCells]
    have q5 : W.cell? ⟨Bx, 5, none⟩ = some (.int .u64 (xs.getD (x * 8 + 5) 0)) := by simp [World.cell?, hX, lineCells]
    have q6 : W.cell? ⟨Bx, 6, none⟩ = some (.int .u64 (xs.getD (x * 8 + 6) 0)) := by simp [World.cell?, hX, lineCells]
    have q7 : W.cell? ⟨Bx, 7, none⟩ = some (.int .u64 (xs.getD (x * 8 + 7) 0)) := by simp [World.cell?, hX, lineCells]
    clear hX
    unfold lineAt
    generalize xs.getD (x * 8) 0 = y0 at *
    generalize xs.getD (x * 8 + 1) 0 = y1 at *
    generalize xs.getD (x * 8 + 2) 0 = y2 at *
    generalize xs.getD (x * 8 + 3) 0 = y3 at *
    generalize xs.getD (x * 8 + 4) 0 = y4 at *
    generalize xs.getD (x * 8 + 5) 0 = y5 at *
    generalize xs.getD (x * 8 + 6) 0 = y6 at *
    generalize xs.getD (x * 8 + 7) 0 = y7 at *
    have hbc := hi.box.cell
    have hi := Lib.hid hi
    gi_wp2_with (gi_at_builtin; refine wpListIn_append_fits _ rfl _ _ 50 rfl w.heap.size 34 i0 8 Try.underlying50 HI.out HZ1.out w.heap.size pre.length n _ rfl (hi.out.row.alloc _) ⟨W.heap.size, 0, none⟩ 1 1 [.int .u64 y0, .int .u64 y1, .int .u64 y2, .int .u64 y3, .int .u64 y4, .int .u64 y5, .int .u64 y6, .int .u64 y7] rfl rfl (cells8 _ _ _ _ _ _ _ _ _) (by simp [Value.oneCell']) hlt ?_; intro w5 hown5 hgrow5; have hv5 := (hi.out.box.alloc (.cells #[.int .u64 y0, .int .u64 y1, .int .u64 y2, .int .u64 y3, .int .u64 y4, .int .u64 y5, .int .u64 y6, .int .u64 y7] 34)).kept hgrow5 (by simp; omega); have hc5 := hv5.cell; have hf5 := hv5.frozen)
    have hKo : KeepsOthers W w5 := (KeepsOthers.alloc W _).trans (KeepsOthers.of_grownBy hgrow5 (fun j o e ho => by
      cases e
      obtain ⟨_, h | ⟨g', _, _, h, _, h2, _⟩⟩ := hi.out.row.alloc (.cells #[.int .u64 y0, .int .u64 y1, .int .u64 y2, .int .u64 y3, .int .u64 y4, .int .u64 y5, .int .u64 y6, .int .u64 y7] 34)
      · cases h.1
      · simp only [Value.slice.injEq, Option.some.injEq, Addr.mk.injEq, and_true] at h
        rw [← h.1] at h2; rw [h2] at ho; cases ho; rfl))
    have hB5 : Below w.heap.size W w5 := ((Below.refl _ W).alloc hi.out.bel.size _).grown hgrow5 (by have := hi.out.bel.size; simp; omega) (fun k e => by cases e; exact Nat.le_refl _)
    refine ⟨(hKo.trans (KeepsOthers.setCell _ _ _)).from _, hB5.setCell h1s _, ?_, ?_, ?_⟩
    · simpa using hv5.set _
    · have := ownsRow_setCell_other hown5 (a := ⟨w1.heap.size, 0, none⟩) (by simp [Value.ownBlock]; omega) (.slice (some ⟨w.heap.size, 0, none⟩) (pre.length + 1) n)
      simpa [hL.out] using this
    · exact (hi.out.bel.trans hB5).setCell h1s _
  case done =>
    rintro D ys W hD rfl hi hK
    have hbc := hi.box.cell
    have hi := Lib.hid hi
    gi_wp2
    refine ⟨by simp, .inl ⟨_, _, rfl, run_takeDeferred hK, ?_⟩⟩
    refine ⟨_, results_tmp rfl _ _ _, w.heap.size, ?_, ?_, ?_⟩
    · simp
    · have := ownsRow_putObj hi.out.row (.deferred none) hK rfl
      simpa using this
    · exact hi.out.bel.trans (belowK_b (w := W0) (by omega) W D _ _ hD hK rfl rfl)
  case stop =>
    rintro D c pre W _ _ h _
    exact h.elim

end Go.Proofs.Ytjebkbpljbohcaa
