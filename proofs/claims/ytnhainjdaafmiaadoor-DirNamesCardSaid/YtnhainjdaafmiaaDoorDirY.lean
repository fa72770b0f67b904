/- The directory: New; its small calls; calls on none. Conditions: those stated in each theorem. -/
import Derived.Test.YtnhainjdaafmiaaDoorDirX
namespace Go.Proofs.YtnhainjdaafmiaaDoor
open Go.RowKit Go.BigFrame

def KnV.zero : KnV := ⟨0, 0, MsgV.zero, 0, 0, .slice none 0 0⟩
def KnV.fresh : KnV := ⟨-1, 0, MsgV.zero, 0, 0, .slice none 0 0⟩
theorem Tryd.infoK : (Tryd.prog.info? 80).map (fun i => (i.zero, i.size, i.bytes)) = some (some (.agg KnV.zero.cells.toArray), 16, 144) := by kernel_rfl
def rowsK (k n : Nat) : List KnV := List.replicate k KnV.fresh ++ List.replicate (n - k) KnV.zero
theorem rowsK_get (k n j : Nat) (hk : k ≤ n) : (rowsK k n)[j]? = if j < k then some KnV.fresh else if j < n then some KnV.zero else none := by
  unfold rowsK
  by_cases h : j < k
  · rw [if_pos h, List.getElem?_append_left (by simpa using h), List.getElem?_replicate, if_pos h]
  · rw [if_neg h, List.getElem?_append_right (by simp; omega), List.length_replicate, List.getElem?_replicate]
    by_cases h2 : j < n
    · rw [if_pos (by omega), if_pos h2]
    · rw [if_neg (by omega), if_neg h2]
theorem rowsK_len (k n : Nat) (hk : k ≤ n) : (rowsK k n).length = n := by unfold rowsK; simp; omega
theorem rowsK_step (k n : Nat) (hk : k < n) : ((rowsK k n).flatMap KnV.cells).toArray.setIfInBounds (k * 16) (.int .i64 (-1)) = ((rowsK (k + 1) n).flatMap KnV.cells).toArray := by
  refine rows16_ext _ _ (by rw [Array.size_setIfInBounds, List.size_toArray, rows16_len, rowsK_len _ _ (by omega), rowsK_len _ _ (by omega)]) (fun j x hx r hr => ?_)
  have hj : j < n := by have := (List.getElem?_eq_some_iff.1 hx).1; rwa [rowsK_len _ _ (by omega)] at this
  have hold : ∀ y, (rowsK k n)[j]? = some y → ((rowsK k n).flatMap KnV.cells)[j * 16 + r]? = y.cells[r]? := fun y hy => flat_get KnV.cells 16 KnV.len _ j r y hy hr
  rw [rowsK_get _ _ _ (by omega)] at hx
  by_cases hjk : j = k
  · subst hjk
    rw [if_pos (by omega)] at hx
    cases hx
    by_cases h0 : r = 0
    · subst h0
      rw [Nat.add_zero, Array.getElem?_setIfInBounds_self_of_lt (by rw [List.size_toArray, rows16_len, rowsK_len _ _ (by omega)]; omega)]
      rfl
    · rw [Array.getElem?_setIfInBounds_ne (by omega), List.getElem?_toArray, hold KnV.zero (by rw [rowsK_get _ _ _ (by omega), if_neg (by omega), if_pos hj])]
      match r, hr, h0 with
      | 1, _, _ | 2, _, _ | 3, _, _ | 4, _, _ | 5, _, _ | 6, _, _ | 7, _, _ | 8, _, _ | 9, _, _ | 10, _, _ | 11, _, _ | 12, _, _ | 13, _, _ | 14, _, _ | 15, _, _ => rfl
      | r + 16, hr, _ => exact absurd hr (by omega)
  · rw [Array.getElem?_setIfInBounds_ne (by omega), List.getElem?_toArray]
    refine hold x ?_
    rw [rowsK_get _ _ _ (by omega), ← hx]
    by_cases h : j < k
    · simp [h, show j < k + 1 by omega]
    · simp [h, show ¬ j < k + 1 by omega]
theorem made_rows (z : List Value) (hz : z.length = 16) (m : Nat) : (madeCells z.toArray (m * 16)).toList = (List.replicate m z).flatten := by
  apply List.ext_getElem?
  intro i
  by_cases h : i < m * 16
  · have hl : (List.replicate m z).flatten[i]? = z[i % 16]? := by
      have e : i = i / 16 * 16 + i % 16 := by omega
      have hf := flat_get (fun _ : Unit => z) 16 (fun _ => hz) (List.replicate m ()) (i / 16) (i % 16) () (by rw [List.getElem?_replicate, if_pos (by omega)]) (by omega)
      rw [← e] at hf
      rw [← hf]
      congr 1
      induction m with
      | zero => rfl
      | succ m _ => simp [List.flatMap]
    rw [hl]
    have hi : i % 16 < z.length := by omega
    simp [madeCells, h, hz, List.getElem?_eq_getElem hi]
  · rw [List.getElem?_eq_none (by simp [madeCells]; omega), List.getElem?_eq_none (by simp [hz]; omega)]

theorem flatD_zero (n : Nat) : flatD (List.replicate n L8.zero) = List.replicate (8 * n) 0 := by
  induction n with
  | zero => rfl
  | succ n ih =>
    rw [List.replicate_succ, flatD, List.flatMap_cons]
    unfold flatD at ih
    rw [ih, show wordsD L8.zero = List.replicate 8 0 from rfl, List.replicate_append_replicate]
    congr 1; omega
theorem ks_fresh (n : Nat) : ksOf (List.replicate n LV.new) (List.replicate n (.slice none 0 0)) = rowsK n n := by
  unfold ksOf rowsK
  rw [Nat.sub_self, List.replicate_zero, List.append_nil, List.zipWith_replicate]
  simp only [Nat.min_self]; rfl

def NewDir (n cores lo : Nat) (w : World) (e : Ending) (w' : World) : Prop :=
  ∃ p m b L wvs, e = .returned (.tuple #[.pointer (some ⟨p, 0, none⟩), .int .i64 0]) ∧ DirAt w' lo p m b L wvs (Dv.new n cores) ∧ Below w.heap.size w w' ∧ (w.heap.size ≤ p ∧ w.heap.size ≤ m ∧ w.heap.size ≤ b ∧ w.heap.size ≤ L) ∧ ∀ v ∈ wvs, v.ownBlock = none

set_option maxHeartbeats 400000 in
theorem dnew_cores (k c : Int) (w : World) (hc : c < 1 ∨ 4 < c) : Calls Tryd.prog 6 #[.int .i64 k, .int .i64 c] w fun e w' => e = .returned (.tuple #[.pointer none, .int .i64 2]) ∧ w = w' := by
  rcases hc with hc | hc
  · have h1 : decide (c < 1) = true := by simpa using hc
    go_enter Tryd.func6, Tryd.ntmps6
    go_wp2
    go_ret2
    exact ⟨rfl, rfl⟩
  · have h1 : decide (c < 1) = false := by simp; omega
    have h2 : decide (4 < c) = true := by simpa using hc
    go_enter Tryd.func6, Tryd.ntmps6
    go_wp2
    go_ret2
    exact ⟨rfl, rfl⟩
set_option maxHeartbeats 400000 in
theorem dnew_lines (k : Int) (c : Nat) (w : World) (h1 : 1 ≤ c) (h4 : c ≤ 4) (hk : k < 2 ∨ 64 < k) : Calls Tryd.prog 6 #[.int .i64 k, .int .i64 c] w fun e w' => e = .returned (.tuple #[.pointer none, .int .i64 2]) ∧ w = w' := by
  have d1 : decide ((c : Int) < 1) = false := by simp; omega
  have d2 : decide (4 < (c : Int)) = false := by simp; omega
  go_enter Tryd.func6, Tryd.ntmps6
  go_wp2_with fail
  refine (mnew_bad k w hk).mono ?_
  rintro e w' ⟨rfl, rfl⟩
  go_wp2
  go_ret2
  exact ⟨rfl, rfl⟩

set_option maxRecDepth 100000 in
set_option maxHeartbeats 1000000 in
theorem dnew_ok (n c lo : Nat) (w : World) (h2 : 2 ≤ n) (hn : n ≤ 64) (h1 : 1 ≤ c) (h4 : c ≤ 4) (hlo : lo ≤ w.heap.size) (hg : 1 < lo) (hT : TabAt w) : Calls Tryd.prog 6 #[.int .i64 n, .int .i64 c] w (NewDir n c lo w) := by
  have d1 : decide ((c : Int) < 1) = false := by simp; omega
  have d2 : decide (4 < (c : Int)) = false := by simp; omega
  obtain ⟨i0, hi, hz0, hz1, hz2⟩ := info_parts Tryd.infoK
  have hb : i0.bytes * n ≤ 281474976710656 := by rw [hz2]; omega
  have hm : n ≤ maxLen := by unfold maxLen; omega
  have HI := Lib.hid hi; clear hi
  have HZ0 := Lib.hid hz0; clear hz0
  have HZ1 := Lib.hid hz1; clear hz1
  clear hz2
  have HTab := Lib.hid hT; clear hT
  go_enter Tryd.func6, Tryd.ntmps6
  go_wp2_with fail
  refine (mnew_ok n w h2 hn).mono ?_
  rintro e w1 ⟨m, b, rfl, hmem, hmw, hbw, hb1⟩
  have Hmem := Lib.hid hmem; clear hmem
  have Hb1 := Lib.hid hb1; clear hb1
  go_wp2_with (at_make; refine wpList_make_full _ rfl _ _ 73 rfl w1.heap.size 80 i0 _ 16 Tryd.underlying73 HI.out HZ0.out HZ1.out .i64 .i64 n n n rfl rfl rfl rfl hb hm (Nat.le_refl _) ?_; intro w2 hown hg2; have Hown := Lib.hid hown; clear hown; have Hg2 := Lib.hid hg2; clear hg2)
  obtain ⟨cur, hrow, hbel2⟩ : ∃ cur : Array Value, w2.heap[w1.heap.size]? = some (.cells ((rowsK 0 n).flatMap KnV.cells).toArray 80 (0, 0)) ∧ Below w1.heap.size w1 w2 := by
    obtain ⟨hl, hh | ⟨g, cap, cur, hv, hb, hrow, e1, e2, hs, ht⟩⟩ := Hown.out
    · cases hh.1
    · simp only [Value.slice.injEq, Option.some.injEq, Addr.mk.injEq, and_true] at hv
      obtain ⟨rfl, -, rfl⟩ := hv
      refine ⟨cur, ?_, (Below.refl _ _).grown Hg2.out (Nat.le_refl _) (by simp)⟩
      rw [hrow]
      have hc : cur.toList = (rowsK 0 n).flatMap KnV.cells := by
        rw [← List.take_of_length_le (l := cur.toList) (i := n * 16) (by simp [hs]), ht, show (Value.agg KnV.zero.cells.toArray).cells = KnV.zero.cells.toArray from rfl, made_rows KnV.zero.cells rfl]
        simp [rowsK, List.flatMap]
      rw [← hc]
  have hs2 : w1.heap.size < w2.heap.size := lt_of_block hrow
  have hW3 : Below w1.heap.size w1 (w2.alloc (.cells #[.pointer (some ⟨m, 0, none⟩), .int .i64 c, .slice (some ⟨w1.heap.size, 0, none⟩) n n] 75)) := hbel2.alloc hbel2.size _
  have hr3 : (w2.alloc (.cells #[.pointer (some ⟨m, 0, none⟩), .int .i64 c, .slice (some ⟨w1.heap.size, 0, none⟩) n n] 75)).heap[w1.heap.size]? = some (.cells ((rowsK 0 n).flatMap KnV.cells).toArray 80 (0, 0)) := by
    rw [Below.heap_alloc _ _ _ hs2]; exact hrow
  have hd3 : (w2.alloc (.cells #[.pointer (some ⟨m, 0, none⟩), .int .i64 c, .slice (some ⟨w1.heap.size, 0, none⟩) n n] 75)).heap[w2.heap.size]? = some (.cells #[.pointer (some ⟨m, 0, none⟩), .int .i64 c, .slice (some ⟨w1.heap.size, 0, none⟩) n n] 75 (0, 0)) := World.alloc_heap_new w2 _
  have Hr3 := Lib.hid hr3; clear hr3
  have Hd3 := Lib.hid hd3; clear hd3
  have HW3 := Lib.hid hW3; clear hW3 hbel2 hrow
  have hs3 : w2.heap.size < (w2.alloc (.cells #[.pointer (some ⟨m, 0, none⟩), .int .i64 c, .slice (some ⟨w1.heap.size, 0, none⟩) n n] 75)).heap.size := by simp
  generalize (w2.alloc (.cells #[.pointer (some ⟨m, 0, none⟩), .int .i64 c, .slice (some ⟨w1.heap.size, 0, none⟩) n n] 75)) = W3 at *
  go_loopw [35, 9] (fun i _ wr => ∃ k : Nat, k ≤ n ∧ i = .int .i64 k ∧ wr.heap[w1.heap.size]? = some (.cells ((rowsK k n).flatMap KnV.cells).toArray 80 (0, 0)) ∧ Tch (· = w1.heap.size) W3 wr) (fun i _ _ => n - (intOf i).toNat)
  case atStart => exact ⟨0, by omega, rfl, Hr3.out, Tch.refl _ _⟩
  case round =>
    obtain ⟨k, hk, rfl, hrw, hT⟩ := hrel
    have hd : wr.heap[w2.heap.size]? = some (.cells #[.pointer (some ⟨m, 0, none⟩), .int .i64 c, .slice (some ⟨w1.heap.size, 0, none⟩) n n] 75 (0, 0)) := (hT.block w2.heap.size hs3 (by omega)).trans Hd3.out
    have hc2 : wr.cell? ⟨w2.heap.size, 2, none⟩ = some (.slice (some ⟨w1.heap.size, 0, none⟩) n n) := by simp [World.cell?, hd]
    by_cases hlt : k < n
    · have hcell : wr.cell? ⟨w1.heap.size, k * 16, none⟩ = some (.int .i64 0) := by
        have := flat_get KnV.cells 16 KnV.len (rowsK k n) k 0 KnV.zero (by rw [rowsK_get _ _ _ hk, if_neg (by omega), if_pos hlt]) (by omega)
        rw [Nat.add_zero] at this
        simp [World.cell?, hrw, this, KnV.zero, KnV.cells]
      have hfr : wr.frozen? ⟨w1.heap.size, k * 16, none⟩ = false := by simp [World.frozen?, hrw]
      have hst := row_setCell wr w1.heap.size (k * 16) (.int .i64 (-1)) _ _ _ hrw
      rw [rowsK_step k n hlt] at hst
      have HS := Lib.hid hst; clear hst
      have HT2 := Lib.hid (hT.setCell (p := ⟨w1.heap.size, k * 16, none⟩) (.inl rfl) (.int .i64 (-1)))
      clear hrw hT hd
      go_wp2
      go_roundw
      case rel => exact ⟨k + 1, by omega, by go_num, HS.out, HT2.out⟩
      case measure => simp [intOf]; omega
    · obtain rfl : k = n := by omega
      have Hrw := Lib.hid hrw; clear hrw
      have Hd := Lib.hid hd; clear hd
      have HT := Lib.hid hT; clear hT
      go_wp2
      refine bodyPost_ret (results_tmp2 rfl _ _ _) rfl ?_
      have hb3 : Below w1.heap.size w1 wr := HW3.out.trans (HT.out.below HW3.out.size (fun k e => by omega))
      have hbw : Below w.heap.size w wr := Hb1.out.trans (hb3.mono Hb1.out.size)
      have hml : m < w1.heap.size := World.block_lt_of_cell? _ _ Hmem.out.head
      have hbl : b < w1.heap.size := lt_of_block Hmem.out.row
      have hms := Hmem.out.apart
      have hsz := Hb1.out.size
      refine ⟨w2.heap.size, m, b, w1.heap.size, List.replicate k (.slice none 0 0), rfl, ⟨by simp [World.cell?, Hd.out], by simp [World.cell?, Hd.out, Dv.new], by simp [World.cell?, Hd.out, Dv.new], ?_, ?_, by simp [Dv.new], by simp [Dv.new], by simp [Dv.new], fun i l v hl hv => ?_, fun i v hv => ?_, fun i j v u _ hv _ => ?_, fun i l hl => ?_, ?_, by omega, by omega, by omega, by omega, by omega, ?_, hg, by omega, h2, hn, h1, h4⟩, hbw, ⟨by omega, by omega, by omega, by omega⟩, fun v hv => ?_⟩
      · rw [show flatD (Dv.new k c).mems = List.replicate (8 * k) 0 from flatD_zero k]
        exact Hmem.out.below (B := w1.heap.size) hb3 hml hbl
      · rw [Hrw.out, ← ks_fresh]; rfl
      · have hl' : l = LV.new := by
          have : (List.replicate k LV.new)[i]? = some l := hl
          rw [List.getElem?_replicate] at this
          split at this
          · cases this; rfl
          · cases this
        have hv' : v = .slice none 0 0 := by
          rw [List.getElem?_replicate] at hv
          split at hv
          · cases hv; rfl
          · cases hv
        subst hl' hv'
        exact ⟨rfl, .inl ⟨rfl, rfl⟩⟩
      · have := List.eq_of_mem_replicate (List.mem_of_getElem? hv)
        subst this
        exact fun g hg => by cases hg
      · have := List.eq_of_mem_replicate (List.mem_of_getElem? hv)
        subst this
        exact fun g hg => by cases hg
      · have : l = LV.new := List.eq_of_mem_replicate (List.mem_of_getElem? hl)
        subst this
        exact LWf.new i
      · exact HTab.out.below hbw (by omega)
      · exact hms
      · rw [List.eq_of_mem_replicate hv]; rfl

end Go.Proofs.YtnhainjdaafmiaaDoor
