/- A log's iterator: it tells the pairs with their places. Conditions: those stated in each theorem. -/
import Derived.Test.YtgdfiggloifncaaLogD
import Derived.Test.YtgdfiggloifncaaEachT
import Derived.TacticsInMore
import Derived.LoopNIn
import Derived.LoopIn
namespace Go.Proofs.Ytgdfiggloifncaa
open Go.RowKit Go.BigFrame Go.Shelf Go.Maps
attribute [local go_sem] Oper.semAt_some
attribute [local simp] wide_fn

set_option maxHeartbeats 400000 in
theorem each_any (L off : Nat) (w : World) : Calls Try.prog 98 #[.pointer (some ⟨L, off, none⟩)] w fun e w' => e = .returned (.func (.func 105) #[] #[.pointer (some ⟨w.heap.size, 0, none⟩)]) ∧ w.alloc (.cells #[.pointer (some ⟨L, off, none⟩)] 108) = w' := by
  go_enter Try.func98, Try.ntmps98
  go_wp2
  go_ret
  exact ⟨rfl, rfl⟩

theorem onePr (x : Pr) : (x.cells.toArray).all (·.oneCell') = true := by simp [Pr.cells, Value.oneCell']
theorem range_split {n k : Nat} (h : k < n) : List.range n = List.range k ++ k :: List.range' (k + 1) (n - (k + 1)) := by
  rw [List.range_eq_range' (n := k), List.range_eq_range' (n := n), ← List.range'_succ]
  have := List.range'_append_1 (s := 0) (m := k) (n := n - (k + 1) + 1)
  rw [Nat.zero_add] at this
  rw [this]; congr 1; omega
/-- What the iterator tells of a place. -/
def encL (l : List Pr) (k : Nat) : Array Value := #[.int .i64 (k : Nat), .agg #[.int .i64 (l.getD k Pr.zero).a, .int .u64 (l.getD k Pr.zero).v]]

set_option maxRecDepth 100000 in
set_option maxHeartbeats 2000000 in
theorem each1_each {L off Bc : Nat} {pv : Value} {l : List Pr} (C : Nat → Prop) (lp : Nat) (w : World) (hC : ∀ k, w.heap.size ≤ k → C k) (hrow : w.ownsRow 0 84 2 pv l.length (flatP l)) (hln : l.length ≤ 128) (h0 : w.cell? ⟨L, off, none⟩ = some pv) (hB : w.cell? ⟨Bc, 0, none⟩ = some (.pointer (some ⟨L, off, none⟩)))
    (hCr : ∀ g, pv.ownBlock = some g → ¬ C g) :
    SeqEach Fence.wide Try.prog 105 #[.pointer (some ⟨Bc, 0, none⟩)] (encL l) (KpC C) (List.range l.length) w lp := by
  intro m J Jx W hW _ hJ hJx hY i0
  have hTW : Tch C w W := Tch.of_idle hW
  have c0 : W.cell? ⟨L, off, none⟩ = some pv := (hW.cell (World.block_lt_of_cell? _ _ h0)).trans h0
  have cB : W.cell? ⟨Bc, 0, none⟩ = some (.pointer (some ⟨L, off, none⟩)) := (hW.cell (World.block_lt_of_cell? _ _ hB)).trans hB
  obtain ⟨ad, cap, hpv⟩ : ∃ ad cap, pv = .slice ad l.length cap := by
    rcases owns_form hrow with ⟨rfl, h2, _⟩ | ⟨g, cap, rfl, _⟩
    · exact ⟨none, 0, by rw [h2]⟩
    · exact ⟨_, _, rfl⟩
  subst hpv
  have HY := Lib.hid hY; clear hY
  have HTW := Lib.hid hTW; clear hTW
  have HJ := Lib.hid hJ; clear hJ
  have HJx := Lib.hid hJx; clear hJx
  have HW := Lib.hid hW; clear hW
  have Hrow := Lib.hid hrow; clear hrow
  have HC := Lib.hid hC; clear hC
  have HCr := Lib.hid hCr; clear hCr
  clear h0 hB
  refine callsIn_of_wp Try.func105 rfl trivial ?_ rfl
  simp only [Try.ntmps105, List.size_toArray, List.length_cons, List.length_nil, Nat.reduceAdd, Nat.reduceSub, Array.replicate_succ, Array.replicate_zero, List.push_toArray, List.append_toArray, List.nil_append, List.cons_append]
  gi_wp2
  clear c0 cB
  gi_loopw [10] (fun i wr => ∃ k : Nat, k ≤ l.length ∧ i = .int .i64 k ∧ J (List.range k) wr ∧ Tch C W wr)
    (fun i _ => l.length - (intOf i).toNat)
  case atStart => exact ⟨0, Nat.zero_le _, rfl, i0, Tch.refl _ _⟩
  case round =>
    obtain ⟨k, hk, rfl, hJs, hTr⟩ := hrel
    by_cases hlt : k < l.length
    · obtain ⟨g, cap', e1, -, -⟩ := Hrow.out.form (by omega)
      simp only [Value.slice.injEq] at e1
      obtain ⟨rfl, -, rfl⟩ := e1
      obtain ⟨x, hx⟩ : ∃ x, l[k]? = some x := ⟨l[k], List.getElem?_eq_getElem hlt⟩
      have hgr : wr.heap[g]? = w.heap[g]? := ((HTW.out.trans hTr).block g (owns_lt Hrow.out rfl).2 (HCr.out g rfl))
      have hr := owns_same Hrow.out (w' := wr) (fun g' e => by cases e; exact hgr)
      have x0 := (owns_cell hr (g := g) rfl (flatP_a hx)).1
      have x1 := (owns_cell hr (g := g) rfl (flatP_v hx)).1
      rw [Nat.mul_comm] at x0 x1
      have hb2 : Below wr.heap.size wr (wr.alloc (.cells #[.int .i64 x.a, .int .u64 x.v] 84)) := (Below.refl _ wr).alloc (Nat.le_refl _) _
      have hJ2 := HJ.out _ wr _ none hJs (grown_below hb2) (fun r e => by cases e)
      obtain ⟨fn, tmps, assign, body, hy, hR⟩ := HY.out (m - 1) (List.range k) k ((List.range' (k + 1) (l.length - (k + 1)))) (wr.alloc (.cells #[.int .i64 x.a, .int .u64 x.v] 84)) (range_split hlt) hJ2
      unfold encL at hy
      rw [show l.getD k Pr.zero = x from by simp [List.getD, hx]] at hy
      have hTr2 := Lib.hid (hTr.trans (Tch.of_idle hb2))
      have HR := Lib.hid hR; clear hR
      clear hr hgr hJ2 hb2 hJs hTr hx
      gi_wp2
      refine ⟨fun h => (by cases h), HR.out.mono ?_⟩
      rintro e W3 (⟨rfl, hJ3, hk3⟩ | ⟨rfl, hJx3, _⟩)
      · have hJ4 := Lib.hid hJ3
        have hT3 := Lib.hid (hTr2.out.trans hk3)
        clear hJ3 hk3
        gi_wp2
        go_roundw
        case rel => exact ⟨k + 1, by omega, by simp, by rw [List.range_succ]; exact hJ4.out, hT3.out⟩
        case measure => simp [intOf]; omega
      · gi_wp2
        refine bodyPost_ret (results_none rfl _ _ _) rfl ?_
        exact ⟨⟨_, rfl⟩, .inr ⟨_, ⟨_, (by rw [range_split hlt, List.append_assoc]; rfl)⟩, hJx3⟩⟩
    · obtain rfl : k = l.length := by omega
      gi_wp2
      go_end0
      exact ⟨⟨_, rfl⟩, .inl hJs⟩

end Go.Proofs.Ytgdfiggloifncaa
