/- A node: lines given back; requests. Conditions: those stated in each theorem. -/
import Derived.Test.YtddajnpichchfaaNodeB
import Derived.Test.YtddajnpichchfaaShelf
import Derived.StillTailTactics
import Derived.Deep.RegionHeld3
import Derived.Deep.AppendLies
namespace Go.Proofs.Ytddajnpichchfaa
open Go.RowKit Go.BigFrame

theorem owns_cell {w : World} {lo : Nat} {e : TypeId} {size : Nat} {v : Value} {n : Nat} {xs : List Value} (h : w.ownsRow lo e size v n xs) {g : Nat} (hg : v.ownBlock = some g) {j : Nat} {u : Value} (hj : xs[j]? = some u) : w.cell? ⟨g, j, none⟩ = some u ∧ w.frozen? ⟨g, j, none⟩ = false := by
  rcases h.2 with ⟨rfl, _⟩ | ⟨g', cap, cur, rfl, h1, h2, _, _, _, hx⟩
  · cases hg
  · cases hg
    rw [← hx, List.getElem?_take] at hj
    split at hj
    · have hj' : cur[j]? = some u := by simpa using hj
      exact ⟨by simp [World.cell?, h2, hj'], by simp [World.frozen?, h2]⟩
    · cases hj
theorem owns_form {w : World} {lo : Nat} {e : TypeId} {size : Nat} {v : Value} {n : Nat} {xs : List Value} (h : w.ownsRow lo e size v n xs) : (v = .slice none 0 0 ∧ n = 0 ∧ xs = []) ∨ ∃ g cap, v = .slice (some ⟨g, 0, none⟩) n cap ∧ v.ownBlock = some g := by
  rcases h.2 with ⟨rfl, h0⟩ | ⟨g', cap, cur, rfl, _⟩
  · refine .inl ⟨rfl, h0, ?_⟩
    have := h.1
    rw [h0, Nat.zero_mul] at this
    exact List.eq_nil_of_length_eq_zero this
  · exact .inr ⟨g', cap, rfl, rfl⟩
theorem owns_new (w : World) (e : TypeId) (size : Nat) (xs : List Value) (hl : xs.length = 1 * size) : (w.alloc (.cells xs.toArray e)).ownsRow w.heap.size e size (.slice (some ⟨w.heap.size, 0, none⟩) 1 1) 1 xs :=
  ⟨hl, .inr ⟨w.heap.size, 1, xs.toArray, rfl, Nat.le_refl _, World.alloc_heap_new w _, Nat.le_refl _, by decide, by simpa using hl, by rw [← hl]; simp⟩⟩

/-- What is answered: messages in new memory. -/
def OutAt (lo : Nat) (w : World) (bv v : Value) (ms : List MsgV) : Prop := w.ownsRow lo 52 11 v ms.length (ms.flatMap MsgV.cells) ∧ ∀ g, v.ownBlock = some g → bv.ownBlock ≠ some g
theorem outAt_one {lo : Nat} {w : World} {bv v : Value} {m : MsgV} (h : w.ownsRow lo 52 11 v 1 m.cells) (hb : ∀ g, v.ownBlock = some g → bv.ownBlock ≠ some g) : OutAt lo w bv v [m] := ⟨by simpa using h, hb⟩
theorem outAt_none (lo : Nat) (w : World) (bv : Value) : OutAt lo w bv (.slice none 0 0) [] := ⟨⟨by simp, .inl ⟨rfl, rfl⟩⟩, fun _ h => by cases h⟩
def NOut (w : World) (lo a p S : Nat) (bs : List Nat) (ways : Nat) (bv : Value) (n' : Nd) (ms : List MsgV) (v : Value) (w' : World) : Prop :=
  ∃ bv', OutAt w.heap.size w' bv' v ms ∧ NodeAt w' lo a p S bs ways bv' n' ∧ Tch (Own a p bs bv) w w' ∧ (∀ g, bv'.ownBlock = some g → bv.ownBlock = some g ∨ w.heap.size ≤ g)

theorem drew_below {B : Nat} {a w : World} (h : Below B a w) : Below B a w.drew := ⟨h.os, h.tape, h.output, h.size, h.block⟩

section
variable {w w' : World} {lo a p S : Nat} {bs : List Nat} {ways : Nat} {bv : Value} {n : Nd}

theorem NOut.idle (h : NodeAt w lo a p S bs ways bv n) (hb : Below w.heap.size w w') : NOut w lo a p S bs ways bv n [] (.slice none 0 0) w' :=
  ⟨bv, outAt_none _ _ _, h.below hb (Nat.le_refl _), below_own hb, fun _ e => .inl e⟩
theorem NOut.self {n' : Nd} (h : NodeAt w' lo a p S bs ways bv n') (hT : Tch (Own a p bs bv) w w') : NOut w lo a p S bs ways bv n' [] (.slice none 0 0) w' :=
  ⟨bv, outAt_none _ _ _, h, hT, fun _ e => .inl e⟩
/-- Behind a call that turned but its own. -/
theorem NOut.after {w1 : World} {n' : Nd} {ms : List MsgV} {v : Value} (hT : Tch (Own a p bs bv) w w1) (h : NOut w1 lo a p S bs ways bv n' ms v w') : NOut w lo a p S bs ways bv n' ms v w' := by
  obtain ⟨bv', h1, h2, h3, h4⟩ := h
  exact ⟨bv', ⟨owns_mono h1.1 (fun g hg => Nat.le_trans hT.size (owns_lt h1.1 hg).1), h1.2⟩, h2, hT.trans h3, fun g hg => (h4 g hg).imp_right (fun hl => Nat.le_trans hT.size hl)⟩

theorem NodeAt.sets (h : NodeAt w lo a p S bs ways bv n) (j : Nat) (vs : List Value) (n' : Nd) (h1 : n'.ss = n.ss) (h2 : n'.u = n.u) (h3 : n'.backs = n.backs) (hk : n'.cells p bv = splice (n.cells p bv) j vs) : NodeAt (w.setCells a j vs) lo a p S bs ways bv n' := by
  have ha := h.apart
  simp only [List.mem_cons, not_or] at ha
  have hT : Tch (· = a) w (w.setCells a j vs) := Tch.setCells (C := (· = a)) (.inl rfl) vs j (Tch.refl _ w)
  refine ⟨?_, ?_, ?_, h.apart, h.loose, h.above⟩
  · rw [h1, h2]
    exact h.cache.frame hT (fun e => ha.1 e.symm) (fun e => ha.2.1 e.symm) (fun b hb e => ha.2.2 (e ▸ hb))
  · rw [hk]; exact Holds.sets vs j h.head
  · rw [h3]
    refine owns_same h.own (fun g e => hT.block g (owns_lt h.own e).2 (fun hc => ?_))
    have hl := h.loose g e
    simp only [List.mem_cons, not_or] at hl
    exact hl.1 hc

set_option maxHeartbeats 400000 in
theorem is_any (k : Int) (w : World) : Calls Try.prog 107 #[.int .i64 k] w fun e w' => e = .returned (.func (.func 118) #[] #[.pointer (some ⟨w.heap.size, 0, none⟩)]) ∧ w.alloc (.cells #[.int .i64 k] 3) = w' := by
  go_enter Try.func107, Try.ntmps107
  go_wp2
  go_ret
  exact ⟨rfl, rfl⟩

theorem is_fn (k : Int) (B : Nat) (W : World) (x : Int) (hc : W.cell? ⟨B, 0, none⟩ = some (.int .i64 k)) : FnGives Try.prog 118 #[.pointer (some ⟨B, 0, none⟩)] #[.int .i64 x] (.bool (x == k)) W := by
  show Calls Try.prog 118 #[.int .i64 x, .pointer (some ⟨B, 0, none⟩)] W _
  go_enter Try.func118, Try.ntmps118
  go_wp2
  go_ret
  exact ⟨rfl, 0, rfl⟩
theorem is_pred (k : Int) (B : Nat) (w : World) (hB : B < w.heap.size) (hc : w.cell? ⟨B, 0, none⟩ = some (.int .i64 k)) :
    PredAt Try.prog 118 #[.pointer (some ⟨B, 0, none⟩)] (Value.int .i64) (fun x => x == k) w := fun W x hb => is_fn k B W x ((hb.cell (p := ⟨B, 0, none⟩) hB).trans hc)
theorem is_enters : ∀ args w, (callFunc 118 args).run Try.prog w = .ok (.enter 118 args) w := enters_of Try.func118 (by kernel_rfl) rfl

theorem conI_at (h : NodeAt w lo a p S bs ways bv n) (k : Int) (B : Nat) (hB : B < w.heap.size) (hc : w.cell? ⟨B, 0, none⟩ = some (.int .i64 k)) (hl : n.backs.length ≤ 1000000) :
    Calls Try.prog 106 #[bv, .func (.func 118) #[] #[.pointer (some ⟨B, 0, none⟩)]] w fun e w' => e = .returned (.bool (n.gave k)) ∧ Below w.heap.size w w' := by
  rcases owns_form h.own with ⟨rfl, h0, hx⟩ | ⟨g, cap, rfl, hg⟩
  · have hg : n.gave k = false := by
      have : n.backs = [] := List.eq_nil_of_length_eq_zero h0
      simp [Nd.gave, this]
    rw [hg]
    have hcon := AnyE.slices_ContainsFunc_empty Try.conI none 0 (.func (.func 118) #[] #[.pointer (some ⟨B, 0, none⟩)]) w
    change Calls Try.prog 106 _ _ _ at hcon
    refine hcon.mono ?_
    rintro e w' ⟨rfl, rfl⟩
    exact ⟨rfl, Below.refl _ _⟩
  · have hcon := AnyE.slices_ContainsFunc Try.conI (Value.int .i64) (fun x => x == k) 118 #[.pointer (some ⟨B, 0, none⟩)] is_enters g 0 n.backs.length cap n.backs w
      (is_pred k B w hB hc) (Nat.le_refl _) (by omega) (fun j hj => by
        rw [Nat.zero_add]
        exact (owns_cell h.own hg (by rw [List.getElem?_map, List.getElem?_eq_getElem hj, getElem!_pos n.backs j hj]; rfl)).1)
    change Calls Try.prog 106 _ _ _ at hcon
    refine hcon.mono ?_
    rintro e w' ⟨rfl, q, rfl⟩
    exact ⟨by rw [List.take_length]; rfl, below_drewN (Below.refl _ _) q⟩

set_option maxRecDepth 100000 in
set_option maxHeartbeats 1000000 in
theorem gave_any (h : NodeAt w lo a p S bs ways bv n) (k : Int) (hl : n.backs.length ≤ 1000000) :
    Calls Try.prog 84 #[.pointer (some ⟨a, 0, none⟩), .int .i64 k] w fun e w' => e = .returned (.bool (n.gave k)) ∧ Below w.heap.size w w' := by
  have c14 := h.c 14 rfl
  have hlt := h.head.lt
  have hb1 : Below w.heap.size w (w.alloc (.cells #[.int .i64 k] 3)).drew := drew_below ((Below.refl _ w).alloc (Nat.le_refl _) _)
  have hd := h.below hb1 (Nat.le_refl _)
  have Hc := Lib.hid (conI_at hd k w.heap.size (by show w.heap.size < (w.alloc _).heap.size; simp) (by show (w.alloc _).cell? _ = _; simp) hl)
  have Hb := Lib.hid hb1
  have hc2 : (w.alloc (.cells #[.int .i64 k] 3)).drew.cell? ⟨a, 14, none⟩ = some bv := hd.c 14 rfl
  clear h hd hb1
  go_enter Try.func84, Try.ntmps84
  go_wp2
  go_region_held3 (fun V => V.cell? ⟨a, 14, none⟩ = some bv) (first | with_reducible exact c14 | with_reducible exact hc2 | with_reducible exact hc3 | go_keep) (first | (go_at_call 107; (with_reducible refine (is_any k _).mono ?_); rintro e w' ⟨rfl, rfl⟩) | (go_at_call 106; (with_reducible refine Hc.out.mono ?_); rintro e w3 ⟨rfl, hb⟩; have Hb3 := Lib.hid (Hb.out.trans (hb.mono Hb.out.size)); have hc3 := (hb.cell (p := ⟨a, 14, none⟩) (Nat.lt_of_lt_of_le hlt Hb.out.size)).trans hc2; clear hb))
  all_goals
    go_wp2
    go_ret
    exact ⟨rfl, Hb3.out⟩

set_option maxRecDepth 100000 in
set_option maxHeartbeats 1000000 in
theorem ask_any (h : NodeAt w lo a p S bs ways bv n) (kind k : Int) (hl : n.backs.length ≤ 1000000) :
    Calls Try.prog 58 #[.pointer (some ⟨a, 0, none⟩), .int .i64 kind, .int .i64 k] w fun e w' => ∃ v, e = .returned v ∧ NOut w lo a p S bs ways bv (n.ask kind k).1 (n.ask kind k).2 v w' := by
  unfold Nd.ask
  have HO := Lib.hid (isOut_any h)
  by_cases ho : n.isOut = true
  · rw [ho] at HO ⊢
    have HR := Lib.hid (NOut.idle h (Below.refl _ _)); clear h ho
    go_enter Try.func58, Try.ntmps58
    go_wp2_with fail
    refine HO.out.mono ?_
    rintro e w' ⟨rfl, rfl⟩
    go_wp2
    go_ret
    exact ⟨_, rfl, by simpa using HR.out⟩
  · have ho' : n.isOut = false := by simpa using ho
    rw [ho'] at HO ⊢
    have HG := Lib.hid (gave_any h k hl)
    have H := Lib.hid h
    clear h ho ho'
    by_cases hg : n.gave k = true
    · rw [hg] at HG ⊢
      clear hg
      go_enter Try.func58, Try.ntmps58
      go_wp2_with fail
      refine HO.out.mono ?_
      rintro e w' ⟨rfl, rfl⟩
      go_wp2_with fail
      refine HG.out.mono ?_
      rintro e w1 ⟨rfl, hb⟩
      have HR := Lib.hid (NOut.idle H.out hb); clear hb
      go_wp2
      go_ret
      exact ⟨_, rfl, by simpa using HR.out⟩
    · have hg' : n.gave k = false := by simpa using hg
      rw [hg'] at HG ⊢
      clear hg hg'
      go_enter Try.func58, Try.ntmps58
      go_wp2_with fail
      refine HO.out.mono ?_
      rintro e w' ⟨rfl, rfl⟩
      go_wp2_with fail
      refine HG.out.mono ?_
      rintro e w1 ⟨rfl, hb⟩
      have H1 := Lib.hid (H.out.below hb (Nat.le_refl _))
      go_wp2_with fail
      refine (message_any H1.out kind k).mono ?_
      rintro e w2 ⟨rfl, hb2⟩
      have hb12 := hb.trans (hb2.mono hb.size)
      have h2 := H.out.below hb12 (Nat.le_refl _)
      have ht := h2.head.there' 3 11 (by rw [Nd.len]; omega)
      have h3 := h2.sets 3 (n.msg kind k).cells { n with out := n.msg kind k } rfl rfl rfl rfl
      have hT3 : Tch (Own a p bs bv) w (w2.setCells a 3 (n.msg kind k).cells) := Tch.setCells (.inl (.inl rfl)) _ _ (below_own hb12)
      have hr := h3.outRow
      have Hr := Lib.hid hr
      have Ht := Lib.hid ht
      have H3 := Lib.hid (And.intro h3 hT3)
      clear hb hb2 hb12 h2 ht h3 hT3 hr H1 HO HG
      go_wp2_with (first | (refine wpList_store_mid rfl 52 (.tmp 20) (.tmp 18) rfl a 3 (MsgV.cells ⟨kind, n.core, k, L8.zero⟩).toArray rfl rfl ?_ Try.size52 (oneMsg _) ?_; exact Ht.out; change wpList _ _ _ _ _ (w2.setCells a 3 (MsgV.cells ⟨kind, n.core, k, L8.zero⟩)); change wpList _ _ _ _ _ (w2.setCells a 3 (n.msg kind k).cells); generalize w2.setCells a 3 (n.msg kind k).cells = w3 at *) | (refine wpList_load_mid rfl 52 (.tmp 23) rfl a 3 rfl [.int .i64 kind, .int .i64 n.core, .int .i64 k, .int .u64 0, .int .u64 0, .int .u64 0, .int .u64 0, .int .u64 0, .int .u64 0, .int .u64 0, .int .u64 0] _ ?_ Try.underlying52 rfl Try.size52 ?_; exact Hr.out))
      go_ret
      have ho := owns_new w3 52 11 (n.msg kind k).cells rfl
      have hB : Below w3.heap.size w3 (w3.alloc (.cells (n.msg kind k).cells.toArray 52)) := (Below.refl _ w3).alloc (Nat.le_refl _) _
      have hsz := H3.out.2.size
      exact ⟨_, rfl, bv, outAt_one (owns_mono (show World.ownsRow _ _ _ _ _ _ _ from ho) (fun g hg => by cases hg; exact hsz)) (fun g hg hb => by have h1 := (owns_lt H3.out.1.own hb).2; cases hg; exact absurd h1 (Nat.lt_irrefl _)), H3.out.1.below hB (Nat.le_refl _), H3.out.2.trans (below_own hB), fun _ e => .inl e⟩
end

end Go.Proofs.Ytddajnpichchfaa
