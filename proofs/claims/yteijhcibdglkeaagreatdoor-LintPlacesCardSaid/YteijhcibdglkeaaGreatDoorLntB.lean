/- Where a way goes on from a spot, told by an iterator. Conditions: those stated in each theorem. -/
import Derived.Test.YteijhcibdglkeaaGreatDoorLntA
import Derived.Test.YteijhcibdglkeaaGreatDoorEachT
import Derived.TacticsInMore
import Derived.Stop.RegionWithIn
import Derived.Sort.CutIn
import Derived.Deep.QuietTactic
namespace Go.Proofs.YteijhcibdglkeaaGreatDoor
open Go.RowKit Go.BigFrame Go.Shelf
attribute [local go_sem] Oper.semAt_some
attribute [local simp] wide_fn

/-- What a round keeps: the blocks S, and the cells of the types T. -/
def KpB (S : Nat → Prop) (T : TypeId → Prop) (W W' : World) : Prop := ∀ b c t m, W.heap[b]? = some (.cells c t m) → (S b ∨ T t) → W'.heap[b]? = some (.cells c t m)
theorem KpB.holds {S : Nat → Prop} {T : TypeId → Prop} {W W' : World} (h : KpB S T W W') {b : Nat} {t : TypeId} {L : List Value} (hb : Holds W b t L) (hs : S b ∨ T t) : Holds W' b t L := h _ _ _ _ hb hs
theorem kpB_r {S : Nat → Prop} {T : TypeId → Prop} (W : World) : KpB S T W W := fun _ _ _ _ e _ => e
theorem rangeAt_same {W W' : World} {q o : Nat} {L : List Value} (h : W.rangeAt q o L) (hb : W'.heap[q]? = W.heap[q]?) : W'.rangeAt q o L := fun j u hj => (World.cell?_of_block (a := ⟨q, o + j, none⟩) hb).trans (h j u hj)
theorem cells_of {W : World} {p : Addr} {u : Value} (h : W.cell? p = some u) : ∃ c t m, W.heap[p.block]? = some (.cells c t m) := by
  unfold World.cell? at h
  split at h
  · exact ⟨_, _, _, ‹_›⟩
  · cases h
theorem yield_or {e : Ending} {A B K : Prop} (h : (e = .returned (.bool true) ∧ A ∧ K) ∨ (e = .returned (.bool false) ∧ B ∧ K)) : ∃ b, e = .returned (.bool b) ∧ (if b = true then A else B) ∧ K := by
  rcases h with ⟨h1, h2, h3⟩ | ⟨h1, h2, h3⟩
  · exact ⟨true, h1, by simpa using h2, h3⟩
  · exact ⟨false, h1, by simpa using h2, h3⟩

def encS (s : Spot) : Array Value := #[.agg #[.int .i64 (s.1 : Nat), .bool s.2]]
def lgo (c : List In) (s : Spot) : List Spot := match c[s.1]? with | some i => lgoI i s | none => []
theorem lgo_some {c : List In} {s : Spot} {i : In} (h : c[s.1]? = some i) : lgo c s = lgoI i s := by unfold lgo; rw [h]
/-- What the iterator reads. -/
structure GoAt (W : World) (Ba Bb n cap : Nat) (a : Option Addr) (s : Spot) : Prop where
  code : Holds W Ba 31 [.slice a n cap]
  spot : Holds W Bb 89 [.int .i64 (s.1 : Nat), .bool s.2]
theorem GoAt.same {W W' : World} {Ba Bb n cap : Nat} {a : Option Addr} {s : Spot} (h : GoAt W Ba Bb n cap a s) (ha : W'.heap[Ba]? = W.heap[Ba]?) (hb : W'.heap[Bb]? = W.heap[Bb]?) : GoAt W' Ba Bb n cap a s :=
  ⟨h.code.same ha, h.spot.same hb⟩
theorem GoAt.lt {W : World} {Ba Bb n cap : Nat} {a : Option Addr} {s : Spot} (h : GoAt W Ba Bb n cap a s) : Ba < W.heap.size ∧ Bb < W.heap.size := ⟨h.code.lt, h.spot.lt⟩
theorem GoAt.below {W W' : World} {Ba Bb n cap : Nat} {a : Option Addr} {s : Spot} (h : GoAt W Ba Bb n cap a s) (hb : Below W.heap.size W W') : GoAt W' Ba Bb n cap a s := h.same (hb.block _ h.lt.1) (hb.block _ h.lt.2)
theorem GoAt.kept {W W' : World} {Ba Bb n cap : Nat} {a : Option Addr} {s : Spot} {S : Nat → Prop} {T : TypeId → Prop} (h : GoAt W Ba Bb n cap a s) (hk : KpB S T W W') (ha : S Ba) (hb : S Bb) : GoAt W' Ba Bb n cap a s :=
  ⟨hk.holds h.code (.inl ha), hk.holds h.spot (.inl hb)⟩

/-- Nothing stands there. -/
theorem go_none (l Ba Bb cap n : Nat) (a : Option Addr) (s : Spot) (hs : hasL n (s.1 : Nat) = false) (w : World) (hg : GoAt w Ba Bb n cap a s) (S : Nat → Prop) (T : TypeId → Prop) :
    SeqEach Fence.wide Tryz.prog 43 #[.pointer (some ⟨Ba, 0, none⟩), .pointer (some ⟨Bb, 0, none⟩)] encS (KpB S T) [] w l := by
  intro n' J Jx W hW _ hJ hJx hY h0
  have hg0 := hg.same (hW.block _ hg.lt.1) (hW.block _ hg.lt.2)
  have c1 := hg0.code.cell (i := 0) rfl
  have c2 := hg0.spot.cell (i := 0) rfl
  have c3 := hg0.spot.cell (i := 1) rfl
  have HH := Lib.hid (fun V => hs ▸ has_lint a n cap (s.1 : Nat) V)
  have H0 := Lib.hid h0; clear h0
  clear hJ hJx hW hg hg0 hY hs
  refine callsIn_of_wp Tryz.func43 rfl trivial ?_ rfl
  simp only [Tryz.ntmps43, List.size_toArray, List.length_cons, List.length_nil, Nat.reduceAdd, Nat.reduceSub, Array.replicate_succ, Array.replicate_zero, List.push_toArray, List.append_toArray, List.nil_append, List.cons_append]
  gi_wp2_with fail
  first | refine ⟨fun h => (by cases h), ?_⟩ | refine ⟨trivial, fun h => (by cases h), ?_⟩ | skip
  refine (callsIn_wide.2 (HH.out _)).mono ?_
  rintro e w1 ⟨rfl, rfl⟩
  gi_wp2_with fail
  refine bodyPost_ret (results_none rfl _ _ _) rfl ?_
  exact ⟨⟨_, rfl⟩, .inl H0.out⟩

set_option maxRecDepth 100000 in
set_option maxHeartbeats 2000000 in
theorem go_ill (l Ba Bb q o cap n k : Nat) (op a b1 cc imm : Int) (x : Bool) (hl : legalP ⟨op, a, b1, cc, imm⟩ = false) (w : World) (hk : k < n) (hn : n ≤ 1024) (hF : FormsAt w) (hg : GoAt w Ba Bb n cap (some ⟨q, o, none⟩) (k, x)) (hr : w.rangeAt q (o + k * 5) (In.cells ⟨op, a, b1, cc, imm⟩)) (S : Nat → Prop) (T : TypeId → Prop) (hS : S Ba ∧ S Bb) (hT : T 43) :
    SeqEach Fence.wide Tryz.prog 43 #[.pointer (some ⟨Ba, 0, none⟩), .pointer (some ⟨Bb, 0, none⟩)] encS (KpB S T) [] w l := by
  intro n' J Jx W hW _ hJ hJx hY h0
  have hJb : ∀ pre (X Y : World), J pre X → Below X.heap.size X Y → J pre Y := fun pre X Y hj hb => hJ pre X Y none hj (grown_below hb) (fun r e => by cases e)
  have hg0 := hg.same (hW.block _ hg.lt.1) (hW.block _ hg.lt.2)
  have hF0 := hF.same (hW.block _ hF.lt)
  have hr0 : W.rangeAt q (o + k * 5) (In.cells ⟨op, a, b1, cc, imm⟩) := rangeAt_same hr (hW.block _ (World.block_lt_of_cell? _ _ (hr 0 (.int .i64 (op)) rfl)))
  have hL := legal_any ⟨op, a, b1, cc, imm⟩ W hF0
  have hHas := has_lint (some ⟨q, o, none⟩) n cap (k : Nat) W
  rw [show hasL n (k : Nat) = true by unfold hasL; simp; omega] at hHas
  simp only [In.val] at hL
  have c1 := hg0.code.cell (i := 0) rfl
  have c2 := hg0.spot.cell (i := 0) rfl
  have c22 := hg0.spot.cell (i := 1) rfl
  have c30 : W.cell? ⟨q, o + k * 5, none⟩ = some (.int .i64 (op)) := hr0 0 _ rfl
  have c31 : W.cell? ⟨q, o + k * 5 + 1, none⟩ = some (.int .i64 a) := hr0 1 _ rfl
  have c32 : W.cell? ⟨q, o + k * 5 + 2, none⟩ = some (.int .i64 b1) := hr0 2 _ rfl
  have c33 : W.cell? ⟨q, o + k * 5 + 3, none⟩ = some (.int .i64 cc) := hr0 3 _ rfl
  have c34 : W.cell? ⟨q, o + k * 5 + 4, none⟩ = some (.int .i64 imm) := hr0 4 _ rfl
  have hk' : (k : Int) < (n : Int) := by omega
  have hkk : IntKind.i64.wrap ((k : Int) + 1) = (k : Int) + 1 := by rw [IntKind.wrap_i64]; omega
  have HJb := Lib.hid hJb; clear hJb
  have HY := Lib.hid hY; clear hY
  have HG := Lib.hid hg0; clear hg0
  have HR := Lib.hid hr0; clear hr0
  have HS := Lib.hid (And.intro hS hT); clear hS hT
  have H0 := Lib.hid h0; clear h0
  have HHas := Lib.hid hHas; clear hHas
  rw [hl] at hL
  have HL := Lib.hid hL; clear hL hl
  clear hJ hJx hW hF hF0 hg hr hn hk
  refine callsIn_of_wp Tryz.func43 rfl trivial ?_ rfl
  simp only [Tryz.ntmps43, List.size_toArray, List.length_cons, List.length_nil, Nat.reduceAdd, Nat.reduceSub, Array.replicate_succ, Array.replicate_zero, List.push_toArray, List.append_toArray, List.nil_append, List.cons_append]
  gi_wp2_with fail
  first | refine ⟨fun h => (by cases h), ?_⟩ | refine ⟨trivial, fun h => (by cases h), ?_⟩ | skip
  refine (callsIn_wide.2 HHas.out).mono ?_
  rintro e w1 ⟨rfl, rfl⟩
  gi_wp2_with fail
  first | refine ⟨fun h => (by cases h), ?_⟩ | refine ⟨trivial, fun h => (by cases h), ?_⟩ | skip
  refine (callsIn_wide.2 HL.out).mono ?_
  rintro e w1 ⟨rfl, hb1⟩
  have hj1 := HJb.out _ _ _ H0.out hb1
  have HJ1 := Lib.hid hj1; clear hj1
  gi_wp2_with fail
  refine bodyPost_ret (results_none rfl _ _ _) rfl ?_
  exact ⟨⟨_, rfl⟩, .inl HJ1.out⟩

set_option maxRecDepth 100000 in
set_option maxHeartbeats 2000000 in
theorem go_1 (l Ba Bb q o cap n k : Nat) (a b1 cc imm : Int) (x : Bool) (hl : legalP ⟨1, a, b1, cc, imm⟩ = true) (w : World) (hk : k < n) (hn : n ≤ 1024) (hF : FormsAt w) (hg : GoAt w Ba Bb n cap (some ⟨q, o, none⟩) (k, x)) (hr : w.rangeAt q (o + k * 5) (In.cells ⟨1, a, b1, cc, imm⟩)) (S : Nat → Prop) (T : TypeId → Prop) (hS : S Ba ∧ S Bb) (hT : T 43) :
    SeqEach Fence.wide Tryz.prog 43 #[.pointer (some ⟨Ba, 0, none⟩), .pointer (some ⟨Bb, 0, none⟩)] encS (KpB S T) [] w l := by
  intro n' J Jx W hW _ hJ hJx hY h0
  have hJb : ∀ pre (X Y : World), J pre X → Below X.heap.size X Y → J pre Y := fun pre X Y hj hb => hJ pre X Y none hj (grown_below hb) (fun r e => by cases e)
  have hg0 := hg.same (hW.block _ hg.lt.1) (hW.block _ hg.lt.2)
  have hF0 := hF.same (hW.block _ hF.lt)
  have hr0 : W.rangeAt q (o + k * 5) (In.cells ⟨1, a, b1, cc, imm⟩) := rangeAt_same hr (hW.block _ (World.block_lt_of_cell? _ _ (hr 0 (.int .i64 (1)) rfl)))
  have hL := legal_any ⟨1, a, b1, cc, imm⟩ W hF0
  have hHas := has_lint (some ⟨q, o, none⟩) n cap (k : Nat) W
  rw [show hasL n (k : Nat) = true by unfold hasL; simp; omega] at hHas
  simp only [In.val] at hL
  have c1 := hg0.code.cell (i := 0) rfl
  have c2 := hg0.spot.cell (i := 0) rfl
  have c22 := hg0.spot.cell (i := 1) rfl
  have c30 : W.cell? ⟨q, o + k * 5, none⟩ = some (.int .i64 (1)) := hr0 0 _ rfl
  have c31 : W.cell? ⟨q, o + k * 5 + 1, none⟩ = some (.int .i64 a) := hr0 1 _ rfl
  have c32 : W.cell? ⟨q, o + k * 5 + 2, none⟩ = some (.int .i64 b1) := hr0 2 _ rfl
  have c33 : W.cell? ⟨q, o + k * 5 + 3, none⟩ = some (.int .i64 cc) := hr0 3 _ rfl
  have c34 : W.cell? ⟨q, o + k * 5 + 4, none⟩ = some (.int .i64 imm) := hr0 4 _ rfl
  have hk' : (k : Int) < (n : Int) := by omega
  have hkk : IntKind.i64.wrap ((k : Int) + 1) = (k : Int) + 1 := by rw [IntKind.wrap_i64]; omega
  have HJb := Lib.hid hJb; clear hJb
  have HY := Lib.hid hY; clear hY
  have HG := Lib.hid hg0; clear hg0
  have HR := Lib.hid hr0; clear hr0
  have HS := Lib.hid (And.intro hS hT); clear hS hT
  have H0 := Lib.hid h0; clear h0
  have HHas := Lib.hid hHas; clear hHas
  rw [hl] at hL
  have HL := Lib.hid hL; clear hL hl
  clear hJ hJx hW hF hF0 hg hr hn hk
  refine callsIn_of_wp Tryz.func43 rfl trivial ?_ rfl
  simp only [Tryz.ntmps43, List.size_toArray, List.length_cons, List.length_nil, Nat.reduceAdd, Nat.reduceSub, Array.replicate_succ, Array.replicate_zero, List.push_toArray, List.append_toArray, List.nil_append, List.cons_append]
  gi_wp2_with fail
  first | refine ⟨fun h => (by cases h), ?_⟩ | refine ⟨trivial, fun h => (by cases h), ?_⟩ | skip
  refine (callsIn_wide.2 HHas.out).mono ?_
  rintro e w1 ⟨rfl, rfl⟩
  gi_wp2_with fail
  first | refine ⟨fun h => (by cases h), ?_⟩ | refine ⟨trivial, fun h => (by cases h), ?_⟩ | skip
  refine (callsIn_wide.2 HL.out).mono ?_
  rintro e w1 ⟨rfl, hb1⟩
  have hj1 := HJb.out _ _ _ H0.out hb1
  have hg1 := HG.out.below hb1
  have hr1 : w1.rangeAt q (o + k * 5) (In.cells ⟨1, a, b1, cc, imm⟩) := rangeAt_same HR.out (hb1.block _ (World.block_lt_of_cell? _ _ (HR.out 0 (.int .i64 1) rfl)))
  have e1 := hg1.code.cell (i := 0) rfl
  have e2 := hg1.spot.cell (i := 0) rfl
  have e22 := hg1.spot.cell (i := 1) rfl
  have e30 : w1.cell? ⟨q, o + k * 5, none⟩ = some (.int .i64 1) := hr1 0 _ rfl
  have e31 : w1.cell? ⟨q, o + k * 5 + 1, none⟩ = some (.int .i64 a) := hr1 1 _ rfl
  have e32 : w1.cell? ⟨q, o + k * 5 + 2, none⟩ = some (.int .i64 b1) := hr1 2 _ rfl
  have e33 : w1.cell? ⟨q, o + k * 5 + 3, none⟩ = some (.int .i64 cc) := hr1 3 _ rfl
  have e34 : w1.cell? ⟨q, o + k * 5 + 4, none⟩ = some (.int .i64 imm) := hr1 4 _ rfl
  have hb2 : Below w1.heap.size w1 (w1.alloc (.cells #[.int .i64 0, .int .i64 0, .int .i64 0, .int .i64 0, .int .i64 0] 43)) := (Below.refl _ w1).alloc (Nat.le_refl _) _
  have hg2 := hg1.below hb2
  have hr2 := rangeAt_same hr1 (hb2.block _ (World.block_lt_of_cell? _ _ (hr1 0 (.int .i64 1) rfl)))
  have d1 := hg2.code.cell (i := 0) rfl
  have d2 := hg2.spot.cell (i := 0) rfl
  have d30 := hr2 0 (.int .i64 1) rfl
  have d31 := hr2 1 (.int .i64 a) rfl
  have d32 := hr2 2 (.int .i64 b1) rfl
  have d33 := hr2 3 (.int .i64 cc) rfl
  have d34 := hr2 4 (.int .i64 imm) rfl
  simp only [Nat.add_zero] at d30
  have hb3 : Below w1.heap.size w1 (w1.alloc (.cells #[.int .i64 1, .int .i64 a, .int .i64 b1, .int .i64 cc, .int .i64 imm] 43)) := (Below.refl _ w1).alloc (Nat.le_refl _) _
  have hg3 := hg1.below hb3
  have hi3 : Holds (w1.alloc (.cells #[.int .i64 1, .int .i64 a, .int .i64 b1, .int .i64 cc, .int .i64 imm] 43)) w1.heap.size 43 [.int .i64 1, .int .i64 a, .int .i64 b1, .int .i64 cc, .int .i64 imm] := Holds.new w1 _ _
  have k1 := hg3.code.cell (i := 0) rfl
  have k2 := hg3.spot.cell (i := 0) rfl
  have k22 := hg3.spot.cell (i := 1) rfl
  have HG1 := Lib.hid hg1; clear hg1
  have HG3 := Lib.hid hg3; clear hg3
  have HI3 := Lib.hid hi3; clear hi3
  have HB3 := Lib.hid hb3; clear hb3
  have HJ1 := Lib.hid hj1; clear hj1
  clear hg2 hr2
  have HB2 := Lib.hid hb2; clear hb2
  clear HG HR H0 HHas HL c1 c2 c22 c30 c31 c32 c33 c34 hr1 hb1
  gi_wp2_with fail
  refine wpIn_wide.2 ?_
  go_region
  have hj4 : J [] (w1.alloc (.cells #[.int .i64 1, .int .i64 a, .int .i64 b1, .int .i64 cc, .int .i64 imm] 43)).drew := HJb.out _ _ _ HJ1.out (below_drewN HB3.out 1)
  have hg4 : GoAt (w1.alloc (.cells #[.int .i64 1, .int .i64 a, .int .i64 b1, .int .i64 cc, .int .i64 imm] 43)).drew Ba Bb n cap (some ⟨q, o, none⟩) (k, x) := HG3.out.same rfl rfl
  have hi4 : Holds (w1.alloc (.cells #[.int .i64 1, .int .i64 a, .int .i64 b1, .int .i64 cc, .int .i64 imm] 43)).drew w1.heap.size 43 [.int .i64 1, .int .i64 a, .int .i64 b1, .int .i64 cc, .int .i64 imm] := HI3.out
  clear e1 e2 e22 e30 e31 e32 e33 e34 d1 d2 d30 d31 d32 d33 d34 k1 k2 k22 HG1 HG3 HI3 HB3 HB2 HJ1
  generalize (w1.alloc (.cells #[.int .i64 1, .int .i64 a, .int .i64 b1, .int .i64 cc, .int .i64 imm] 43)).drew = w4 at *
  obtain ⟨gb, hgb⟩ : ∃ gb, w1.heap.size = gb := ⟨_, rfl⟩
  simp only [hgb] at *
  clear hgb
  have e1 := hg4.code.cell (i := 0) rfl
  have e2 := hg4.spot.cell (i := 0) rfl
  have e22 := hg4.spot.cell (i := 1) rfl
  have i0 := hi4.cell (i := 0) rfl
  have i4 := hi4.cell (i := 4) rfl
  have HG4 := Lib.hid hg4; clear hg4
  have HI4 := Lib.hid hi4; clear hi4
  have HJ4 := Lib.hid hj4; clear hj4
  gi_wp2_with fail
  refine bodyPost_ret (results_none rfl _ _ _) rfl ?_
  exact ⟨⟨_, rfl⟩, .inl HJ4.out⟩

set_option maxRecDepth 100000 in
set_option maxHeartbeats 2000000 in
theorem go_17t (l Ba Bb q o cap n k : Nat) (a b1 cc imm : Int) (hl : legalP ⟨17, a, b1, cc, imm⟩ = true) (w : World) (hk : k < n) (hn : n ≤ 1024) (hF : FormsAt w) (hg : GoAt w Ba Bb n cap (some ⟨q, o, none⟩) (k, true)) (hr : w.rangeAt q (o + k * 5) (In.cells ⟨17, a, b1, cc, imm⟩)) (S : Nat → Prop) (T : TypeId → Prop) (hS : S Ba ∧ S Bb) (hT : T 43) :
    SeqEach Fence.wide Tryz.prog 43 #[.pointer (some ⟨Ba, 0, none⟩), .pointer (some ⟨Bb, 0, none⟩)] encS (KpB S T) [] w l := by
  intro n' J Jx W hW _ hJ hJx hY h0
  have hJb : ∀ pre (X Y : World), J pre X → Below X.heap.size X Y → J pre Y := fun pre X Y hj hb => hJ pre X Y none hj (grown_below hb) (fun r e => by cases e)
  have hg0 := hg.same (hW.block _ hg.lt.1) (hW.block _ hg.lt.2)
  have hF0 := hF.same (hW.block _ hF.lt)
  have hr0 : W.rangeAt q (o + k * 5) (In.cells ⟨17, a, b1, cc, imm⟩) := rangeAt_same hr (hW.block _ (World.block_lt_of_cell? _ _ (hr 0 (.int .i64 (17)) rfl)))
  have hL := legal_any ⟨17, a, b1, cc, imm⟩ W hF0
  have hHas := has_lint (some ⟨q, o, none⟩) n cap (k : Nat) W
  rw [show hasL n (k : Nat) = true by unfold hasL; simp; omega] at hHas
  simp only [In.val] at hL
  have c1 := hg0.code.cell (i := 0) rfl
  have c2 := hg0.spot.cell (i := 0) rfl
  have c22 := hg0.spot.cell (i := 1) rfl
  have c30 : W.cell? ⟨q, o + k * 5, none⟩ = some (.int .i64 (17)) := hr0 0 _ rfl
  have c31 : W.cell? ⟨q, o + k * 5 + 1, none⟩ = some (.int .i64 a) := hr0 1 _ rfl
  have c32 : W.cell? ⟨q, o + k * 5 + 2, none⟩ = some (.int .i64 b1) := hr0 2 _ rfl
  have c33 : W.cell? ⟨q, o + k * 5 + 3, none⟩ = some (.int .i64 cc) := hr0 3 _ rfl
  have c34 : W.cell? ⟨q, o + k * 5 + 4, none⟩ = some (.int .i64 imm) := hr0 4 _ rfl
  have hk' : (k : Int) < (n : Int) := by omega
  have hkk : IntKind.i64.wrap ((k : Int) + 1) = (k : Int) + 1 := by rw [IntKind.wrap_i64]; omega
  have HJb := Lib.hid hJb; clear hJb
  have HY := Lib.hid hY; clear hY
  have HG := Lib.hid hg0; clear hg0
  have HR := Lib.hid hr0; clear hr0
  have HS := Lib.hid (And.intro hS hT); clear hS hT
  have H0 := Lib.hid h0; clear h0
  have HHas := Lib.hid hHas; clear hHas
  rw [hl] at hL
  have HL := Lib.hid hL; clear hL hl
  clear hJ hJx hW hF hF0 hg hr hn hk
  refine callsIn_of_wp Tryz.func43 rfl trivial ?_ rfl
  simp only [Tryz.ntmps43, List.size_toArray, List.length_cons, List.length_nil, Nat.reduceAdd, Nat.reduceSub, Array.replicate_succ, Array.replicate_zero, List.push_toArray, List.append_toArray, List.nil_append, List.cons_append]
  gi_wp2_with fail
  first | refine ⟨fun h => (by cases h), ?_⟩ | refine ⟨trivial, fun h => (by cases h), ?_⟩ | skip
  refine (callsIn_wide.2 HHas.out).mono ?_
  rintro e w1 ⟨rfl, rfl⟩
  gi_wp2_with fail
  first | refine ⟨fun h => (by cases h), ?_⟩ | refine ⟨trivial, fun h => (by cases h), ?_⟩ | skip
  refine (callsIn_wide.2 HL.out).mono ?_
  rintro e w1 ⟨rfl, hb1⟩
  have hj1 := HJb.out _ _ _ H0.out hb1
  have hg1 := HG.out.below hb1
  have hr1 : w1.rangeAt q (o + k * 5) (In.cells ⟨17, a, b1, cc, imm⟩) := rangeAt_same HR.out (hb1.block _ (World.block_lt_of_cell? _ _ (HR.out 0 (.int .i64 17) rfl)))
  have e1 := hg1.code.cell (i := 0) rfl
  have e2 := hg1.spot.cell (i := 0) rfl
  have e22 := hg1.spot.cell (i := 1) rfl
  have e30 : w1.cell? ⟨q, o + k * 5, none⟩ = some (.int .i64 17) := hr1 0 _ rfl
  have e31 : w1.cell? ⟨q, o + k * 5 + 1, none⟩ = some (.int .i64 a) := hr1 1 _ rfl
  have e32 : w1.cell? ⟨q, o + k * 5 + 2, none⟩ = some (.int .i64 b1) := hr1 2 _ rfl
  have e33 : w1.cell? ⟨q, o + k * 5 + 3, none⟩ = some (.int .i64 cc) := hr1 3 _ rfl
  have e34 : w1.cell? ⟨q, o + k * 5 + 4, none⟩ = some (.int .i64 imm) := hr1 4 _ rfl
  have hb2 : Below w1.heap.size w1 (w1.alloc (.cells #[.int .i64 0, .int .i64 0, .int .i64 0, .int .i64 0, .int .i64 0] 43)) := (Below.refl _ w1).alloc (Nat.le_refl _) _
  have hg2 := hg1.below hb2
  have hr2 := rangeAt_same hr1 (hb2.block _ (World.block_lt_of_cell? _ _ (hr1 0 (.int .i64 17) rfl)))
  have d1 := hg2.code.cell (i := 0) rfl
  have d2 := hg2.spot.cell (i := 0) rfl
  have d30 := hr2 0 (.int .i64 17) rfl
  have d31 := hr2 1 (.int .i64 a) rfl
  have d32 := hr2 2 (.int .i64 b1) rfl
  have d33 := hr2 3 (.int .i64 cc) rfl
  have d34 := hr2 4 (.int .i64 imm) rfl
  simp only [Nat.add_zero] at d30
  have hb3 : Below w1.heap.size w1 (w1.alloc (.cells #[.int .i64 17, .int .i64 a, .int .i64 b1, .int .i64 cc, .int .i64 imm] 43)) := (Below.refl _ w1).alloc (Nat.le_refl _) _
  have hg3 := hg1.below hb3
  have hi3 : Holds (w1.alloc (.cells #[.int .i64 17, .int .i64 a, .int .i64 b1, .int .i64 cc, .int .i64 imm] 43)) w1.heap.size 43 [.int .i64 17, .int .i64 a, .int .i64 b1, .int .i64 cc, .int .i64 imm] := Holds.new w1 _ _
  have k1 := hg3.code.cell (i := 0) rfl
  have k2 := hg3.spot.cell (i := 0) rfl
  have k22 := hg3.spot.cell (i := 1) rfl
  have HG1 := Lib.hid hg1; clear hg1
  have HG3 := Lib.hid hg3; clear hg3
  have HI3 := Lib.hid hi3; clear hi3
  have HB3 := Lib.hid hb3; clear hb3
  have HJ1 := Lib.hid hj1; clear hj1
  clear hg2 hr2
  have HB2 := Lib.hid hb2; clear hb2
  clear HG HR H0 HHas HL c1 c2 c22 c30 c31 c32 c33 c34 hr1 hb1
  gi_wp2_with fail
  refine wpIn_wide.2 ?_
  go_region
  have hj4 : J [] (w1.alloc (.cells #[.int .i64 17, .int .i64 a, .int .i64 b1, .int .i64 cc, .int .i64 imm] 43)).drew := HJb.out _ _ _ HJ1.out (below_drewN HB3.out 1)
  have hg4 : GoAt (w1.alloc (.cells #[.int .i64 17, .int .i64 a, .int .i64 b1, .int .i64 cc, .int .i64 imm] 43)).drew Ba Bb n cap (some ⟨q, o, none⟩) (k, true) := HG3.out.same rfl rfl
  have hi4 : Holds (w1.alloc (.cells #[.int .i64 17, .int .i64 a, .int .i64 b1, .int .i64 cc, .int .i64 imm] 43)).drew w1.heap.size 43 [.int .i64 17, .int .i64 a, .int .i64 b1, .int .i64 cc, .int .i64 imm] := HI3.out
  clear e1 e2 e22 e30 e31 e32 e33 e34 d1 d2 d30 d31 d32 d33 d34 k1 k2 k22 HG1 HG3 HI3 HB3 HB2 HJ1
  generalize (w1.alloc (.cells #[.int .i64 17, .int .i64 a, .int .i64 b1, .int .i64 cc, .int .i64 imm] 43)).drew = w4 at *
  obtain ⟨gb, hgb⟩ : ∃ gb, w1.heap.size = gb := ⟨_, rfl⟩
  simp only [hgb] at *
  clear hgb
  have e1 := hg4.code.cell (i := 0) rfl
  have e2 := hg4.spot.cell (i := 0) rfl
  have e22 := hg4.spot.cell (i := 1) rfl
  have i0 := hi4.cell (i := 0) rfl
  have i4 := hi4.cell (i := 4) rfl
  have HG4 := Lib.hid hg4; clear hg4
  have HI4 := Lib.hid hi4; clear hi4
  have HJ4 := Lib.hid hj4; clear hj4
  gi_wp2_with fail
  refine bodyPost_ret (results_none rfl _ _ _) rfl ?_
  exact ⟨⟨_, rfl⟩, .inl HJ4.out⟩

set_option maxRecDepth 100000 in
set_option maxHeartbeats 2000000 in
theorem go_18f (l Ba Bb q o cap n k : Nat) (a b1 cc imm : Int) (hl : legalP ⟨18, a, b1, cc, imm⟩ = true) (w : World) (hk : k < n) (hn : n ≤ 1024) (hF : FormsAt w) (hg : GoAt w Ba Bb n cap (some ⟨q, o, none⟩) (k, false)) (hr : w.rangeAt q (o + k * 5) (In.cells ⟨18, a, b1, cc, imm⟩)) (S : Nat → Prop) (T : TypeId → Prop) (hS : S Ba ∧ S Bb) (hT : T 43) :
    SeqEach Fence.wide Tryz.prog 43 #[.pointer (some ⟨Ba, 0, none⟩), .pointer (some ⟨Bb, 0, none⟩)] encS (KpB S T) [] w l := by
  intro n' J Jx W hW _ hJ hJx hY h0
  have hJb : ∀ pre (X Y : World), J pre X → Below X.heap.size X Y → J pre Y := fun pre X Y hj hb => hJ pre X Y none hj (grown_below hb) (fun r e => by cases e)
  have hg0 := hg.same (hW.block _ hg.lt.1) (hW.block _ hg.lt.2)
  have hF0 := hF.same (hW.block _ hF.lt)
  have hr0 : W.rangeAt q (o + k * 5) (In.cells ⟨18, a, b1, cc, imm⟩) := rangeAt_same hr (hW.block _ (World.block_lt_of_cell? _ _ (hr 0 (.int .i64 (18)) rfl)))
  have hL := legal_any ⟨18, a, b1, cc, imm⟩ W hF0
  have hHas := has_lint (some ⟨q, o, none⟩) n cap (k : Nat) W
  rw [show hasL n (k : Nat) = true by unfold hasL; simp; omega] at hHas
  simp only [In.val] at hL
  have c1 := hg0.code.cell (i := 0) rfl
  have c2 := hg0.spot.cell (i := 0) rfl
  have c22 := hg0.spot.cell (i := 1) rfl
  have c30 : W.cell? ⟨q, o + k * 5, none⟩ = some (.int .i64 (18)) := hr0 0 _ rfl
  have c31 : W.cell? ⟨q, o + k * 5 + 1, none⟩ = some (.int .i64 a) := hr0 1 _ rfl
  have c32 : W.cell? ⟨q, o + k * 5 + 2, none⟩ = some (.int .i64 b1) := hr0 2 _ rfl
  have c33 : W.cell? ⟨q, o + k * 5 + 3, none⟩ = some (.int .i64 cc) := hr0 3 _ rfl
  have c34 : W.cell? ⟨q, o + k * 5 + 4, none⟩ = some (.int .i64 imm) := hr0 4 _ rfl
  have hk' : (k : Int) < (n : Int) := by omega
  have hkk : IntKind.i64.wrap ((k : Int) + 1) = (k : Int) + 1 := by rw [IntKind.wrap_i64]; omega
  have HJb := Lib.hid hJb; clear hJb
  have HY := Lib.hid hY; clear hY
  have HG := Lib.hid hg0; clear hg0
  have HR := Lib.hid hr0; clear hr0
  have HS := Lib.hid (And.intro hS hT); clear hS hT
  have H0 := Lib.hid h0; clear h0
  have HHas := Lib.hid hHas; clear hHas
  rw [hl] at hL
  have HL := Lib.hid hL; clear hL hl
  clear hJ hJx hW hF hF0 hg hr hn hk
  refine callsIn_of_wp Tryz.func43 rfl trivial ?_ rfl
  simp only [Tryz.ntmps43, List.size_toArray, List.length_cons, List.length_nil, Nat.reduceAdd, Nat.reduceSub, Array.replicate_succ, Array.replicate_zero, List.push_toArray, List.append_toArray, List.nil_append, List.cons_append]
  gi_wp2_with fail
  first | refine ⟨fun h => (by cases h), ?_⟩ | refine ⟨trivial, fun h => (by cases h), ?_⟩ | skip
  refine (callsIn_wide.2 HHas.out).mono ?_
  rintro e w1 ⟨rfl, rfl⟩
  gi_wp2_with fail
  first | refine ⟨fun h => (by cases h), ?_⟩ | refine ⟨trivial, fun h => (by cases h), ?_⟩ | skip
  refine (callsIn_wide.2 HL.out).mono ?_
  rintro e w1 ⟨rfl, hb1⟩
  have hj1 := HJb.out _ _ _ H0.out hb1
  have hg1 := HG.out.below hb1
  have hr1 : w1.rangeAt q (o + k * 5) (In.cells ⟨18, a, b1, cc, imm⟩) := rangeAt_same HR.out (hb1.block _ (World.block_lt_of_cell? _ _ (HR.out 0 (.int .i64 18) rfl)))
  have e1 := hg1.code.cell (i := 0) rfl
  have e2 := hg1.spot.cell (i := 0) rfl
  have e22 := hg1.spot.cell (i := 1) rfl
  have e30 : w1.cell? ⟨q, o + k * 5, none⟩ = some (.int .i64 18) := hr1 0 _ rfl
  have e31 : w1.cell? ⟨q, o + k * 5 + 1, none⟩ = some (.int .i64 a) := hr1 1 _ rfl
  have e32 : w1.cell? ⟨q, o + k * 5 + 2, none⟩ = some (.int .i64 b1) := hr1 2 _ rfl
  have e33 : w1.cell? ⟨q, o + k * 5 + 3, none⟩ = some (.int .i64 cc) := hr1 3 _ rfl
  have e34 : w1.cell? ⟨q, o + k * 5 + 4, none⟩ = some (.int .i64 imm) := hr1 4 _ rfl
  have hb2 : Below w1.heap.size w1 (w1.alloc (.cells #[.int .i64 0, .int .i64 0, .int .i64 0, .int .i64 0, .int .i64 0] 43)) := (Below.refl _ w1).alloc (Nat.le_refl _) _
  have hg2 := hg1.below hb2
  have hr2 := rangeAt_same hr1 (hb2.block _ (World.block_lt_of_cell? _ _ (hr1 0 (.int .i64 18) rfl)))
  have d1 := hg2.code.cell (i := 0) rfl
  have d2 := hg2.spot.cell (i := 0) rfl
  have d30 := hr2 0 (.int .i64 18) rfl
  have d31 := hr2 1 (.int .i64 a) rfl
  have d32 := hr2 2 (.int .i64 b1) rfl
  have d33 := hr2 3 (.int .i64 cc) rfl
  have d34 := hr2 4 (.int .i64 imm) rfl
  simp only [Nat.add_zero] at d30
  have hb3 : Below w1.heap.size w1 (w1.alloc (.cells #[.int .i64 18, .int .i64 a, .int .i64 b1, .int .i64 cc, .int .i64 imm] 43)) := (Below.refl _ w1).alloc (Nat.le_refl _) _
  have hg3 := hg1.below hb3
  have hi3 : Holds (w1.alloc (.cells #[.int .i64 18, .int .i64 a, .int .i64 b1, .int .i64 cc, .int .i64 imm] 43)) w1.heap.size 43 [.int .i64 18, .int .i64 a, .int .i64 b1, .int .i64 cc, .int .i64 imm] := Holds.new w1 _ _
  have k1 := hg3.code.cell (i := 0) rfl
  have k2 := hg3.spot.cell (i := 0) rfl
  have k22 := hg3.spot.cell (i := 1) rfl
  have HG1 := Lib.hid hg1; clear hg1
  have HG3 := Lib.hid hg3; clear hg3
  have HI3 := Lib.hid hi3; clear hi3
  have HB3 := Lib.hid hb3; clear hb3
  have HJ1 := Lib.hid hj1; clear hj1
  clear hg2 hr2
  have HB2 := Lib.hid hb2; clear hb2
  clear HG HR H0 HHas HL c1 c2 c22 c30 c31 c32 c33 c34 hr1 hb1
  gi_wp2_with fail
  refine wpIn_wide.2 ?_
  go_region
  have hj4 : J [] (w1.alloc (.cells #[.int .i64 18, .int .i64 a, .int .i64 b1, .int .i64 cc, .int .i64 imm] 43)).drew := HJb.out _ _ _ HJ1.out (below_drewN HB3.out 1)
  have hg4 : GoAt (w1.alloc (.cells #[.int .i64 18, .int .i64 a, .int .i64 b1, .int .i64 cc, .int .i64 imm] 43)).drew Ba Bb n cap (some ⟨q, o, none⟩) (k, false) := HG3.out.same rfl rfl
  have hi4 : Holds (w1.alloc (.cells #[.int .i64 18, .int .i64 a, .int .i64 b1, .int .i64 cc, .int .i64 imm] 43)).drew w1.heap.size 43 [.int .i64 18, .int .i64 a, .int .i64 b1, .int .i64 cc, .int .i64 imm] := HI3.out
  clear e1 e2 e22 e30 e31 e32 e33 e34 d1 d2 d30 d31 d32 d33 d34 k1 k2 k22 HG1 HG3 HI3 HB3 HB2 HJ1
  generalize (w1.alloc (.cells #[.int .i64 18, .int .i64 a, .int .i64 b1, .int .i64 cc, .int .i64 imm] 43)).drew = w4 at *
  obtain ⟨gb, hgb⟩ : ∃ gb, w1.heap.size = gb := ⟨_, rfl⟩
  simp only [hgb] at *
  clear hgb
  have e1 := hg4.code.cell (i := 0) rfl
  have e2 := hg4.spot.cell (i := 0) rfl
  have e22 := hg4.spot.cell (i := 1) rfl
  have i0 := hi4.cell (i := 0) rfl
  have i4 := hi4.cell (i := 4) rfl
  have HG4 := Lib.hid hg4; clear hg4
  have HI4 := Lib.hid hi4; clear hi4
  have HJ4 := Lib.hid hj4; clear hj4
  gi_wp2_with fail
  refine bodyPost_ret (results_none rfl _ _ _) rfl ?_
  exact ⟨⟨_, rfl⟩, .inl HJ4.out⟩

set_option maxRecDepth 100000 in
set_option maxHeartbeats 2000000 in
theorem go_17f (l Ba Bb q o cap n k : Nat) (a b1 cc imm : Int) (hl : legalP ⟨17, a, b1, cc, imm⟩ = true) (w : World) (hk : k < n) (hn : n ≤ 1024) (hF : FormsAt w) (hg : GoAt w Ba Bb n cap (some ⟨q, o, none⟩) (k, false)) (hr : w.rangeAt q (o + k * 5) (In.cells ⟨17, a, b1, cc, imm⟩)) (S : Nat → Prop) (T : TypeId → Prop) (hS : S Ba ∧ S Bb) (hT : T 43) :
    SeqEach Fence.wide Tryz.prog 43 #[.pointer (some ⟨Ba, 0, none⟩), .pointer (some ⟨Bb, 0, none⟩)] encS (KpB S T) [(k + 1, true)] w l := by
  intro n' J Jx W hW _ hJ hJx hY h0
  have hJb : ∀ pre (X Y : World), J pre X → Below X.heap.size X Y → J pre Y := fun pre X Y hj hb => hJ pre X Y none hj (grown_below hb) (fun r e => by cases e)
  have hg0 := hg.same (hW.block _ hg.lt.1) (hW.block _ hg.lt.2)
  have hF0 := hF.same (hW.block _ hF.lt)
  have hr0 : W.rangeAt q (o + k * 5) (In.cells ⟨17, a, b1, cc, imm⟩) := rangeAt_same hr (hW.block _ (World.block_lt_of_cell? _ _ (hr 0 (.int .i64 (17)) rfl)))
  have hL := legal_any ⟨17, a, b1, cc, imm⟩ W hF0
  have hHas := has_lint (some ⟨q, o, none⟩) n cap (k : Nat) W
  rw [show hasL n (k : Nat) = true by unfold hasL; simp; omega] at hHas
  simp only [In.val] at hL
  have c1 := hg0.code.cell (i := 0) rfl
  have c2 := hg0.spot.cell (i := 0) rfl
  have c22 := hg0.spot.cell (i := 1) rfl
  have c30 : W.cell? ⟨q, o + k * 5, none⟩ = some (.int .i64 (17)) := hr0 0 _ rfl
  have c31 : W.cell? ⟨q, o + k * 5 + 1, none⟩ = some (.int .i64 a) := hr0 1 _ rfl
  have c32 : W.cell? ⟨q, o + k * 5 + 2, none⟩ = some (.int .i64 b1) := hr0 2 _ rfl
  have c33 : W.cell? ⟨q, o + k * 5 + 3, none⟩ = some (.int .i64 cc) := hr0 3 _ rfl
  have c34 : W.cell? ⟨q, o + k * 5 + 4, none⟩ = some (.int .i64 imm) := hr0 4 _ rfl
  have hk' : (k : Int) < (n : Int) := by omega
  have hkk : IntKind.i64.wrap ((k : Int) + 1) = (k : Int) + 1 := by rw [IntKind.wrap_i64]; omega
  have HJb := Lib.hid hJb; clear hJb
  have HY := Lib.hid hY; clear hY
  have HG := Lib.hid hg0; clear hg0
  have HR := Lib.hid hr0; clear hr0
  have HS := Lib.hid (And.intro hS hT); clear hS hT
  have H0 := Lib.hid h0; clear h0
  have HHas := Lib.hid hHas; clear hHas
  rw [hl] at hL
  have HL := Lib.hid hL; clear hL hl
  clear hJ hJx hW hF hF0 hg hr hn hk
  refine callsIn_of_wp Tryz.func43 rfl trivial ?_ rfl
  simp only [Tryz.ntmps43, List.size_toArray, List.length_cons, List.length_nil, Nat.reduceAdd, Nat.reduceSub, Array.replicate_succ, Array.replicate_zero, List.push_toArray, List.append_toArray, List.nil_append, List.cons_append]
  gi_wp2_with fail
  first | refine ⟨fun h => (by cases h), ?_⟩ | refine ⟨trivial, fun h => (by cases h), ?_⟩ | skip
  refine (callsIn_wide.2 HHas.out).mono ?_
  rintro e w1 ⟨rfl, rfl⟩
  gi_wp2_with fail
  first | refine ⟨fun h => (by cases h), ?_⟩ | refine ⟨trivial, fun h => (by cases h), ?_⟩ | skip
  refine (callsIn_wide.2 HL.out).mono ?_
  rintro e w1 ⟨rfl, hb1⟩
  have hj1 := HJb.out _ _ _ H0.out hb1
  have hg1 := HG.out.below hb1
  have hr1 : w1.rangeAt q (o + k * 5) (In.cells ⟨17, a, b1, cc, imm⟩) := rangeAt_same HR.out (hb1.block _ (World.block_lt_of_cell? _ _ (HR.out 0 (.int .i64 17) rfl)))
  have e1 := hg1.code.cell (i := 0) rfl
  have e2 := hg1.spot.cell (i := 0) rfl
  have e22 := hg1.spot.cell (i := 1) rfl
  have e30 : w1.cell? ⟨q, o + k * 5, none⟩ = some (.int .i64 17) := hr1 0 _ rfl
  have e31 : w1.cell? ⟨q, o + k * 5 + 1, none⟩ = some (.int .i64 a) := hr1 1 _ rfl
  have e32 : w1.cell? ⟨q, o + k * 5 + 2, none⟩ = some (.int .i64 b1) := hr1 2 _ rfl
  have e33 : w1.cell? ⟨q, o + k * 5 + 3, none⟩ = some (.int .i64 cc) := hr1 3 _ rfl
  have e34 : w1.cell? ⟨q, o + k * 5 + 4, none⟩ = some (.int .i64 imm) := hr1 4 _ rfl
  have hb2 : Below w1.heap.size w1 (w1.alloc (.cells #[.int .i64 0, .int .i64 0, .int .i64 0, .int .i64 0, .int .i64 0] 43)) := (Below.refl _ w1).alloc (Nat.le_refl _) _
  have hg2 := hg1.below hb2
  have hr2 := rangeAt_same hr1 (hb2.block _ (World.block_lt_of_cell? _ _ (hr1 0 (.int .i64 17) rfl)))
  have d1 := hg2.code.cell (i := 0) rfl
  have d2 := hg2.spot.cell (i := 0) rfl
  have d30 := hr2 0 (.int .i64 17) rfl
  have d31 := hr2 1 (.int .i64 a) rfl
  have d32 := hr2 2 (.int .i64 b1) rfl
  have d33 := hr2 3 (.int .i64 cc) rfl
  have d34 := hr2 4 (.int .i64 imm) rfl
  simp only [Nat.add_zero] at d30
  have hb3 : Below w1.heap.size w1 (w1.alloc (.cells #[.int .i64 17, .int .i64 a, .int .i64 b1, .int .i64 cc, .int .i64 imm] 43)) := (Below.refl _ w1).alloc (Nat.le_refl _) _
  have hg3 := hg1.below hb3
  have hi3 : Holds (w1.alloc (.cells #[.int .i64 17, .int .i64 a, .int .i64 b1, .int .i64 cc, .int .i64 imm] 43)) w1.heap.size 43 [.int .i64 17, .int .i64 a, .int .i64 b1, .int .i64 cc, .int .i64 imm] := Holds.new w1 _ _
  have k1 := hg3.code.cell (i := 0) rfl
  have k2 := hg3.spot.cell (i := 0) rfl
  have k22 := hg3.spot.cell (i := 1) rfl
  have HG1 := Lib.hid hg1; clear hg1
  have HG3 := Lib.hid hg3; clear hg3
  have HI3 := Lib.hid hi3; clear hi3
  have HB3 := Lib.hid hb3; clear hb3
  have HJ1 := Lib.hid hj1; clear hj1
  clear hg2 hr2
  have HB2 := Lib.hid hb2; clear hb2
  clear HG HR H0 HHas HL c1 c2 c22 c30 c31 c32 c33 c34 hr1 hb1
  gi_wp2_with fail
  refine wpIn_wide.2 ?_
  go_region
  have hj4 : J [] (w1.alloc (.cells #[.int .i64 17, .int .i64 a, .int .i64 b1, .int .i64 cc, .int .i64 imm] 43)).drew := HJb.out _ _ _ HJ1.out (below_drewN HB3.out 1)
  have hg4 : GoAt (w1.alloc (.cells #[.int .i64 17, .int .i64 a, .int .i64 b1, .int .i64 cc, .int .i64 imm] 43)).drew Ba Bb n cap (some ⟨q, o, none⟩) (k, false) := HG3.out.same rfl rfl
  have hi4 : Holds (w1.alloc (.cells #[.int .i64 17, .int .i64 a, .int .i64 b1, .int .i64 cc, .int .i64 imm] 43)).drew w1.heap.size 43 [.int .i64 17, .int .i64 a, .int .i64 b1, .int .i64 cc, .int .i64 imm] := HI3.out
  clear e1 e2 e22 e30 e31 e32 e33 e34 d1 d2 d30 d31 d32 d33 d34 k1 k2 k22 HG1 HG3 HI3 HB3 HB2 HJ1
  generalize (w1.alloc (.cells #[.int .i64 17, .int .i64 a, .int .i64 b1, .int .i64 cc, .int .i64 imm] 43)).drew = w4 at *
  obtain ⟨gb, hgb⟩ : ∃ gb, w1.heap.size = gb := ⟨_, rfl⟩
  simp only [hgb] at *
  clear hgb
  have e1 := hg4.code.cell (i := 0) rfl
  have e2 := hg4.spot.cell (i := 0) rfl
  have e22 := hg4.spot.cell (i := 1) rfl
  have i0 := hi4.cell (i := 0) rfl
  have i4 := hi4.cell (i := 4) rfl
  have HG4 := Lib.hid hg4; clear hg4
  have HI4 := Lib.hid hi4; clear hi4
  have HJ4 := Lib.hid hj4; clear hj4
  obtain ⟨fn, tmps, assign, body, hy, hR⟩ := HY.out (n' - 1) [] (k + 1, true) [] _ rfl HJ4.out
  have HR := Lib.hid hR; clear hR
  simp only [encS, Int.natCast_add, Int.cast_ofNat_Int] at hy
  gi_wp2_with fail
  refine ⟨fun h => (by cases h), HR.out.mono ?_⟩
  rintro e W9 (⟨rfl, hJ9, _⟩ | ⟨rfl, hJ9, _⟩)
  · have HJ9 := Lib.hid hJ9; clear hJ9
    gi_wp2
    refine bodyPost_ret (results_none rfl _ _ _) rfl ?_
    exact ⟨⟨_, rfl⟩, .inl HJ9.out⟩
  · have HJ9 := Lib.hid hJ9; clear hJ9
    gi_wp2
    refine bodyPost_ret (results_none rfl _ _ _) rfl ?_
    exact ⟨⟨_, rfl⟩, .inr ⟨_, ⟨[], by simp⟩, HJ9.out⟩⟩

set_option maxRecDepth 100000 in
set_option maxHeartbeats 2000000 in
theorem go_18t (l Ba Bb q o cap n k : Nat) (a b1 cc imm : Int) (hl : legalP ⟨18, a, b1, cc, imm⟩ = true) (w : World) (hk : k < n) (hn : n ≤ 1024) (hF : FormsAt w) (hg : GoAt w Ba Bb n cap (some ⟨q, o, none⟩) (k, true)) (hr : w.rangeAt q (o + k * 5) (In.cells ⟨18, a, b1, cc, imm⟩)) (S : Nat → Prop) (T : TypeId → Prop) (hS : S Ba ∧ S Bb) (hT : T 43) :
    SeqEach Fence.wide Tryz.prog 43 #[.pointer (some ⟨Ba, 0, none⟩), .pointer (some ⟨Bb, 0, none⟩)] encS (KpB S T) [(k + 1, false)] w l := by
  intro n' J Jx W hW _ hJ hJx hY h0
  have hJb : ∀ pre (X Y : World), J pre X → Below X.heap.size X Y → J pre Y := fun pre X Y hj hb => hJ pre X Y none hj (grown_below hb) (fun r e => by cases e)
  have hg0 := hg.same (hW.block _ hg.lt.1) (hW.block _ hg.lt.2)
  have hF0 := hF.same (hW.block _ hF.lt)
  have hr0 : W.rangeAt q (o + k * 5) (In.cells ⟨18, a, b1, cc, imm⟩) := rangeAt_same hr (hW.block _ (World.block_lt_of_cell? _ _ (hr 0 (.int .i64 (18)) rfl)))
  have hL := legal_any ⟨18, a, b1, cc, imm⟩ W hF0
  have hHas := has_lint (some ⟨q, o, none⟩) n cap (k : Nat) W
  rw [show hasL n (k : Nat) = true by unfold hasL; simp; omega] at hHas
  simp only [In.val] at hL
  have c1 := hg0.code.cell (i := 0) rfl
  have c2 := hg0.spot.cell (i := 0) rfl
  have c22 := hg0.spot.cell (i := 1) rfl
  have c30 : W.cell? ⟨q, o + k * 5, none⟩ = some (.int .i64 (18)) := hr0 0 _ rfl
  have c31 : W.cell? ⟨q, o + k * 5 + 1, none⟩ = some (.int .i64 a) := hr0 1 _ rfl
  have c32 : W.cell? ⟨q, o + k * 5 + 2, none⟩ = some (.int .i64 b1) := hr0 2 _ rfl
  have c33 : W.cell? ⟨q, o + k * 5 + 3, none⟩ = some (.int .i64 cc) := hr0 3 _ rfl
  have c34 : W.cell? ⟨q, o + k * 5 + 4, none⟩ = some (.int .i64 imm) := hr0 4 _ rfl
  have hk' : (k : Int) < (n : Int) := by omega
  have hkk : IntKind.i64.wrap ((k : Int) + 1) = (k : Int) + 1 := by rw [IntKind.wrap_i64]; omega
  have HJb := Lib.hid hJb; clear hJb
  have HY := Lib.hid hY; clear hY
  have HG := Lib.hid hg0; clear hg0
  have HR := Lib.hid hr0; clear hr0
  have HS := Lib.hid (And.intro hS hT); clear hS hT
  have H0 := Lib.hid h0; clear h0
  have HHas := Lib.hid hHas; clear hHas
  rw [hl] at hL
  have HL := Lib.hid hL; clear hL hl
  clear hJ hJx hW hF hF0 hg hr hn hk
  refine callsIn_of_wp Tryz.func43 rfl trivial ?_ rfl
  simp only [Tryz.ntmps43, List.size_toArray, List.length_cons, List.length_nil, Nat.reduceAdd, Nat.reduceSub, Array.replicate_succ, Array.replicate_zero, List.push_toArray, List.append_toArray, List.nil_append, List.cons_append]
  gi_wp2_with fail
  first | refine ⟨fun h => (by cases h), ?_⟩ | refine ⟨trivial, fun h => (by cases h), ?_⟩ | skip
  refine (callsIn_wide.2 HHas.out).mono ?_
  rintro e w1 ⟨rfl, rfl⟩
  gi_wp2_with fail
  first | refine ⟨fun h => (by cases h), ?_⟩ | refine ⟨trivial, fun h => (by cases h), ?_⟩ | skip
  refine (callsIn_wide.2 HL.out).mono ?_
  rintro e w1 ⟨rfl, hb1⟩
  have hj1 := HJb.out _ _ _ H0.out hb1
  have hg1 := HG.out.below hb1
  have hr1 : w1.rangeAt q (o + k * 5) (In.cells ⟨18, a, b1, cc, imm⟩) := rangeAt_same HR.out (hb1.block _ (World.block_lt_of_cell? _ _ (HR.out 0 (.int .i64 18) rfl)))
  have e1 := hg1.code.cell (i := 0) rfl
  have e2 := hg1.spot.cell (i := 0) rfl
  have e22 := hg1.spot.cell (i := 1) rfl
  have e30 : w1.cell? ⟨q, o + k * 5, none⟩ = some (.int .i64 18) := hr1 0 _ rfl
  have e31 : w1.cell? ⟨q, o + k * 5 + 1, none⟩ = some (.int .i64 a) := hr1 1 _ rfl
  have e32 : w1.cell? ⟨q, o + k * 5 + 2, none⟩ = some (.int .i64 b1) := hr1 2 _ rfl
  have e33 : w1.cell? ⟨q, o + k * 5 + 3, none⟩ = some (.int .i64 cc) := hr1 3 _ rfl
  have e34 : w1.cell? ⟨q, o + k * 5 + 4, none⟩ = some (.int .i64 imm) := hr1 4 _ rfl
  have hb2 : Below w1.heap.size w1 (w1.alloc (.cells #[.int .i64 0, .int .i64 0, .int .i64 0, .int .i64 0, .int .i64 0] 43)) := (Below.refl _ w1).alloc (Nat.le_refl _) _
  have hg2 := hg1.below hb2
  have hr2 := rangeAt_same hr1 (hb2.block _ (World.block_lt_of_cell? _ _ (hr1 0 (.int .i64 18) rfl)))
  have d1 := hg2.code.cell (i := 0) rfl
  have d2 := hg2.spot.cell (i := 0) rfl
  have d30 := hr2 0 (.int .i64 18) rfl
  have d31 := hr2 1 (.int .i64 a) rfl
  have d32 := hr2 2 (.int .i64 b1) rfl
  have d33 := hr2 3 (.int .i64 cc) rfl
  have d34 := hr2 4 (.int .i64 imm) rfl
  simp only [Nat.add_zero] at d30
  have hb3 : Below w1.heap.size w1 (w1.alloc (.cells #[.int .i64 18, .int .i64 a, .int .i64 b1, .int .i64 cc, .int .i64 imm] 43)) := (Below.refl _ w1).alloc (Nat.le_refl _) _
  have hg3 := hg1.below hb3
  have hi3 : Holds (w1.alloc (.cells #[.int .i64 18, .int .i64 a, .int .i64 b1, .int .i64 cc, .int .i64 imm] 43)) w1.heap.size 43 [.int .i64 18, .int .i64 a, .int .i64 b1, .int .i64 cc, .int .i64 imm] := Holds.new w1 _ _
  have k1 := hg3.code.cell (i := 0) rfl
  have k2 := hg3.spot.cell (i := 0) rfl
  have k22 := hg3.spot.cell (i := 1) rfl
  have HG1 := Lib.hid hg1; clear hg1
  have HG3 := Lib.hid hg3; clear hg3
  have HI3 := Lib.hid hi3; clear hi3
  have HB3 := Lib.hid hb3; clear hb3
  have HJ1 := Lib.hid hj1; clear hj1
  clear hg2 hr2
  have HB2 := Lib.hid hb2; clear hb2
  clear HG HR H0 HHas HL c1 c2 c22 c30 c31 c32 c33 c34 hr1 hb1
  gi_wp2_with fail
  refine wpIn_wide.2 ?_
  go_region
  have hj4 : J [] (w1.alloc (.cells #[.int .i64 18, .int .i64 a, .int .i64 b1, .int .i64 cc, .int .i64 imm] 43)).drew := HJb.out _ _ _ HJ1.out (below_drewN HB3.out 1)
  have hg4 : GoAt (w1.alloc (.cells #[.int .i64 18, .int .i64 a, .int .i64 b1, .int .i64 cc, .int .i64 imm] 43)).drew Ba Bb n cap (some ⟨q, o, none⟩) (k, true) := HG3.out.same rfl rfl
  have hi4 : Holds (w1.alloc (.cells #[.int .i64 18, .int .i64 a, .int .i64 b1, .int .i64 cc, .int .i64 imm] 43)).drew w1.heap.size 43 [.int .i64 18, .int .i64 a, .int .i64 b1, .int .i64 cc, .int .i64 imm] := HI3.out
  clear e1 e2 e22 e30 e31 e32 e33 e34 d1 d2 d30 d31 d32 d33 d34 k1 k2 k22 HG1 HG3 HI3 HB3 HB2 HJ1
  generalize (w1.alloc (.cells #[.int .i64 18, .int .i64 a, .int .i64 b1, .int .i64 cc, .int .i64 imm] 43)).drew = w4 at *
  obtain ⟨gb, hgb⟩ : ∃ gb, w1.heap.size = gb := ⟨_, rfl⟩
  simp only [hgb] at *
  clear hgb
  have e1 := hg4.code.cell (i := 0) rfl
  have e2 := hg4.spot.cell (i := 0) rfl
  have e22 := hg4.spot.cell (i := 1) rfl
  have i0 := hi4.cell (i := 0) rfl
  have i4 := hi4.cell (i := 4) rfl
  have HG4 := Lib.hid hg4; clear hg4
  have HI4 := Lib.hid hi4; clear hi4
  have HJ4 := Lib.hid hj4; clear hj4
  obtain ⟨fn, tmps, assign, body, hy, hR⟩ := HY.out (n' - 1) [] (k + 1, false) [] _ rfl HJ4.out
  have HR := Lib.hid hR; clear hR
  simp only [encS, Int.natCast_add, Int.cast_ofNat_Int] at hy
  gi_wp2_with fail
  refine ⟨fun h => (by cases h), HR.out.mono ?_⟩
  rintro e W9 (⟨rfl, hJ9, _⟩ | ⟨rfl, hJ9, _⟩)
  · have HJ9 := Lib.hid hJ9; clear hJ9
    gi_wp2
    refine bodyPost_ret (results_none rfl _ _ _) rfl ?_
    exact ⟨⟨_, rfl⟩, .inl HJ9.out⟩
  · have HJ9 := Lib.hid hJ9; clear hJ9
    gi_wp2
    refine bodyPost_ret (results_none rfl _ _ _) rfl ?_
    exact ⟨⟨_, rfl⟩, .inr ⟨_, ⟨[], by simp⟩, HJ9.out⟩⟩

set_option maxRecDepth 100000 in
set_option maxHeartbeats 2000000 in
theorem go_13f (l Ba Bb q o cap n k : Nat) (a b1 cc imm : Int) (x : Bool) (hl : legalP ⟨13, a, b1, cc, imm⟩ = true) (hp : isPl imm = false) (w : World) (hk : k < n) (hn : n ≤ 1024) (hF : FormsAt w) (hg : GoAt w Ba Bb n cap (some ⟨q, o, none⟩) (k, x)) (hr : w.rangeAt q (o + k * 5) (In.cells ⟨13, a, b1, cc, imm⟩)) (S : Nat → Prop) (T : TypeId → Prop) (hS : S Ba ∧ S Bb) (hT : T 43) :
    SeqEach Fence.wide Tryz.prog 43 #[.pointer (some ⟨Ba, 0, none⟩), .pointer (some ⟨Bb, 0, none⟩)] encS (KpB S T) [] w l := by
  intro n' J Jx W hW _ hJ hJx hY h0
  have hJb : ∀ pre (X Y : World), J pre X → Below X.heap.size X Y → J pre Y := fun pre X Y hj hb => hJ pre X Y none hj (grown_below hb) (fun r e => by cases e)
  have hg0 := hg.same (hW.block _ hg.lt.1) (hW.block _ hg.lt.2)
  have hF0 := hF.same (hW.block _ hF.lt)
  have hr0 : W.rangeAt q (o + k * 5) (In.cells ⟨13, a, b1, cc, imm⟩) := rangeAt_same hr (hW.block _ (World.block_lt_of_cell? _ _ (hr 0 (.int .i64 (13)) rfl)))
  have hL := legal_any ⟨13, a, b1, cc, imm⟩ W hF0
  have hHas := has_lint (some ⟨q, o, none⟩) n cap (k : Nat) W
  rw [show hasL n (k : Nat) = true by unfold hasL; simp; omega] at hHas
  simp only [In.val] at hL
  have c1 := hg0.code.cell (i := 0) rfl
  have c2 := hg0.spot.cell (i := 0) rfl
  have c22 := hg0.spot.cell (i := 1) rfl
  have c30 : W.cell? ⟨q, o + k * 5, none⟩ = some (.int .i64 (13)) := hr0 0 _ rfl
  have c31 : W.cell? ⟨q, o + k * 5 + 1, none⟩ = some (.int .i64 a) := hr0 1 _ rfl
  have c32 : W.cell? ⟨q, o + k * 5 + 2, none⟩ = some (.int .i64 b1) := hr0 2 _ rfl
  have c33 : W.cell? ⟨q, o + k * 5 + 3, none⟩ = some (.int .i64 cc) := hr0 3 _ rfl
  have c34 : W.cell? ⟨q, o + k * 5 + 4, none⟩ = some (.int .i64 imm) := hr0 4 _ rfl
  have hk' : (k : Int) < (n : Int) := by omega
  have hkk : IntKind.i64.wrap ((k : Int) + 1) = (k : Int) + 1 := by rw [IntKind.wrap_i64]; omega
  have HJb := Lib.hid hJb; clear hJb
  have HY := Lib.hid hY; clear hY
  have HG := Lib.hid hg0; clear hg0
  have HR := Lib.hid hr0; clear hr0
  have HS := Lib.hid (And.intro hS hT); clear hS hT
  have H0 := Lib.hid h0; clear h0
  have HHas := Lib.hid hHas; clear hHas
  rw [hl] at hL
  have HL := Lib.hid hL; clear hL hl
  have hP := fun (V : World) => isPl_any imm V
  rw [hp] at hP
  have HPL := Lib.hid hP; clear hP hp
  clear hJ hJx hW hF hF0 hg hr hn hk
  refine callsIn_of_wp Tryz.func43 rfl trivial ?_ rfl
  simp only [Tryz.ntmps43, List.size_toArray, List.length_cons, List.length_nil, Nat.reduceAdd, Nat.reduceSub, Array.replicate_succ, Array.replicate_zero, List.push_toArray, List.append_toArray, List.nil_append, List.cons_append]
  gi_wp2_with fail
  first | refine ⟨fun h => (by cases h), ?_⟩ | refine ⟨trivial, fun h => (by cases h), ?_⟩ | skip
  refine (callsIn_wide.2 HHas.out).mono ?_
  rintro e w1 ⟨rfl, rfl⟩
  gi_wp2_with fail
  first | refine ⟨fun h => (by cases h), ?_⟩ | refine ⟨trivial, fun h => (by cases h), ?_⟩ | skip
  refine (callsIn_wide.2 HL.out).mono ?_
  rintro e w1 ⟨rfl, hb1⟩
  have hj1 := HJb.out _ _ _ H0.out hb1
  have hg1 := HG.out.below hb1
  have hr1 : w1.rangeAt q (o + k * 5) (In.cells ⟨13, a, b1, cc, imm⟩) := rangeAt_same HR.out (hb1.block _ (World.block_lt_of_cell? _ _ (HR.out 0 (.int .i64 13) rfl)))
  have e1 := hg1.code.cell (i := 0) rfl
  have e2 := hg1.spot.cell (i := 0) rfl
  have e22 := hg1.spot.cell (i := 1) rfl
  have e30 : w1.cell? ⟨q, o + k * 5, none⟩ = some (.int .i64 13) := hr1 0 _ rfl
  have e31 : w1.cell? ⟨q, o + k * 5 + 1, none⟩ = some (.int .i64 a) := hr1 1 _ rfl
  have e32 : w1.cell? ⟨q, o + k * 5 + 2, none⟩ = some (.int .i64 b1) := hr1 2 _ rfl
  have e33 : w1.cell? ⟨q, o + k * 5 + 3, none⟩ = some (.int .i64 cc) := hr1 3 _ rfl
  have e34 : w1.cell? ⟨q, o + k * 5 + 4, none⟩ = some (.int .i64 imm) := hr1 4 _ rfl
  have hb2 : Below w1.heap.size w1 (w1.alloc (.cells #[.int .i64 0, .int .i64 0, .int .i64 0, .int .i64 0, .int .i64 0] 43)) := (Below.refl _ w1).alloc (Nat.le_refl _) _
  have hg2 := hg1.below hb2
  have hr2 := rangeAt_same hr1 (hb2.block _ (World.block_lt_of_cell? _ _ (hr1 0 (.int .i64 13) rfl)))
  have d1 := hg2.code.cell (i := 0) rfl
  have d2 := hg2.spot.cell (i := 0) rfl
  have d30 := hr2 0 (.int .i64 13) rfl
  have d31 := hr2 1 (.int .i64 a) rfl
  have d32 := hr2 2 (.int .i64 b1) rfl
  have d33 := hr2 3 (.int .i64 cc) rfl
  have d34 := hr2 4 (.int .i64 imm) rfl
  simp only [Nat.add_zero] at d30
  have hb3 : Below w1.heap.size w1 (w1.alloc (.cells #[.int .i64 13, .int .i64 a, .int .i64 b1, .int .i64 cc, .int .i64 imm] 43)) := (Below.refl _ w1).alloc (Nat.le_refl _) _
  have hg3 := hg1.below hb3
  have hi3 : Holds (w1.alloc (.cells #[.int .i64 13, .int .i64 a, .int .i64 b1, .int .i64 cc, .int .i64 imm] 43)) w1.heap.size 43 [.int .i64 13, .int .i64 a, .int .i64 b1, .int .i64 cc, .int .i64 imm] := Holds.new w1 _ _
  have k1 := hg3.code.cell (i := 0) rfl
  have k2 := hg3.spot.cell (i := 0) rfl
  have k22 := hg3.spot.cell (i := 1) rfl
  have HG1 := Lib.hid hg1; clear hg1
  have HG3 := Lib.hid hg3; clear hg3
  have HI3 := Lib.hid hi3; clear hi3
  have HB3 := Lib.hid hb3; clear hb3
  have HJ1 := Lib.hid hj1; clear hj1
  clear hg2 hr2
  have HB2 := Lib.hid hb2; clear hb2
  clear HG HR H0 HHas HL c1 c2 c22 c30 c31 c32 c33 c34 hr1 hb1
  gi_wp2_with fail
  refine wpIn_wide.2 ?_
  go_region
  have hj4 : J [] (w1.alloc (.cells #[.int .i64 13, .int .i64 a, .int .i64 b1, .int .i64 cc, .int .i64 imm] 43)).drew := HJb.out _ _ _ HJ1.out (below_drewN HB3.out 1)
  have hg4 : GoAt (w1.alloc (.cells #[.int .i64 13, .int .i64 a, .int .i64 b1, .int .i64 cc, .int .i64 imm] 43)).drew Ba Bb n cap (some ⟨q, o, none⟩) (k, x) := HG3.out.same rfl rfl
  have hi4 : Holds (w1.alloc (.cells #[.int .i64 13, .int .i64 a, .int .i64 b1, .int .i64 cc, .int .i64 imm] 43)).drew w1.heap.size 43 [.int .i64 13, .int .i64 a, .int .i64 b1, .int .i64 cc, .int .i64 imm] := HI3.out
  clear e1 e2 e22 e30 e31 e32 e33 e34 d1 d2 d30 d31 d32 d33 d34 k1 k2 k22 HG1 HG3 HI3 HB3 HB2 HJ1
  generalize (w1.alloc (.cells #[.int .i64 13, .int .i64 a, .int .i64 b1, .int .i64 cc, .int .i64 imm] 43)).drew = w4 at *
  obtain ⟨gb, hgb⟩ : ∃ gb, w1.heap.size = gb := ⟨_, rfl⟩
  simp only [hgb] at *
  clear hgb
  have e1 := hg4.code.cell (i := 0) rfl
  have e2 := hg4.spot.cell (i := 0) rfl
  have e22 := hg4.spot.cell (i := 1) rfl
  have i0 := hi4.cell (i := 0) rfl
  have i4 := hi4.cell (i := 4) rfl
  have HG4 := Lib.hid hg4; clear hg4
  have HI4 := Lib.hid hi4; clear hi4
  have HJ4 := Lib.hid hj4; clear hj4
  gi_wp2_with fail
  first | refine ⟨fun h => (by cases h), ?_⟩ | refine ⟨trivial, fun h => (by cases h), ?_⟩ | skip
  refine (callsIn_wide.2 (HPL.out _)).mono ?_
  rintro e w5 ⟨rfl, rfl⟩
  gi_wp2_with fail
  refine bodyPost_ret (results_none rfl _ _ _) rfl ?_
  exact ⟨⟨_, rfl⟩, .inl HJ4.out⟩

set_option maxRecDepth 100000 in
set_option maxHeartbeats 2000000 in
theorem go_13t (l Ba Bb q o cap n k : Nat) (a b1 cc : Int) (p : Nat) (x : Bool) (hp : p ≤ 1024) (hl : legalP ⟨13, a, b1, cc, (p : Nat)⟩ = true) (w : World) (hk : k < n) (hn : n ≤ 1024) (hF : FormsAt w) (hg : GoAt w Ba Bb n cap (some ⟨q, o, none⟩) (k, x)) (hr : w.rangeAt q (o + k * 5) (In.cells ⟨13, a, b1, cc, (p : Nat)⟩)) (S : Nat → Prop) (T : TypeId → Prop) (hS : S Ba ∧ S Bb) (hT : T 43) :
    SeqEach Fence.wide Tryz.prog 43 #[.pointer (some ⟨Ba, 0, none⟩), .pointer (some ⟨Bb, 0, none⟩)] encS (KpB S T) [(p, x)] w l := by
  intro n' J Jx W hW _ hJ hJx hY h0
  have hJb : ∀ pre (X Y : World), J pre X → Below X.heap.size X Y → J pre Y := fun pre X Y hj hb => hJ pre X Y none hj (grown_below hb) (fun r e => by cases e)
  have hg0 := hg.same (hW.block _ hg.lt.1) (hW.block _ hg.lt.2)
  have hF0 := hF.same (hW.block _ hF.lt)
  have hr0 : W.rangeAt q (o + k * 5) (In.cells ⟨13, a, b1, cc, (p : Nat)⟩) := rangeAt_same hr (hW.block _ (World.block_lt_of_cell? _ _ (hr 0 (.int .i64 (13)) rfl)))
  have hL := legal_any ⟨13, a, b1, cc, (p : Nat)⟩ W hF0
  have hHas := has_lint (some ⟨q, o, none⟩) n cap (k : Nat) W
  rw [show hasL n (k : Nat) = true by unfold hasL; simp; omega] at hHas
  simp only [In.val] at hL
  have c1 := hg0.code.cell (i := 0) rfl
  have c2 := hg0.spot.cell (i := 0) rfl
  have c22 := hg0.spot.cell (i := 1) rfl
  have c30 : W.cell? ⟨q, o + k * 5, none⟩ = some (.int .i64 (13)) := hr0 0 _ rfl
  have c31 : W.cell? ⟨q, o + k * 5 + 1, none⟩ = some (.int .i64 a) := hr0 1 _ rfl
  have c32 : W.cell? ⟨q, o + k * 5 + 2, none⟩ = some (.int .i64 b1) := hr0 2 _ rfl
  have c33 : W.cell? ⟨q, o + k * 5 + 3, none⟩ = some (.int .i64 cc) := hr0 3 _ rfl
  have c34 : W.cell? ⟨q, o + k * 5 + 4, none⟩ = some (.int .i64 (p : Nat)) := hr0 4 _ rfl
  have hk' : (k : Int) < (n : Int) := by omega
  have hkk : IntKind.i64.wrap ((k : Int) + 1) = (k : Int) + 1 := by rw [IntKind.wrap_i64]; omega
  have HJb := Lib.hid hJb; clear hJb
  have HY := Lib.hid hY; clear hY
  have HG := Lib.hid hg0; clear hg0
  have HR := Lib.hid hr0; clear hr0
  have HS := Lib.hid (And.intro hS hT); clear hS hT
  have H0 := Lib.hid h0; clear h0
  have HHas := Lib.hid hHas; clear hHas
  rw [hl] at hL
  have HL := Lib.hid hL; clear hL hl
  have hpl : isPl (p : Nat) = true := by unfold isPl; simp; omega
  have hP := fun (V : World) => isPl_any (p : Nat) V
  rw [hpl] at hP
  have HPL := Lib.hid hP; clear hP hpl hp
  clear hJ hJx hW hF hF0 hg hr hn hk
  refine callsIn_of_wp Tryz.func43 rfl trivial ?_ rfl
  simp only [Tryz.ntmps43, List.size_toArray, List.length_cons, List.length_nil, Nat.reduceAdd, Nat.reduceSub, Array.replicate_succ, Array.replicate_zero, List.push_toArray, List.append_toArray, List.nil_append, List.cons_append]
  gi_wp2_with fail
  first | refine ⟨fun h => (by cases h), ?_⟩ | refine ⟨trivial, fun h => (by cases h), ?_⟩ | skip
  refine (callsIn_wide.2 HHas.out).mono ?_
  rintro e w1 ⟨rfl, rfl⟩
  gi_wp2_with fail
  first | refine ⟨fun h => (by cases h), ?_⟩ | refine ⟨trivial, fun h => (by cases h), ?_⟩ | skip
  refine (callsIn_wide.2 HL.out).mono ?_
  rintro e w1 ⟨rfl, hb1⟩
  have hj1 := HJb.out _ _ _ H0.out hb1
  have hg1 := HG.out.below hb1
  have hr1 : w1.rangeAt q (o + k * 5) (In.cells ⟨13, a, b1, cc, (p : Nat)⟩) := rangeAt_same HR.out (hb1.block _ (World.block_lt_of_cell? _ _ (HR.out 0 (.int .i64 13) rfl)))
  have e1 := hg1.code.cell (i := 0) rfl
  have e2 := hg1.spot.cell (i := 0) rfl
  have e22 := hg1.spot.cell (i := 1) rfl
  have e30 : w1.cell? ⟨q, o + k * 5, none⟩ = some (.int .i64 13) := hr1 0 _ rfl
  have e31 : w1.cell? ⟨q, o + k * 5 + 1, none⟩ = some (.int .i64 a) := hr1 1 _ rfl
  have e32 : w1.cell? ⟨q, o + k * 5 + 2, none⟩ = some (.int .i64 b1) := hr1 2 _ rfl
  have e33 : w1.cell? ⟨q, o + k * 5 + 3, none⟩ = some (.int .i64 cc) := hr1 3 _ rfl
  have e34 : w1.cell? ⟨q, o + k * 5 + 4, none⟩ = some (.int .i64 (p : Nat)) := hr1 4 _ rfl
  have hb2 : Below w1.heap.size w1 (w1.alloc (.cells #[.int .i64 0, .int .i64 0, .int .i64 0, .int .i64 0, .int .i64 0] 43)) := (Below.refl _ w1).alloc (Nat.le_refl _) _
  have hg2 := hg1.below hb2
  have hr2 := rangeAt_same hr1 (hb2.block _ (World.block_lt_of_cell? _ _ (hr1 0 (.int .i64 13) rfl)))
  have d1 := hg2.code.cell (i := 0) rfl
  have d2 := hg2.spot.cell (i := 0) rfl
  have d30 := hr2 0 (.int .i64 13) rfl
  have d31 := hr2 1 (.int .i64 a) rfl
  have d32 := hr2 2 (.int .i64 b1) rfl
  have d33 := hr2 3 (.int .i64 cc) rfl
  have d34 := hr2 4 (.int .i64 (p : Nat)) rfl
  simp only [Nat.add_zero] at d30
  have hb3 : Below w1.heap.size w1 (w1.alloc (.cells #[.int .i64 13, .int .i64 a, .int .i64 b1, .int .i64 cc, .int .i64 (p : Nat)] 43)) := (Below.refl _ w1).alloc (Nat.le_refl _) _
  have hg3 := hg1.below hb3
  have hi3 : Holds (w1.alloc (.cells #[.int .i64 13, .int .i64 a, .int .i64 b1, .int .i64 cc, .int .i64 (p : Nat)] 43)) w1.heap.size 43 [.int .i64 13, .int .i64 a, .int .i64 b1, .int .i64 cc, .int .i64 (p : Nat)] := Holds.new w1 _ _
  have k1 := hg3.code.cell (i := 0) rfl
  have k2 := hg3.spot.cell (i := 0) rfl
  have k22 := hg3.spot.cell (i := 1) rfl
  have HG1 := Lib.hid hg1; clear hg1
  have HG3 := Lib.hid hg3; clear hg3
  have HI3 := Lib.hid hi3; clear hi3
  have HB3 := Lib.hid hb3; clear hb3
  have HJ1 := Lib.hid hj1; clear hj1
  clear hg2 hr2
  have HB2 := Lib.hid hb2; clear hb2
  clear HG HR H0 HHas HL c1 c2 c22 c30 c31 c32 c33 c34 hr1 hb1
  gi_wp2_with fail
  refine wpIn_wide.2 ?_
  go_region
  have hj4 : J [] (w1.alloc (.cells #[.int .i64 13, .int .i64 a, .int .i64 b1, .int .i64 cc, .int .i64 (p : Nat)] 43)).drew := HJb.out _ _ _ HJ1.out (below_drewN HB3.out 1)
  have hg4 : GoAt (w1.alloc (.cells #[.int .i64 13, .int .i64 a, .int .i64 b1, .int .i64 cc, .int .i64 (p : Nat)] 43)).drew Ba Bb n cap (some ⟨q, o, none⟩) (k, x) := HG3.out.same rfl rfl
  have hi4 : Holds (w1.alloc (.cells #[.int .i64 13, .int .i64 a, .int .i64 b1, .int .i64 cc, .int .i64 (p : Nat)] 43)).drew w1.heap.size 43 [.int .i64 13, .int .i64 a, .int .i64 b1, .int .i64 cc, .int .i64 (p : Nat)] := HI3.out
  clear e1 e2 e22 e30 e31 e32 e33 e34 d1 d2 d30 d31 d32 d33 d34 k1 k2 k22 HG1 HG3 HI3 HB3 HB2 HJ1
  generalize (w1.alloc (.cells #[.int .i64 13, .int .i64 a, .int .i64 b1, .int .i64 cc, .int .i64 (p : Nat)] 43)).drew = w4 at *
  obtain ⟨gb, hgb⟩ : ∃ gb, w1.heap.size = gb := ⟨_, rfl⟩
  simp only [hgb] at *
  clear hgb
  have e1 := hg4.code.cell (i := 0) rfl
  have e2 := hg4.spot.cell (i := 0) rfl
  have e22 := hg4.spot.cell (i := 1) rfl
  have i0 := hi4.cell (i := 0) rfl
  have i4 := hi4.cell (i := 4) rfl
  have HG4 := Lib.hid hg4; clear hg4
  have HI4 := Lib.hid hi4; clear hi4
  have HJ4 := Lib.hid hj4; clear hj4
  gi_wp2_with fail
  first | refine ⟨fun h => (by cases h), ?_⟩ | refine ⟨trivial, fun h => (by cases h), ?_⟩ | skip
  refine (callsIn_wide.2 (HPL.out _)).mono ?_
  rintro e w5 ⟨rfl, rfl⟩
  obtain ⟨fn, tmps, assign, body, hy, hR⟩ := HY.out (n' - 1) [] (p, x) [] _ rfl HJ4.out
  have HR := Lib.hid hR; clear hR
  simp only [encS] at hy
  gi_wp2_with fail
  refine ⟨fun h => (by cases h), HR.out.mono ?_⟩
  rintro e W5 (⟨rfl, hJ5, hK5⟩ | ⟨rfl, hJ5, _⟩)
  rotate_left
  · have HJ5 := Lib.hid hJ5; clear hJ5
    gi_wp2
    refine bodyPost_ret (results_none rfl _ _ _) rfl ?_
    exact ⟨⟨_, rfl⟩, .inr ⟨_, ⟨[], by simp⟩, HJ5.out⟩⟩
  have hg5 := HG4.out.kept hK5 HS.out.1.1 HS.out.1.2
  have hi5 := hK5.holds HI4.out (.inr HS.out.2)
  have HJ5 := Lib.hid hJ5; clear hJ5
  clear e1 e2 e22 i0 i4 hy HR
  have e1 := hg5.code.cell (i := 0) rfl
  have e2 := hg5.spot.cell (i := 0) rfl
  have e22 := hg5.spot.cell (i := 1) rfl
  have i0 := hi5.cell (i := 0) rfl
  have i4 := hi5.cell (i := 4) rfl
  clear hg5 hi5 HG4 HI4 hK5
  gi_wp2_with fail
  refine bodyPost_ret (results_none rfl _ _ _) rfl ?_
  exact ⟨⟨_, rfl⟩, .inl HJ5.out⟩

set_option maxRecDepth 100000 in
set_option maxHeartbeats 2000000 in
theorem go_14f (l Ba Bb q o cap n k : Nat) (a b1 cc imm : Int) (x : Bool) (hl : legalP ⟨14, a, b1, cc, imm⟩ = true) (hp : isPl imm = false) (w : World) (hk : k < n) (hn : n ≤ 1024) (hF : FormsAt w) (hg : GoAt w Ba Bb n cap (some ⟨q, o, none⟩) (k, x)) (hr : w.rangeAt q (o + k * 5) (In.cells ⟨14, a, b1, cc, imm⟩)) (S : Nat → Prop) (T : TypeId → Prop) (hS : S Ba ∧ S Bb) (hT : T 43) :
    SeqEach Fence.wide Tryz.prog 43 #[.pointer (some ⟨Ba, 0, none⟩), .pointer (some ⟨Bb, 0, none⟩)] encS (KpB S T) [(k + 1, x)] w l := by
  intro n' J Jx W hW _ hJ hJx hY h0
  have hJb : ∀ pre (X Y : World), J pre X → Below X.heap.size X Y → J pre Y := fun pre X Y hj hb => hJ pre X Y none hj (grown_below hb) (fun r e => by cases e)
  have hg0 := hg.same (hW.block _ hg.lt.1) (hW.block _ hg.lt.2)
  have hF0 := hF.same (hW.block _ hF.lt)
  have hr0 : W.rangeAt q (o + k * 5) (In.cells ⟨14, a, b1, cc, imm⟩) := rangeAt_same hr (hW.block _ (World.block_lt_of_cell? _ _ (hr 0 (.int .i64 (14)) rfl)))
  have hL := legal_any ⟨14, a, b1, cc, imm⟩ W hF0
  have hHas := has_lint (some ⟨q, o, none⟩) n cap (k : Nat) W
  rw [show hasL n (k : Nat) = true by unfold hasL; simp; omega] at hHas
  simp only [In.val] at hL
  have c1 := hg0.code.cell (i := 0) rfl
  have c2 := hg0.spot.cell (i := 0) rfl
  have c22 := hg0.spot.cell (i := 1) rfl
  have c30 : W.cell? ⟨q, o + k * 5, none⟩ = some (.int .i64 (14)) := hr0 0 _ rfl
  have c31 : W.cell? ⟨q, o + k * 5 + 1, none⟩ = some (.int .i64 a) := hr0 1 _ rfl
  have c32 : W.cell? ⟨q, o + k * 5 + 2, none⟩ = some (.int .i64 b1) := hr0 2 _ rfl
  have c33 : W.cell? ⟨q, o + k * 5 + 3, none⟩ = some (.int .i64 cc) := hr0 3 _ rfl
  have c34 : W.cell? ⟨q, o + k * 5 + 4, none⟩ = some (.int .i64 imm) := hr0 4 _ rfl
  have hk' : (k : Int) < (n : Int) := by omega
  have hkk : IntKind.i64.wrap ((k : Int) + 1) = (k : Int) + 1 := by rw [IntKind.wrap_i64]; omega
  have HJb := Lib.hid hJb; clear hJb
  have HY := Lib.hid hY; clear hY
  have HG := Lib.hid hg0; clear hg0
  have HR := Lib.hid hr0; clear hr0
  have HS := Lib.hid (And.intro hS hT); clear hS hT
  have H0 := Lib.hid h0; clear h0
  have HHas := Lib.hid hHas; clear hHas
  rw [hl] at hL
  have HL := Lib.hid hL; clear hL hl
  have hP := fun (V : World) => isPl_any imm V
  rw [hp] at hP
  have HPL := Lib.hid hP; clear hP hp
  clear hJ hJx hW hF hF0 hg hr hn hk
  refine callsIn_of_wp Tryz.func43 rfl trivial ?_ rfl
  simp only [Tryz.ntmps43, List.size_toArray, List.length_cons, List.length_nil, Nat.reduceAdd, Nat.reduceSub, Array.replicate_succ, Array.replicate_zero, List.push_toArray, List.append_toArray, List.nil_append, List.cons_append]
  gi_wp2_with fail
  first | refine ⟨fun h => (by cases h), ?_⟩ | refine ⟨trivial, fun h => (by cases h), ?_⟩ | skip
  refine (callsIn_wide.2 HHas.out).mono ?_
  rintro e w1 ⟨rfl, rfl⟩
  gi_wp2_with fail
  first | refine ⟨fun h => (by cases h), ?_⟩ | refine ⟨trivial, fun h => (by cases h), ?_⟩ | skip
  refine (callsIn_wide.2 HL.out).mono ?_
  rintro e w1 ⟨rfl, hb1⟩
  have hj1 := HJb.out _ _ _ H0.out hb1
  have hg1 := HG.out.below hb1
  have hr1 : w1.rangeAt q (o + k * 5) (In.cells ⟨14, a, b1, cc, imm⟩) := rangeAt_same HR.out (hb1.block _ (World.block_lt_of_cell? _ _ (HR.out 0 (.int .i64 14) rfl)))
  have e1 := hg1.code.cell (i := 0) rfl
  have e2 := hg1.spot.cell (i := 0) rfl
  have e22 := hg1.spot.cell (i := 1) rfl
  have e30 : w1.cell? ⟨q, o + k * 5, none⟩ = some (.int .i64 14) := hr1 0 _ rfl
  have e31 : w1.cell? ⟨q, o + k * 5 + 1, none⟩ = some (.int .i64 a) := hr1 1 _ rfl
  have e32 : w1.cell? ⟨q, o + k * 5 + 2, none⟩ = some (.int .i64 b1) := hr1 2 _ rfl
  have e33 : w1.cell? ⟨q, o + k * 5 + 3, none⟩ = some (.int .i64 cc) := hr1 3 _ rfl
  have e34 : w1.cell? ⟨q, o + k * 5 + 4, none⟩ = some (.int .i64 imm) := hr1 4 _ rfl
  have hb2 : Below w1.heap.size w1 (w1.alloc (.cells #[.int .i64 0, .int .i64 0, .int .i64 0, .int .i64 0, .int .i64 0] 43)) := (Below.refl _ w1).alloc (Nat.le_refl _) _
  have hg2 := hg1.below hb2
  have hr2 := rangeAt_same hr1 (hb2.block _ (World.block_lt_of_cell? _ _ (hr1 0 (.int .i64 14) rfl)))
  have d1 := hg2.code.cell (i := 0) rfl
  have d2 := hg2.spot.cell (i := 0) rfl
  have d30 := hr2 0 (.int .i64 14) rfl
  have d31 := hr2 1 (.int .i64 a) rfl
  have d32 := hr2 2 (.int .i64 b1) rfl
  have d33 := hr2 3 (.int .i64 cc) rfl
  have d34 := hr2 4 (.int .i64 imm) rfl
  simp only [Nat.add_zero] at d30
  have hb3 : Below w1.heap.size w1 (w1.alloc (.cells #[.int .i64 14, .int .i64 a, .int .i64 b1, .int .i64 cc, .int .i64 imm] 43)) := (Below.refl _ w1).alloc (Nat.le_refl _) _
  have hg3 := hg1.below hb3
  have hi3 : Holds (w1.alloc (.cells #[.int .i64 14, .int .i64 a, .int .i64 b1, .int .i64 cc, .int .i64 imm] 43)) w1.heap.size 43 [.int .i64 14, .int .i64 a, .int .i64 b1, .int .i64 cc, .int .i64 imm] := Holds.new w1 _ _
  have k1 := hg3.code.cell (i := 0) rfl
  have k2 := hg3.spot.cell (i := 0) rfl
  have k22 := hg3.spot.cell (i := 1) rfl
  have HG1 := Lib.hid hg1; clear hg1
  have HG3 := Lib.hid hg3; clear hg3
  have HI3 := Lib.hid hi3; clear hi3
  have HB3 := Lib.hid hb3; clear hb3
  have HJ1 := Lib.hid hj1; clear hj1
  clear hg2 hr2
  have HB2 := Lib.hid hb2; clear hb2
  clear HG HR H0 HHas HL c1 c2 c22 c30 c31 c32 c33 c34 hr1 hb1
  gi_wp2_with fail
  refine wpIn_wide.2 ?_
  go_region
  have hj4 : J [] (w1.alloc (.cells #[.int .i64 14, .int .i64 a, .int .i64 b1, .int .i64 cc, .int .i64 imm] 43)).drew := HJb.out _ _ _ HJ1.out (below_drewN HB3.out 1)
  have hg4 : GoAt (w1.alloc (.cells #[.int .i64 14, .int .i64 a, .int .i64 b1, .int .i64 cc, .int .i64 imm] 43)).drew Ba Bb n cap (some ⟨q, o, none⟩) (k, x) := HG3.out.same rfl rfl
  have hi4 : Holds (w1.alloc (.cells #[.int .i64 14, .int .i64 a, .int .i64 b1, .int .i64 cc, .int .i64 imm] 43)).drew w1.heap.size 43 [.int .i64 14, .int .i64 a, .int .i64 b1, .int .i64 cc, .int .i64 imm] := HI3.out
  clear e1 e2 e22 e30 e31 e32 e33 e34 d1 d2 d30 d31 d32 d33 d34 k1 k2 k22 HG1 HG3 HI3 HB3 HB2 HJ1
  generalize (w1.alloc (.cells #[.int .i64 14, .int .i64 a, .int .i64 b1, .int .i64 cc, .int .i64 imm] 43)).drew = w4 at *
  obtain ⟨gb, hgb⟩ : ∃ gb, w1.heap.size = gb := ⟨_, rfl⟩
  simp only [hgb] at *
  clear hgb
  have e1 := hg4.code.cell (i := 0) rfl
  have e2 := hg4.spot.cell (i := 0) rfl
  have e22 := hg4.spot.cell (i := 1) rfl
  have i0 := hi4.cell (i := 0) rfl
  have i4 := hi4.cell (i := 4) rfl
  have HG4 := Lib.hid hg4; clear hg4
  have HI4 := Lib.hid hi4; clear hi4
  have HJ4 := Lib.hid hj4; clear hj4
  gi_wp2_with fail
  first | refine ⟨fun h => (by cases h), ?_⟩ | refine ⟨trivial, fun h => (by cases h), ?_⟩ | skip
  refine (callsIn_wide.2 (HPL.out _)).mono ?_
  rintro e w5 ⟨rfl, rfl⟩
  obtain ⟨fn, tmps, assign, body, hy, hR⟩ := HY.out (n' - 1) [] (k + 1, x) [] _ rfl HJ4.out
  have HR := Lib.hid hR; clear hR
  simp only [encS, Int.natCast_add, Int.cast_ofNat_Int] at hy
  gi_wp2_with fail
  refine ⟨fun h => (by cases h), HR.out.mono ?_⟩
  rintro e W9 (⟨rfl, hJ9, _⟩ | ⟨rfl, hJ9, _⟩)
  · have HJ9 := Lib.hid hJ9; clear hJ9
    gi_wp2
    refine bodyPost_end (results_none rfl _ _ _) rfl ?_
    exact ⟨⟨_, rfl⟩, .inl HJ9.out⟩
  · have HJ9 := Lib.hid hJ9; clear hJ9
    gi_wp2
    refine bodyPost_end (results_none rfl _ _ _) rfl ?_
    exact ⟨⟨_, rfl⟩, .inr ⟨_, ⟨[], by simp⟩, HJ9.out⟩⟩

set_option maxRecDepth 100000 in
set_option maxHeartbeats 2000000 in
theorem go_14t (l Ba Bb q o cap n k : Nat) (a b1 cc : Int) (p : Nat) (x : Bool) (hp : p ≤ 1024) (hl : legalP ⟨14, a, b1, cc, (p : Nat)⟩ = true) (w : World) (hk : k < n) (hn : n ≤ 1024) (hF : FormsAt w) (hg : GoAt w Ba Bb n cap (some ⟨q, o, none⟩) (k, x)) (hr : w.rangeAt q (o + k * 5) (In.cells ⟨14, a, b1, cc, (p : Nat)⟩)) (S : Nat → Prop) (T : TypeId → Prop) (hS : S Ba ∧ S Bb) (hT : T 43) :
    SeqEach Fence.wide Tryz.prog 43 #[.pointer (some ⟨Ba, 0, none⟩), .pointer (some ⟨Bb, 0, none⟩)] encS (KpB S T) [(p, x), (k + 1, x)] w l := by
  intro n' J Jx W hW _ hJ hJx hY h0
  have hJb : ∀ pre (X Y : World), J pre X → Below X.heap.size X Y → J pre Y := fun pre X Y hj hb => hJ pre X Y none hj (grown_below hb) (fun r e => by cases e)
  have hg0 := hg.same (hW.block _ hg.lt.1) (hW.block _ hg.lt.2)
  have hF0 := hF.same (hW.block _ hF.lt)
  have hr0 : W.rangeAt q (o + k * 5) (In.cells ⟨14, a, b1, cc, (p : Nat)⟩) := rangeAt_same hr (hW.block _ (World.block_lt_of_cell? _ _ (hr 0 (.int .i64 (14)) rfl)))
  have hL := legal_any ⟨14, a, b1, cc, (p : Nat)⟩ W hF0
  have hHas := has_lint (some ⟨q, o, none⟩) n cap (k : Nat) W
  rw [show hasL n (k : Nat) = true by unfold hasL; simp; omega] at hHas
  simp only [In.val] at hL
  have c1 := hg0.code.cell (i := 0) rfl
  have c2 := hg0.spot.cell (i := 0) rfl
  have c22 := hg0.spot.cell (i := 1) rfl
  have c30 : W.cell? ⟨q, o + k * 5, none⟩ = some (.int .i64 (14)) := hr0 0 _ rfl
  have c31 : W.cell? ⟨q, o + k * 5 + 1, none⟩ = some (.int .i64 a) := hr0 1 _ rfl
  have c32 : W.cell? ⟨q, o + k * 5 + 2, none⟩ = some (.int .i64 b1) := hr0 2 _ rfl
  have c33 : W.cell? ⟨q, o + k * 5 + 3, none⟩ = some (.int .i64 cc) := hr0 3 _ rfl
  have c34 : W.cell? ⟨q, o + k * 5 + 4, none⟩ = some (.int .i64 (p : Nat)) := hr0 4 _ rfl
  have hk' : (k : Int) < (n : Int) := by omega
  have hkk : IntKind.i64.wrap ((k : Int) + 1) = (k : Int) + 1 := by rw [IntKind.wrap_i64]; omega
  have HJb := Lib.hid hJb; clear hJb
  have HY := Lib.hid hY; clear hY
  have HG := Lib.hid hg0; clear hg0
  have HR := Lib.hid hr0; clear hr0
  have HS := Lib.hid (And.intro hS hT); clear hS hT
  have H0 := Lib.hid h0; clear h0
  have HHas := Lib.hid hHas; clear hHas
  rw [hl] at hL
  have HL := Lib.hid hL; clear hL hl
  have hpl : isPl (p : Nat) = true := by unfold isPl; simp; omega
  have hP := fun (V : World) => isPl_any (p : Nat) V
  rw [hpl] at hP
  have HPL := Lib.hid hP; clear hP hpl hp
  clear hJ hJx hW hF hF0 hg hr hn hk
  refine callsIn_of_wp Tryz.func43 rfl trivial ?_ rfl
  simp only [Tryz.ntmps43, List.size_toArray, List.length_cons, List.length_nil, Nat.reduceAdd, Nat.reduceSub, Array.replicate_succ, Array.replicate_zero, List.push_toArray, List.append_toArray, List.nil_append, List.cons_append]
  gi_wp2_with fail
  first | refine ⟨fun h => (by cases h), ?_⟩ | refine ⟨trivial, fun h => (by cases h), ?_⟩ | skip
  refine (callsIn_wide.2 HHas.out).mono ?_
  rintro e w1 ⟨rfl, rfl⟩
  gi_wp2_with fail
  first | refine ⟨fun h => (by cases h), ?_⟩ | refine ⟨trivial, fun h => (by cases h), ?_⟩ | skip
  refine (callsIn_wide.2 HL.out).mono ?_
  rintro e w1 ⟨rfl, hb1⟩
  have hj1 := HJb.out _ _ _ H0.out hb1
  have hg1 := HG.out.below hb1
  have hr1 : w1.rangeAt q (o + k * 5) (In.cells ⟨14, a, b1, cc, (p : Nat)⟩) := rangeAt_same HR.out (hb1.block _ (World.block_lt_of_cell? _ _ (HR.out 0 (.int .i64 14) rfl)))
  have e1 := hg1.code.cell (i := 0) rfl
  have e2 := hg1.spot.cell (i := 0) rfl
  have e22 := hg1.spot.cell (i := 1) rfl
  have e30 : w1.cell? ⟨q, o + k * 5, none⟩ = some (.int .i64 14) := hr1 0 _ rfl
  have e31 : w1.cell? ⟨q, o + k * 5 + 1, none⟩ = some (.int .i64 a) := hr1 1 _ rfl
  have e32 : w1.cell? ⟨q, o + k * 5 + 2, none⟩ = some (.int .i64 b1) := hr1 2 _ rfl
  have e33 : w1.cell? ⟨q, o + k * 5 + 3, none⟩ = some (.int .i64 cc) := hr1 3 _ rfl
  have e34 : w1.cell? ⟨q, o + k * 5 + 4, none⟩ = some (.int .i64 (p : Nat)) := hr1 4 _ rfl
  have hb2 : Below w1.heap.size w1 (w1.alloc (.cells #[.int .i64 0, .int .i64 0, .int .i64 0, .int .i64 0, .int .i64 0] 43)) := (Below.refl _ w1).alloc (Nat.le_refl _) _
  have hg2 := hg1.below hb2
  have hr2 := rangeAt_same hr1 (hb2.block _ (World.block_lt_of_cell? _ _ (hr1 0 (.int .i64 14) rfl)))
  have d1 := hg2.code.cell (i := 0) rfl
  have d2 := hg2.spot.cell (i := 0) rfl
  have d30 := hr2 0 (.int .i64 14) rfl
  have d31 := hr2 1 (.int .i64 a) rfl
  have d32 := hr2 2 (.int .i64 b1) rfl
  have d33 := hr2 3 (.int .i64 cc) rfl
  have d34 := hr2 4 (.int .i64 (p : Nat)) rfl
  simp only [Nat.add_zero] at d30
  have hb3 : Below w1.heap.size w1 (w1.alloc (.cells #[.int .i64 14, .int .i64 a, .int .i64 b1, .int .i64 cc, .int .i64 (p : Nat)] 43)) := (Below.refl _ w1).alloc (Nat.le_refl _) _
  have hg3 := hg1.below hb3
  have hi3 : Holds (w1.alloc (.cells #[.int .i64 14, .int .i64 a, .int .i64 b1, .int .i64 cc, .int .i64 (p : Nat)] 43)) w1.heap.size 43 [.int .i64 14, .int .i64 a, .int .i64 b1, .int .i64 cc, .int .i64 (p : Nat)] := Holds.new w1 _ _
  have k1 := hg3.code.cell (i := 0) rfl
  have k2 := hg3.spot.cell (i := 0) rfl
  have k22 := hg3.spot.cell (i := 1) rfl
  have HG1 := Lib.hid hg1; clear hg1
  have HG3 := Lib.hid hg3; clear hg3
  have HI3 := Lib.hid hi3; clear hi3
  have HB3 := Lib.hid hb3; clear hb3
  have HJ1 := Lib.hid hj1; clear hj1
  clear hg2 hr2
  have HB2 := Lib.hid hb2; clear hb2
  clear HG HR H0 HHas HL c1 c2 c22 c30 c31 c32 c33 c34 hr1 hb1
  gi_wp2_with fail
  refine wpIn_wide.2 ?_
  go_region
  have hj4 : J [] (w1.alloc (.cells #[.int .i64 14, .int .i64 a, .int .i64 b1, .int .i64 cc, .int .i64 (p : Nat)] 43)).drew := HJb.out _ _ _ HJ1.out (below_drewN HB3.out 1)
  have hg4 : GoAt (w1.alloc (.cells #[.int .i64 14, .int .i64 a, .int .i64 b1, .int .i64 cc, .int .i64 (p : Nat)] 43)).drew Ba Bb n cap (some ⟨q, o, none⟩) (k, x) := HG3.out.same rfl rfl
  have hi4 : Holds (w1.alloc (.cells #[.int .i64 14, .int .i64 a, .int .i64 b1, .int .i64 cc, .int .i64 (p : Nat)] 43)).drew w1.heap.size 43 [.int .i64 14, .int .i64 a, .int .i64 b1, .int .i64 cc, .int .i64 (p : Nat)] := HI3.out
  clear e1 e2 e22 e30 e31 e32 e33 e34 d1 d2 d30 d31 d32 d33 d34 k1 k2 k22 HG1 HG3 HI3 HB3 HB2 HJ1
  generalize (w1.alloc (.cells #[.int .i64 14, .int .i64 a, .int .i64 b1, .int .i64 cc, .int .i64 (p : Nat)] 43)).drew = w4 at *
  obtain ⟨gb, hgb⟩ : ∃ gb, w1.heap.size = gb := ⟨_, rfl⟩
  simp only [hgb] at *
  clear hgb
  have e1 := hg4.code.cell (i := 0) rfl
  have e2 := hg4.spot.cell (i := 0) rfl
  have e22 := hg4.spot.cell (i := 1) rfl
  have i0 := hi4.cell (i := 0) rfl
  have i4 := hi4.cell (i := 4) rfl
  have HG4 := Lib.hid hg4; clear hg4
  have HI4 := Lib.hid hi4; clear hi4
  have HJ4 := Lib.hid hj4; clear hj4
  gi_wp2_with fail
  first | refine ⟨fun h => (by cases h), ?_⟩ | refine ⟨trivial, fun h => (by cases h), ?_⟩ | skip
  refine (callsIn_wide.2 (HPL.out _)).mono ?_
  rintro e w5 ⟨rfl, rfl⟩
  obtain ⟨fn, tmps, assign, body, hy, hR⟩ := HY.out (n' - 1) [] (p, x) [(k + 1, x)] _ rfl HJ4.out
  have HR := Lib.hid hR; clear hR
  simp only [encS] at hy
  gi_wp2_with fail
  refine ⟨fun h => (by cases h), HR.out.mono ?_⟩
  rintro e W5 (⟨rfl, hJ5, hK5⟩ | ⟨rfl, hJ5, _⟩)
  rotate_left
  · have HJ5 := Lib.hid hJ5; clear hJ5
    gi_wp2
    refine bodyPost_ret (results_none rfl _ _ _) rfl ?_
    exact ⟨⟨_, rfl⟩, .inr ⟨_, ⟨[(k + 1, x)], by simp⟩, HJ5.out⟩⟩
  have hg5 := HG4.out.kept hK5 HS.out.1.1 HS.out.1.2
  have hi5 := hK5.holds HI4.out (.inr HS.out.2)
  have HJ5 := Lib.hid hJ5; clear hJ5
  clear e1 e2 e22 i0 i4 hy HR
  have e1 := hg5.code.cell (i := 0) rfl
  have e2 := hg5.spot.cell (i := 0) rfl
  have e22 := hg5.spot.cell (i := 1) rfl
  have i0 := hi5.cell (i := 0) rfl
  have i4 := hi5.cell (i := 4) rfl
  clear hg5 hi5 HG4 HI4 hK5
  obtain ⟨fn, tmps, assign, body, hy, hR⟩ := HY.out (n' - 1) [(p, x)] (k + 1, x) [] _ rfl HJ5.out
  have HR := Lib.hid hR; clear hR
  simp only [encS, Int.natCast_add, Int.cast_ofNat_Int] at hy
  gi_wp2_with fail
  refine ⟨fun h => (by cases h), HR.out.mono ?_⟩
  rintro e W9 (⟨rfl, hJ9, _⟩ | ⟨rfl, hJ9, _⟩)
  · have HJ9 := Lib.hid hJ9; clear hJ9
    gi_wp2
    refine bodyPost_end (results_none rfl _ _ _) rfl ?_
    exact ⟨⟨_, rfl⟩, .inl HJ9.out⟩
  · have HJ9 := Lib.hid hJ9; clear hJ9
    gi_wp2
    refine bodyPost_end (results_none rfl _ _ _) rfl ?_
    exact ⟨⟨_, rfl⟩, .inr ⟨_, ⟨[], by simp⟩, HJ9.out⟩⟩

set_option maxRecDepth 100000 in
set_option maxHeartbeats 2000000 in
theorem go_15f (l Ba Bb q o cap n k : Nat) (a b1 cc imm : Int) (x : Bool) (hl : legalP ⟨15, a, b1, cc, imm⟩ = true) (hp : isPl imm = false) (w : World) (hk : k < n) (hn : n ≤ 1024) (hF : FormsAt w) (hg : GoAt w Ba Bb n cap (some ⟨q, o, none⟩) (k, x)) (hr : w.rangeAt q (o + k * 5) (In.cells ⟨15, a, b1, cc, imm⟩)) (S : Nat → Prop) (T : TypeId → Prop) (hS : S Ba ∧ S Bb) (hT : T 43) :
    SeqEach Fence.wide Tryz.prog 43 #[.pointer (some ⟨Ba, 0, none⟩), .pointer (some ⟨Bb, 0, none⟩)] encS (KpB S T) [(k + 1, x)] w l := by
  intro n' J Jx W hW _ hJ hJx hY h0
  have hJb : ∀ pre (X Y : World), J pre X → Below X.heap.size X Y → J pre Y := fun pre X Y hj hb => hJ pre X Y none hj (grown_below hb) (fun r e => by cases e)
  have hg0 := hg.same (hW.block _ hg.lt.1) (hW.block _ hg.lt.2)
  have hF0 := hF.same (hW.block _ hF.lt)
  have hr0 : W.rangeAt q (o + k * 5) (In.cells ⟨15, a, b1, cc, imm⟩) := rangeAt_same hr (hW.block _ (World.block_lt_of_cell? _ _ (hr 0 (.int .i64 (15)) rfl)))
  have hL := legal_any ⟨15, a, b1, cc, imm⟩ W hF0
  have hHas := has_lint (some ⟨q, o, none⟩) n cap (k : Nat) W
  rw [show hasL n (k : Nat) = true by unfold hasL; simp; omega] at hHas
  simp only [In.val] at hL
  have c1 := hg0.code.cell (i := 0) rfl
  have c2 := hg0.spot.cell (i := 0) rfl
  have c22 := hg0.spot.cell (i := 1) rfl
  have c30 : W.cell? ⟨q, o + k * 5, none⟩ = some (.int .i64 (15)) := hr0 0 _ rfl
  have c31 : W.cell? ⟨q, o + k * 5 + 1, none⟩ = some (.int .i64 a) := hr0 1 _ rfl
  have c32 : W.cell? ⟨q, o + k * 5 + 2, none⟩ = some (.int .i64 b1) := hr0 2 _ rfl
  have c33 : W.cell? ⟨q, o + k * 5 + 3, none⟩ = some (.int .i64 cc) := hr0 3 _ rfl
  have c34 : W.cell? ⟨q, o + k * 5 + 4, none⟩ = some (.int .i64 imm) := hr0 4 _ rfl
  have hk' : (k : Int) < (n : Int) := by omega
  have hkk : IntKind.i64.wrap ((k : Int) + 1) = (k : Int) + 1 := by rw [IntKind.wrap_i64]; omega
  have HJb := Lib.hid hJb; clear hJb
  have HY := Lib.hid hY; clear hY
  have HG := Lib.hid hg0; clear hg0
  have HR := Lib.hid hr0; clear hr0
  have HS := Lib.hid (And.intro hS hT); clear hS hT
  have H0 := Lib.hid h0; clear h0
  have HHas := Lib.hid hHas; clear hHas
  rw [hl] at hL
  have HL := Lib.hid hL; clear hL hl
  have hP := fun (V : World) => isPl_any imm V
  rw [hp] at hP
  have HPL := Lib.hid hP; clear hP hp
  clear hJ hJx hW hF hF0 hg hr hn hk
  refine callsIn_of_wp Tryz.func43 rfl trivial ?_ rfl
  simp only [Tryz.ntmps43, List.size_toArray, List.length_cons, List.length_nil, Nat.reduceAdd, Nat.reduceSub, Array.replicate_succ, Array.replicate_zero, List.push_toArray, List.append_toArray, List.nil_append, List.cons_append]
  gi_wp2_with fail
  first | refine ⟨fun h => (by cases h), ?_⟩ | refine ⟨trivial, fun h => (by cases h), ?_⟩ | skip
  refine (callsIn_wide.2 HHas.out).mono ?_
  rintro e w1 ⟨rfl, rfl⟩
  gi_wp2_with fail
  first | refine ⟨fun h => (by cases h), ?_⟩ | refine ⟨trivial, fun h => (by cases h), ?_⟩ | skip
  refine (callsIn_wide.2 HL.out).mono ?_
  rintro e w1 ⟨rfl, hb1⟩
  have hj1 := HJb.out _ _ _ H0.out hb1
  have hg1 := HG.out.below hb1
  have hr1 : w1.rangeAt q (o + k * 5) (In.cells ⟨15, a, b1, cc, imm⟩) := rangeAt_same HR.out (hb1.block _ (World.block_lt_of_cell? _ _ (HR.out 0 (.int .i64 15) rfl)))
  have e1 := hg1.code.cell (i := 0) rfl
  have e2 := hg1.spot.cell (i := 0) rfl
  have e22 := hg1.spot.cell (i := 1) rfl
  have e30 : w1.cell? ⟨q, o + k * 5, none⟩ = some (.int .i64 15) := hr1 0 _ rfl
  have e31 : w1.cell? ⟨q, o + k * 5 + 1, none⟩ = some (.int .i64 a) := hr1 1 _ rfl
  have e32 : w1.cell? ⟨q, o + k * 5 + 2, none⟩ = some (.int .i64 b1) := hr1 2 _ rfl
  have e33 : w1.cell? ⟨q, o + k * 5 + 3, none⟩ = some (.int .i64 cc) := hr1 3 _ rfl
  have e34 : w1.cell? ⟨q, o + k * 5 + 4, none⟩ = some (.int .i64 imm) := hr1 4 _ rfl
  have hb2 : Below w1.heap.size w1 (w1.alloc (.cells #[.int .i64 0, .int .i64 0, .int .i64 0, .int .i64 0, .int .i64 0] 43)) := (Below.refl _ w1).alloc (Nat.le_refl _) _
  have hg2 := hg1.below hb2
  have hr2 := rangeAt_same hr1 (hb2.block _ (World.block_lt_of_cell? _ _ (hr1 0 (.int .i64 15) rfl)))
  have d1 := hg2.code.cell (i := 0) rfl
  have d2 := hg2.spot.cell (i := 0) rfl
  have d30 := hr2 0 (.int .i64 15) rfl
  have d31 := hr2 1 (.int .i64 a) rfl
  have d32 := hr2 2 (.int .i64 b1) rfl
  have d33 := hr2 3 (.int .i64 cc) rfl
  have d34 := hr2 4 (.int .i64 imm) rfl
  simp only [Nat.add_zero] at d30
  have hb3 : Below w1.heap.size w1 (w1.alloc (.cells #[.int .i64 15, .int .i64 a, .int .i64 b1, .int .i64 cc, .int .i64 imm] 43)) := (Below.refl _ w1).alloc (Nat.le_refl _) _
  have hg3 := hg1.below hb3
  have hi3 : Holds (w1.alloc (.cells #[.int .i64 15, .int .i64 a, .int .i64 b1, .int .i64 cc, .int .i64 imm] 43)) w1.heap.size 43 [.int .i64 15, .int .i64 a, .int .i64 b1, .int .i64 cc, .int .i64 imm] := Holds.new w1 _ _
  have k1 := hg3.code.cell (i := 0) rfl
  have k2 := hg3.spot.cell (i := 0) rfl
  have k22 := hg3.spot.cell (i := 1) rfl
  have HG1 := Lib.hid hg1; clear hg1
  have HG3 := Lib.hid hg3; clear hg3
  have HI3 := Lib.hid hi3; clear hi3
  have HB3 := Lib.hid hb3; clear hb3
  have HJ1 := Lib.hid hj1; clear hj1
  clear hg2 hr2
  have HB2 := Lib.hid hb2; clear hb2
  clear HG HR H0 HHas HL c1 c2 c22 c30 c31 c32 c33 c34 hr1 hb1
  gi_wp2_with fail
  refine wpIn_wide.2 ?_
  go_region
  have hj4 : J [] (w1.alloc (.cells #[.int .i64 15, .int .i64 a, .int .i64 b1, .int .i64 cc, .int .i64 imm] 43)).drew := HJb.out _ _ _ HJ1.out (below_drewN HB3.out 1)
  have hg4 : GoAt (w1.alloc (.cells #[.int .i64 15, .int .i64 a, .int .i64 b1, .int .i64 cc, .int .i64 imm] 43)).drew Ba Bb n cap (some ⟨q, o, none⟩) (k, x) := HG3.out.same rfl rfl
  have hi4 : Holds (w1.alloc (.cells #[.int .i64 15, .int .i64 a, .int .i64 b1, .int .i64 cc, .int .i64 imm] 43)).drew w1.heap.size 43 [.int .i64 15, .int .i64 a, .int .i64 b1, .int .i64 cc, .int .i64 imm] := HI3.out
  clear e1 e2 e22 e30 e31 e32 e33 e34 d1 d2 d30 d31 d32 d33 d34 k1 k2 k22 HG1 HG3 HI3 HB3 HB2 HJ1
  generalize (w1.alloc (.cells #[.int .i64 15, .int .i64 a, .int .i64 b1, .int .i64 cc, .int .i64 imm] 43)).drew = w4 at *
  obtain ⟨gb, hgb⟩ : ∃ gb, w1.heap.size = gb := ⟨_, rfl⟩
  simp only [hgb] at *
  clear hgb
  have e1 := hg4.code.cell (i := 0) rfl
  have e2 := hg4.spot.cell (i := 0) rfl
  have e22 := hg4.spot.cell (i := 1) rfl
  have i0 := hi4.cell (i := 0) rfl
  have i4 := hi4.cell (i := 4) rfl
  have HG4 := Lib.hid hg4; clear hg4
  have HI4 := Lib.hid hi4; clear hi4
  have HJ4 := Lib.hid hj4; clear hj4
  gi_wp2_with fail
  first | refine ⟨fun h => (by cases h), ?_⟩ | refine ⟨trivial, fun h => (by cases h), ?_⟩ | skip
  refine (callsIn_wide.2 (HPL.out _)).mono ?_
  rintro e w5 ⟨rfl, rfl⟩
  obtain ⟨fn, tmps, assign, body, hy, hR⟩ := HY.out (n' - 1) [] (k + 1, x) [] _ rfl HJ4.out
  have HR := Lib.hid hR; clear hR
  simp only [encS, Int.natCast_add, Int.cast_ofNat_Int] at hy
  gi_wp2_with fail
  refine ⟨fun h => (by cases h), HR.out.mono ?_⟩
  rintro e W9 (⟨rfl, hJ9, _⟩ | ⟨rfl, hJ9, _⟩)
  · have HJ9 := Lib.hid hJ9; clear hJ9
    gi_wp2
    refine bodyPost_end (results_none rfl _ _ _) rfl ?_
    exact ⟨⟨_, rfl⟩, .inl HJ9.out⟩
  · have HJ9 := Lib.hid hJ9; clear hJ9
    gi_wp2
    refine bodyPost_end (results_none rfl _ _ _) rfl ?_
    exact ⟨⟨_, rfl⟩, .inr ⟨_, ⟨[], by simp⟩, HJ9.out⟩⟩

set_option maxRecDepth 100000 in
set_option maxHeartbeats 2000000 in
theorem go_15t (l Ba Bb q o cap n k : Nat) (a b1 cc : Int) (p : Nat) (x : Bool) (hp : p ≤ 1024) (hl : legalP ⟨15, a, b1, cc, (p : Nat)⟩ = true) (w : World) (hk : k < n) (hn : n ≤ 1024) (hF : FormsAt w) (hg : GoAt w Ba Bb n cap (some ⟨q, o, none⟩) (k, x)) (hr : w.rangeAt q (o + k * 5) (In.cells ⟨15, a, b1, cc, (p : Nat)⟩)) (S : Nat → Prop) (T : TypeId → Prop) (hS : S Ba ∧ S Bb) (hT : T 43) :
    SeqEach Fence.wide Tryz.prog 43 #[.pointer (some ⟨Ba, 0, none⟩), .pointer (some ⟨Bb, 0, none⟩)] encS (KpB S T) [(p, x), (k + 1, x)] w l := by
  intro n' J Jx W hW _ hJ hJx hY h0
  have hJb : ∀ pre (X Y : World), J pre X → Below X.heap.size X Y → J pre Y := fun pre X Y hj hb => hJ pre X Y none hj (grown_below hb) (fun r e => by cases e)
  have hg0 := hg.same (hW.block _ hg.lt.1) (hW.block _ hg.lt.2)
  have hF0 := hF.same (hW.block _ hF.lt)
  have hr0 : W.rangeAt q (o + k * 5) (In.cells ⟨15, a, b1, cc, (p : Nat)⟩) := rangeAt_same hr (hW.block _ (World.block_lt_of_cell? _ _ (hr 0 (.int .i64 (15)) rfl)))
  have hL := legal_any ⟨15, a, b1, cc, (p : Nat)⟩ W hF0
  have hHas := has_lint (some ⟨q, o, none⟩) n cap (k : Nat) W
  rw [show hasL n (k : Nat) = true by unfold hasL; simp; omega] at hHas
  simp only [In.val] at hL
  have c1 := hg0.code.cell (i := 0) rfl
  have c2 := hg0.spot.cell (i := 0) rfl
  have c22 := hg0.spot.cell (i := 1) rfl
  have c30 : W.cell? ⟨q, o + k * 5, none⟩ = some (.int .i64 (15)) := hr0 0 _ rfl
  have c31 : W.cell? ⟨q, o + k * 5 + 1, none⟩ = some (.int .i64 a) := hr0 1 _ rfl
  have c32 : W.cell? ⟨q, o + k * 5 + 2, none⟩ = some (.int .i64 b1) := hr0 2 _ rfl
  have c33 : W.cell? ⟨q, o + k * 5 + 3, none⟩ = some (.int .i64 cc) := hr0 3 _ rfl
  have c34 : W.cell? ⟨q, o + k * 5 + 4, none⟩ = some (.int .i64 (p : Nat)) := hr0 4 _ rfl
  have hk' : (k : Int) < (n : Int) := by omega
  have hkk : IntKind.i64.wrap ((k : Int) + 1) = (k : Int) + 1 := by rw [IntKind.wrap_i64]; omega
  have HJb := Lib.hid hJb; clear hJb
  have HY := Lib.hid hY; clear hY
  have HG := Lib.hid hg0; clear hg0
  have HR := Lib.hid hr0; clear hr0
  have HS := Lib.hid (And.intro hS hT); clear hS hT
  have H0 := Lib.hid h0; clear h0
  have HHas := Lib.hid hHas; clear hHas
  rw [hl] at hL
  have HL := Lib.hid hL; clear hL hl
  have hpl : isPl (p : Nat) = true := by unfold isPl; simp; omega
  have hP := fun (V : World) => isPl_any (p : Nat) V
  rw [hpl] at hP
  have HPL := Lib.hid hP; clear hP hpl hp
  clear hJ hJx hW hF hF0 hg hr hn hk
  refine callsIn_of_wp Tryz.func43 rfl trivial ?_ rfl
  simp only [Tryz.ntmps43, List.size_toArray, List.length_cons, List.length_nil, Nat.reduceAdd, Nat.reduceSub, Array.replicate_succ, Array.replicate_zero, List.push_toArray, List.append_toArray, List.nil_append, List.cons_append]
  gi_wp2_with fail
  first | refine ⟨fun h => (by cases h), ?_⟩ | refine ⟨trivial, fun h => (by cases h), ?_⟩ | skip
  refine (callsIn_wide.2 HHas.out).mono ?_
  rintro e w1 ⟨rfl, rfl⟩
  gi_wp2_with fail
  first | refine ⟨fun h => (by cases h), ?_⟩ | refine ⟨trivial, fun h => (by cases h), ?_⟩ | skip
  refine (callsIn_wide.2 HL.out).mono ?_
  rintro e w1 ⟨rfl, hb1⟩
  have hj1 := HJb.out _ _ _ H0.out hb1
  have hg1 := HG.out.below hb1
  have hr1 : w1.rangeAt q (o + k * 5) (In.cells ⟨15, a, b1, cc, (p : Nat)⟩) := rangeAt_same HR.out (hb1.block _ (World.block_lt_of_cell? _ _ (HR.out 0 (.int .i64 15) rfl)))
  have e1 := hg1.code.cell (i := 0) rfl
  have e2 := hg1.spot.cell (i := 0) rfl
  have e22 := hg1.spot.cell (i := 1) rfl
  have e30 : w1.cell? ⟨q, o + k * 5, none⟩ = some (.int .i64 15) := hr1 0 _ rfl
  have e31 : w1.cell? ⟨q, o + k * 5 + 1, none⟩ = some (.int .i64 a) := hr1 1 _ rfl
  have e32 : w1.cell? ⟨q, o + k * 5 + 2, none⟩ = some (.int .i64 b1) := hr1 2 _ rfl
  have e33 : w1.cell? ⟨q, o + k * 5 + 3, none⟩ = some (.int .i64 cc) := hr1 3 _ rfl
  have e34 : w1.cell? ⟨q, o + k * 5 + 4, none⟩ = some (.int .i64 (p : Nat)) := hr1 4 _ rfl
  have hb2 : Below w1.heap.size w1 (w1.alloc (.cells #[.int .i64 0, .int .i64 0, .int .i64 0, .int .i64 0, .int .i64 0] 43)) := (Below.refl _ w1).alloc (Nat.le_refl _) _
  have hg2 := hg1.below hb2
  have hr2 := rangeAt_same hr1 (hb2.block _ (World.block_lt_of_cell? _ _ (hr1 0 (.int .i64 15) rfl)))
  have d1 := hg2.code.cell (i := 0) rfl
  have d2 := hg2.spot.cell (i := 0) rfl
  have d30 := hr2 0 (.int .i64 15) rfl
  have d31 := hr2 1 (.int .i64 a) rfl
  have d32 := hr2 2 (.int .i64 b1) rfl
  have d33 := hr2 3 (.int .i64 cc) rfl
  have d34 := hr2 4 (.int .i64 (p : Nat)) rfl
  simp only [Nat.add_zero] at d30
  have hb3 : Below w1.heap.size w1 (w1.alloc (.cells #[.int .i64 15, .int .i64 a, .int .i64 b1, .int .i64 cc, .int .i64 (p : Nat)] 43)) := (Below.refl _ w1).alloc (Nat.le_refl _) _
  have hg3 := hg1.below hb3
  have hi3 : Holds (w1.alloc (.cells #[.int .i64 15, .int .i64 a, .int .i64 b1, .int .i64 cc, .int .i64 (p : Nat)] 43)) w1.heap.size 43 [.int .i64 15, .int .i64 a, .int .i64 b1, .int .i64 cc, .int .i64 (p : Nat)] := Holds.new w1 _ _
  have k1 := hg3.code.cell (i := 0) rfl
  have k2 := hg3.spot.cell (i := 0) rfl
  have k22 := hg3.spot.cell (i := 1) rfl
  have HG1 := Lib.hid hg1; clear hg1
  have HG3 := Lib.hid hg3; clear hg3
  have HI3 := Lib.hid hi3; clear hi3
  have HB3 := Lib.hid hb3; clear hb3
  have HJ1 := Lib.hid hj1; clear hj1
  clear hg2 hr2
  have HB2 := Lib.hid hb2; clear hb2
  clear HG HR H0 HHas HL c1 c2 c22 c30 c31 c32 c33 c34 hr1 hb1
  gi_wp2_with fail
  refine wpIn_wide.2 ?_
  go_region
  have hj4 : J [] (w1.alloc (.cells #[.int .i64 15, .int .i64 a, .int .i64 b1, .int .i64 cc, .int .i64 (p : Nat)] 43)).drew := HJb.out _ _ _ HJ1.out (below_drewN HB3.out 1)
  have hg4 : GoAt (w1.alloc (.cells #[.int .i64 15, .int .i64 a, .int .i64 b1, .int .i64 cc, .int .i64 (p : Nat)] 43)).drew Ba Bb n cap (some ⟨q, o, none⟩) (k, x) := HG3.out.same rfl rfl
  have hi4 : Holds (w1.alloc (.cells #[.int .i64 15, .int .i64 a, .int .i64 b1, .int .i64 cc, .int .i64 (p : Nat)] 43)).drew w1.heap.size 43 [.int .i64 15, .int .i64 a, .int .i64 b1, .int .i64 cc, .int .i64 (p : Nat)] := HI3.out
  clear e1 e2 e22 e30 e31 e32 e33 e34 d1 d2 d30 d31 d32 d33 d34 k1 k2 k22 HG1 HG3 HI3 HB3 HB2 HJ1
  generalize (w1.alloc (.cells #[.int .i64 15, .int .i64 a, .int .i64 b1, .int .i64 cc, .int .i64 (p : Nat)] 43)).drew = w4 at *
  obtain ⟨gb, hgb⟩ : ∃ gb, w1.heap.size = gb := ⟨_, rfl⟩
  simp only [hgb] at *
  clear hgb
  have e1 := hg4.code.cell (i := 0) rfl
  have e2 := hg4.spot.cell (i := 0) rfl
  have e22 := hg4.spot.cell (i := 1) rfl
  have i0 := hi4.cell (i := 0) rfl
  have i4 := hi4.cell (i := 4) rfl
  have HG4 := Lib.hid hg4; clear hg4
  have HI4 := Lib.hid hi4; clear hi4
  have HJ4 := Lib.hid hj4; clear hj4
  gi_wp2_with fail
  first | refine ⟨fun h => (by cases h), ?_⟩ | refine ⟨trivial, fun h => (by cases h), ?_⟩ | skip
  refine (callsIn_wide.2 (HPL.out _)).mono ?_
  rintro e w5 ⟨rfl, rfl⟩
  obtain ⟨fn, tmps, assign, body, hy, hR⟩ := HY.out (n' - 1) [] (p, x) [(k + 1, x)] _ rfl HJ4.out
  have HR := Lib.hid hR; clear hR
  simp only [encS] at hy
  gi_wp2_with fail
  refine ⟨fun h => (by cases h), HR.out.mono ?_⟩
  rintro e W5 (⟨rfl, hJ5, hK5⟩ | ⟨rfl, hJ5, _⟩)
  rotate_left
  · have HJ5 := Lib.hid hJ5; clear hJ5
    gi_wp2
    refine bodyPost_ret (results_none rfl _ _ _) rfl ?_
    exact ⟨⟨_, rfl⟩, .inr ⟨_, ⟨[(k + 1, x)], by simp⟩, HJ5.out⟩⟩
  have hg5 := HG4.out.kept hK5 HS.out.1.1 HS.out.1.2
  have hi5 := hK5.holds HI4.out (.inr HS.out.2)
  have HJ5 := Lib.hid hJ5; clear hJ5
  clear e1 e2 e22 i0 i4 hy HR
  have e1 := hg5.code.cell (i := 0) rfl
  have e2 := hg5.spot.cell (i := 0) rfl
  have e22 := hg5.spot.cell (i := 1) rfl
  have i0 := hi5.cell (i := 0) rfl
  have i4 := hi5.cell (i := 4) rfl
  clear hg5 hi5 HG4 HI4 hK5
  obtain ⟨fn, tmps, assign, body, hy, hR⟩ := HY.out (n' - 1) [(p, x)] (k + 1, x) [] _ rfl HJ5.out
  have HR := Lib.hid hR; clear hR
  simp only [encS, Int.natCast_add, Int.cast_ofNat_Int] at hy
  gi_wp2_with fail
  refine ⟨fun h => (by cases h), HR.out.mono ?_⟩
  rintro e W9 (⟨rfl, hJ9, _⟩ | ⟨rfl, hJ9, _⟩)
  · have HJ9 := Lib.hid hJ9; clear hJ9
    gi_wp2
    refine bodyPost_end (results_none rfl _ _ _) rfl ?_
    exact ⟨⟨_, rfl⟩, .inl HJ9.out⟩
  · have HJ9 := Lib.hid hJ9; clear hJ9
    gi_wp2
    refine bodyPost_end (results_none rfl _ _ _) rfl ?_
    exact ⟨⟨_, rfl⟩, .inr ⟨_, ⟨[], by simp⟩, HJ9.out⟩⟩

set_option maxRecDepth 100000 in
set_option maxHeartbeats 2000000 in
theorem go_16f (l Ba Bb q o cap n k : Nat) (a b1 cc imm : Int) (x : Bool) (hl : legalP ⟨16, a, b1, cc, imm⟩ = true) (hp : isPl imm = false) (w : World) (hk : k < n) (hn : n ≤ 1024) (hF : FormsAt w) (hg : GoAt w Ba Bb n cap (some ⟨q, o, none⟩) (k, x)) (hr : w.rangeAt q (o + k * 5) (In.cells ⟨16, a, b1, cc, imm⟩)) (S : Nat → Prop) (T : TypeId → Prop) (hS : S Ba ∧ S Bb) (hT : T 43) :
    SeqEach Fence.wide Tryz.prog 43 #[.pointer (some ⟨Ba, 0, none⟩), .pointer (some ⟨Bb, 0, none⟩)] encS (KpB S T) [(k + 1, x)] w l := by
  intro n' J Jx W hW _ hJ hJx hY h0
  have hJb : ∀ pre (X Y : World), J pre X → Below X.heap.size X Y → J pre Y := fun pre X Y hj hb => hJ pre X Y none hj (grown_below hb) (fun r e => by cases e)
  have hg0 := hg.same (hW.block _ hg.lt.1) (hW.block _ hg.lt.2)
  have hF0 := hF.same (hW.block _ hF.lt)
  have hr0 : W.rangeAt q (o + k * 5) (In.cells ⟨16, a, b1, cc, imm⟩) := rangeAt_same hr (hW.block _ (World.block_lt_of_cell? _ _ (hr 0 (.int .i64 (16)) rfl)))
  have hL := legal_any ⟨16, a, b1, cc, imm⟩ W hF0
  have hHas := has_lint (some ⟨q, o, none⟩) n cap (k : Nat) W
  rw [show hasL n (k : Nat) = true by unfold hasL; simp; omega] at hHas
  simp only [In.val] at hL
  have c1 := hg0.code.cell (i := 0) rfl
  have c2 := hg0.spot.cell (i := 0) rfl
  have c22 := hg0.spot.cell (i := 1) rfl
  have c30 : W.cell? ⟨q, o + k * 5, none⟩ = some (.int .i64 (16)) := hr0 0 _ rfl
  have c31 : W.cell? ⟨q, o + k * 5 + 1, none⟩ = some (.int .i64 a) := hr0 1 _ rfl
  have c32 : W.cell? ⟨q, o + k * 5 + 2, none⟩ = some (.int .i64 b1) := hr0 2 _ rfl
  have c33 : W.cell? ⟨q, o + k * 5 + 3, none⟩ = some (.int .i64 cc) := hr0 3 _ rfl
  have c34 : W.cell? ⟨q, o + k * 5 + 4, none⟩ = some (.int .i64 imm) := hr0 4 _ rfl
  have hk' : (k : Int) < (n : Int) := by omega
  have hkk : IntKind.i64.wrap ((k : Int) + 1) = (k : Int) + 1 := by rw [IntKind.wrap_i64]; omega
  have HJb := Lib.hid hJb; clear hJb
  have HY := Lib.hid hY; clear hY
  have HG := Lib.hid hg0; clear hg0
  have HR := Lib.hid hr0; clear hr0
  have HS := Lib.hid (And.intro hS hT); clear hS hT
  have H0 := Lib.hid h0; clear h0
  have HHas := Lib.hid hHas; clear hHas
  rw [hl] at hL
  have HL := Lib.hid hL; clear hL hl
  have hP := fun (V : World) => isPl_any imm V
  rw [hp] at hP
  have HPL := Lib.hid hP; clear hP hp
  clear hJ hJx hW hF hF0 hg hr hn hk
  refine callsIn_of_wp Tryz.func43 rfl trivial ?_ rfl
  simp only [Tryz.ntmps43, List.size_toArray, List.length_cons, List.length_nil, Nat.reduceAdd, Nat.reduceSub, Array.replicate_succ, Array.replicate_zero, List.push_toArray, List.append_toArray, List.nil_append, List.cons_append]
  gi_wp2_with fail
  first | refine ⟨fun h => (by cases h), ?_⟩ | refine ⟨trivial, fun h => (by cases h), ?_⟩ | skip
  refine (callsIn_wide.2 HHas.out).mono ?_
  rintro e w1 ⟨rfl, rfl⟩
  gi_wp2_with fail
  first | refine ⟨fun h => (by cases h), ?_⟩ | refine ⟨trivial, fun h => (by cases h), ?_⟩ | skip
  refine (callsIn_wide.2 HL.out).mono ?_
  rintro e w1 ⟨rfl, hb1⟩
  have hj1 := HJb.out _ _ _ H0.out hb1
  have hg1 := HG.out.below hb1
  have hr1 : w1.rangeAt q (o + k * 5) (In.cells ⟨16, a, b1, cc, imm⟩) := rangeAt_same HR.out (hb1.block _ (World.block_lt_of_cell? _ _ (HR.out 0 (.int .i64 16) rfl)))
  have e1 := hg1.code.cell (i := 0) rfl
  have e2 := hg1.spot.cell (i := 0) rfl
  have e22 := hg1.spot.cell (i := 1) rfl
  have e30 : w1.cell? ⟨q, o + k * 5, none⟩ = some (.int .i64 16) := hr1 0 _ rfl
  have e31 : w1.cell? ⟨q, o + k * 5 + 1, none⟩ = some (.int .i64 a) := hr1 1 _ rfl
  have e32 : w1.cell? ⟨q, o + k * 5 + 2, none⟩ = some (.int .i64 b1) := hr1 2 _ rfl
  have e33 : w1.cell? ⟨q, o + k * 5 + 3, none⟩ = some (.int .i64 cc) := hr1 3 _ rfl
  have e34 : w1.cell? ⟨q, o + k * 5 + 4, none⟩ = some (.int .i64 imm) := hr1 4 _ rfl
  have hb2 : Below w1.heap.size w1 (w1.alloc (.cells #[.int .i64 0, .int .i64 0, .int .i64 0, .int .i64 0, .int .i64 0] 43)) := (Below.refl _ w1).alloc (Nat.le_refl _) _
  have hg2 := hg1.below hb2
  have hr2 := rangeAt_same hr1 (hb2.block _ (World.block_lt_of_cell? _ _ (hr1 0 (.int .i64 16) rfl)))
  have d1 := hg2.code.cell (i := 0) rfl
  have d2 := hg2.spot.cell (i := 0) rfl
  have d30 := hr2 0 (.int .i64 16) rfl
  have d31 := hr2 1 (.int .i64 a) rfl
  have d32 := hr2 2 (.int .i64 b1) rfl
  have d33 := hr2 3 (.int .i64 cc) rfl
  have d34 := hr2 4 (.int .i64 imm) rfl
  simp only [Nat.add_zero] at d30
  have hb3 : Below w1.heap.size w1 (w1.alloc (.cells #[.int .i64 16, .int .i64 a, .int .i64 b1, .int .i64 cc, .int .i64 imm] 43)) := (Below.refl _ w1).alloc (Nat.le_refl _) _
  have hg3 := hg1.below hb3
  have hi3 : Holds (w1.alloc (.cells #[.int .i64 16, .int .i64 a, .int .i64 b1, .int .i64 cc, .int .i64 imm] 43)) w1.heap.size 43 [.int .i64 16, .int .i64 a, .int .i64 b1, .int .i64 cc, .int .i64 imm] := Holds.new w1 _ _
  have k1 := hg3.code.cell (i := 0) rfl
  have k2 := hg3.spot.cell (i := 0) rfl
  have k22 := hg3.spot.cell (i := 1) rfl
  have HG1 := Lib.hid hg1; clear hg1
  have HG3 := Lib.hid hg3; clear hg3
  have HI3 := Lib.hid hi3; clear hi3
  have HB3 := Lib.hid hb3; clear hb3
  have HJ1 := Lib.hid hj1; clear hj1
  clear hg2 hr2
  have HB2 := Lib.hid hb2; clear hb2
  clear HG HR H0 HHas HL c1 c2 c22 c30 c31 c32 c33 c34 hr1 hb1
  gi_wp2_with fail
  refine wpIn_wide.2 ?_
  go_region
  have hj4 : J [] (w1.alloc (.cells #[.int .i64 16, .int .i64 a, .int .i64 b1, .int .i64 cc, .int .i64 imm] 43)).drew := HJb.out _ _ _ HJ1.out (below_drewN HB3.out 1)
  have hg4 : GoAt (w1.alloc (.cells #[.int .i64 16, .int .i64 a, .int .i64 b1, .int .i64 cc, .int .i64 imm] 43)).drew Ba Bb n cap (some ⟨q, o, none⟩) (k, x) := HG3.out.same rfl rfl
  have hi4 : Holds (w1.alloc (.cells #[.int .i64 16, .int .i64 a, .int .i64 b1, .int .i64 cc, .int .i64 imm] 43)).drew w1.heap.size 43 [.int .i64 16, .int .i64 a, .int .i64 b1, .int .i64 cc, .int .i64 imm] := HI3.out
  clear e1 e2 e22 e30 e31 e32 e33 e34 d1 d2 d30 d31 d32 d33 d34 k1 k2 k22 HG1 HG3 HI3 HB3 HB2 HJ1
  generalize (w1.alloc (.cells #[.int .i64 16, .int .i64 a, .int .i64 b1, .int .i64 cc, .int .i64 imm] 43)).drew = w4 at *
  obtain ⟨gb, hgb⟩ : ∃ gb, w1.heap.size = gb := ⟨_, rfl⟩
  simp only [hgb] at *
  clear hgb
  have e1 := hg4.code.cell (i := 0) rfl
  have e2 := hg4.spot.cell (i := 0) rfl
  have e22 := hg4.spot.cell (i := 1) rfl
  have i0 := hi4.cell (i := 0) rfl
  have i4 := hi4.cell (i := 4) rfl
  have HG4 := Lib.hid hg4; clear hg4
  have HI4 := Lib.hid hi4; clear hi4
  have HJ4 := Lib.hid hj4; clear hj4
  gi_wp2_with fail
  first | refine ⟨fun h => (by cases h), ?_⟩ | refine ⟨trivial, fun h => (by cases h), ?_⟩ | skip
  refine (callsIn_wide.2 (HPL.out _)).mono ?_
  rintro e w5 ⟨rfl, rfl⟩
  obtain ⟨fn, tmps, assign, body, hy, hR⟩ := HY.out (n' - 1) [] (k + 1, x) [] _ rfl HJ4.out
  have HR := Lib.hid hR; clear hR
  simp only [encS, Int.natCast_add, Int.cast_ofNat_Int] at hy
  gi_wp2_with fail
  refine ⟨fun h => (by cases h), HR.out.mono ?_⟩
  rintro e W9 (⟨rfl, hJ9, _⟩ | ⟨rfl, hJ9, _⟩)
  · have HJ9 := Lib.hid hJ9; clear hJ9
    gi_wp2
    refine bodyPost_end (results_none rfl _ _ _) rfl ?_
    exact ⟨⟨_, rfl⟩, .inl HJ9.out⟩
  · have HJ9 := Lib.hid hJ9; clear hJ9
    gi_wp2
    refine bodyPost_end (results_none rfl _ _ _) rfl ?_
    exact ⟨⟨_, rfl⟩, .inr ⟨_, ⟨[], by simp⟩, HJ9.out⟩⟩

set_option maxRecDepth 100000 in
set_option maxHeartbeats 2000000 in
theorem go_16t (l Ba Bb q o cap n k : Nat) (a b1 cc : Int) (p : Nat) (x : Bool) (hp : p ≤ 1024) (hl : legalP ⟨16, a, b1, cc, (p : Nat)⟩ = true) (w : World) (hk : k < n) (hn : n ≤ 1024) (hF : FormsAt w) (hg : GoAt w Ba Bb n cap (some ⟨q, o, none⟩) (k, x)) (hr : w.rangeAt q (o + k * 5) (In.cells ⟨16, a, b1, cc, (p : Nat)⟩)) (S : Nat → Prop) (T : TypeId → Prop) (hS : S Ba ∧ S Bb) (hT : T 43) :
    SeqEach Fence.wide Tryz.prog 43 #[.pointer (some ⟨Ba, 0, none⟩), .pointer (some ⟨Bb, 0, none⟩)] encS (KpB S T) [(p, x), (k + 1, x)] w l := by
  intro n' J Jx W hW _ hJ hJx hY h0
  have hJb : ∀ pre (X Y : World), J pre X → Below X.heap.size X Y → J pre Y := fun pre X Y hj hb => hJ pre X Y none hj (grown_below hb) (fun r e => by cases e)
  have hg0 := hg.same (hW.block _ hg.lt.1) (hW.block _ hg.lt.2)
  have hF0 := hF.same (hW.block _ hF.lt)
  have hr0 : W.rangeAt q (o + k * 5) (In.cells ⟨16, a, b1, cc, (p : Nat)⟩) := rangeAt_same hr (hW.block _ (World.block_lt_of_cell? _ _ (hr 0 (.int .i64 (16)) rfl)))
  have hL := legal_any ⟨16, a, b1, cc, (p : Nat)⟩ W hF0
  have hHas := has_lint (some ⟨q, o, none⟩) n cap (k : Nat) W
  rw [show hasL n (k : Nat) = true by unfold hasL; simp; omega] at hHas
  simp only [In.val] at hL
  have c1 := hg0.code.cell (i := 0) rfl
  have c2 := hg0.spot.cell (i := 0) rfl
  have c22 := hg0.spot.cell (i := 1) rfl
  have c30 : W.cell? ⟨q, o + k * 5, none⟩ = some (.int .i64 (16)) := hr0 0 _ rfl
  have c31 : W.cell? ⟨q, o + k * 5 + 1, none⟩ = some (.int .i64 a) := hr0 1 _ rfl
  have c32 : W.cell? ⟨q, o + k * 5 + 2, none⟩ = some (.int .i64 b1) := hr0 2 _ rfl
  have c33 : W.cell? ⟨q, o + k * 5 + 3, none⟩ = some (.int .i64 cc) := hr0 3 _ rfl
  have c34 : W.cell? ⟨q, o + k * 5 + 4, none⟩ = some (.int .i64 (p : Nat)) := hr0 4 _ rfl
  have hk' : (k : Int) < (n : Int) := by omega
  have hkk : IntKind.i64.wrap ((k : Int) + 1) = (k : Int) + 1 := by rw [IntKind.wrap_i64]; omega
  have HJb := Lib.hid hJb; clear hJb
  have HY := Lib.hid hY; clear hY
  have HG := Lib.hid hg0; clear hg0
  have HR := Lib.hid hr0; clear hr0
  have HS := Lib.hid (And.intro hS hT); clear hS hT
  have H0 := Lib.hid h0; clear h0
  have HHas := Lib.hid hHas; clear hHas
  rw [hl] at hL
  have HL := Lib.hid hL; clear hL hl
  have hpl : isPl (p : Nat) = true := by unfold isPl; simp; omega
  have hP := fun (V : World) => isPl_any (p : Nat) V
  rw [hpl] at hP
  have HPL := Lib.hid hP; clear hP hpl hp
  clear hJ hJx hW hF hF0 hg hr hn hk
  refine callsIn_of_wp Tryz.func43 rfl trivial ?_ rfl
  simp only [Tryz.ntmps43, List.size_toArray, List.length_cons, List.length_nil, Nat.reduceAdd, Nat.reduceSub, Array.replicate_succ, Array.replicate_zero, List.push_toArray, List.append_toArray, List.nil_append, List.cons_append]
  gi_wp2_with fail
  first | refine ⟨fun h => (by cases h), ?_⟩ | refine ⟨trivial, fun h => (by cases h), ?_⟩ | skip
  refine (callsIn_wide.2 HHas.out).mono ?_
  rintro e w1 ⟨rfl, rfl⟩
  gi_wp2_with fail
  first | refine ⟨fun h => (by cases h), ?_⟩ | refine ⟨trivial, fun h => (by cases h), ?_⟩ | skip
  refine (callsIn_wide.2 HL.out).mono ?_
  rintro e w1 ⟨rfl, hb1⟩
  have hj1 := HJb.out _ _ _ H0.out hb1
  have hg1 := HG.out.below hb1
  have hr1 : w1.rangeAt q (o + k * 5) (In.cells ⟨16, a, b1, cc, (p : Nat)⟩) := rangeAt_same HR.out (hb1.block _ (World.block_lt_of_cell? _ _ (HR.out 0 (.int .i64 16) rfl)))
  have e1 := hg1.code.cell (i := 0) rfl
  have e2 := hg1.spot.cell (i := 0) rfl
  have e22 := hg1.spot.cell (i := 1) rfl
  have e30 : w1.cell? ⟨q, o + k * 5, none⟩ = some (.int .i64 16) := hr1 0 _ rfl
  have e31 : w1.cell? ⟨q, o + k * 5 + 1, none⟩ = some (.int .i64 a) := hr1 1 _ rfl
  have e32 : w1.cell? ⟨q, o + k * 5 + 2, none⟩ = some (.int .i64 b1) := hr1 2 _ rfl
  have e33 : w1.cell? ⟨q, o + k * 5 + 3, none⟩ = some (.int .i64 cc) := hr1 3 _ rfl
  have e34 : w1.cell? ⟨q, o + k * 5 + 4, none⟩ = some (.int .i64 (p : Nat)) := hr1 4 _ rfl
  have hb2 : Below w1.heap.size w1 (w1.alloc (.cells #[.int .i64 0, .int .i64 0, .int .i64 0, .int .i64 0, .int .i64 0] 43)) := (Below.refl _ w1).alloc (Nat.le_refl _) _
  have hg2 := hg1.below hb2
  have hr2 := rangeAt_same hr1 (hb2.block _ (World.block_lt_of_cell? _ _ (hr1 0 (.int .i64 16) rfl)))
  have d1 := hg2.code.cell (i := 0) rfl
  have d2 := hg2.spot.cell (i := 0) rfl
  have d30 := hr2 0 (.int .i64 16) rfl
  have d31 := hr2 1 (.int .i64 a) rfl
  have d32 := hr2 2 (.int .i64 b1) rfl
  have d33 := hr2 3 (.int .i64 cc) rfl
  have d34 := hr2 4 (.int .i64 (p : Nat)) rfl
  simp only [Nat.add_zero] at d30
  have hb3 : Below w1.heap.size w1 (w1.alloc (.cells #[.int .i64 16, .int .i64 a, .int .i64 b1, .int .i64 cc, .int .i64 (p : Nat)] 43)) := (Below.refl _ w1).alloc (Nat.le_refl _) _
  have hg3 := hg1.below hb3
  have hi3 : Holds (w1.alloc (.cells #[.int .i64 16, .int .i64 a, .int .i64 b1, .int .i64 cc, .int .i64 (p : Nat)] 43)) w1.heap.size 43 [.int .i64 16, .int .i64 a, .int .i64 b1, .int .i64 cc, .int .i64 (p : Nat)] := Holds.new w1 _ _
  have k1 := hg3.code.cell (i := 0) rfl
  have k2 := hg3.spot.cell (i := 0) rfl
  have k22 := hg3.spot.cell (i := 1) rfl
  have HG1 := Lib.hid hg1; clear hg1
  have HG3 := Lib.hid hg3; clear hg3
  have HI3 := Lib.hid hi3; clear hi3
  have HB3 := Lib.hid hb3; clear hb3
  have HJ1 := Lib.hid hj1; clear hj1
  clear hg2 hr2
  have HB2 := Lib.hid hb2; clear hb2
  clear HG HR H0 HHas HL c1 c2 c22 c30 c31 c32 c33 c34 hr1 hb1
  gi_wp2_with fail
  refine wpIn_wide.2 ?_
  go_region
  have hj4 : J [] (w1.alloc (.cells #[.int .i64 16, .int .i64 a, .int .i64 b1, .int .i64 cc, .int .i64 (p : Nat)] 43)).drew := HJb.out _ _ _ HJ1.out (below_drewN HB3.out 1)
  have hg4 : GoAt (w1.alloc (.cells #[.int .i64 16, .int .i64 a, .int .i64 b1, .int .i64 cc, .int .i64 (p : Nat)] 43)).drew Ba Bb n cap (some ⟨q, o, none⟩) (k, x) := HG3.out.same rfl rfl
  have hi4 : Holds (w1.alloc (.cells #[.int .i64 16, .int .i64 a, .int .i64 b1, .int .i64 cc, .int .i64 (p : Nat)] 43)).drew w1.heap.size 43 [.int .i64 16, .int .i64 a, .int .i64 b1, .int .i64 cc, .int .i64 (p : Nat)] := HI3.out
  clear e1 e2 e22 e30 e31 e32 e33 e34 d1 d2 d30 d31 d32 d33 d34 k1 k2 k22 HG1 HG3 HI3 HB3 HB2 HJ1
  generalize (w1.alloc (.cells #[.int .i64 16, .int .i64 a, .int .i64 b1, .int .i64 cc, .int .i64 (p : Nat)] 43)).drew = w4 at *
  obtain ⟨gb, hgb⟩ : ∃ gb, w1.heap.size = gb := ⟨_, rfl⟩
  simp only [hgb] at *
  clear hgb
  have e1 := hg4.code.cell (i := 0) rfl
  have e2 := hg4.spot.cell (i := 0) rfl
  have e22 := hg4.spot.cell (i := 1) rfl
  have i0 := hi4.cell (i := 0) rfl
  have i4 := hi4.cell (i := 4) rfl
  have HG4 := Lib.hid hg4; clear hg4
  have HI4 := Lib.hid hi4; clear hi4
  have HJ4 := Lib.hid hj4; clear hj4
  gi_wp2_with fail
  first | refine ⟨fun h => (by cases h), ?_⟩ | refine ⟨trivial, fun h => (by cases h), ?_⟩ | skip
  refine (callsIn_wide.2 (HPL.out _)).mono ?_
  rintro e w5 ⟨rfl, rfl⟩
  obtain ⟨fn, tmps, assign, body, hy, hR⟩ := HY.out (n' - 1) [] (p, x) [(k + 1, x)] _ rfl HJ4.out
  have HR := Lib.hid hR; clear hR
  simp only [encS] at hy
  gi_wp2_with fail
  refine ⟨fun h => (by cases h), HR.out.mono ?_⟩
  rintro e W5 (⟨rfl, hJ5, hK5⟩ | ⟨rfl, hJ5, _⟩)
  rotate_left
  · have HJ5 := Lib.hid hJ5; clear hJ5
    gi_wp2
    refine bodyPost_ret (results_none rfl _ _ _) rfl ?_
    exact ⟨⟨_, rfl⟩, .inr ⟨_, ⟨[(k + 1, x)], by simp⟩, HJ5.out⟩⟩
  have hg5 := HG4.out.kept hK5 HS.out.1.1 HS.out.1.2
  have hi5 := hK5.holds HI4.out (.inr HS.out.2)
  have HJ5 := Lib.hid hJ5; clear hJ5
  clear e1 e2 e22 i0 i4 hy HR
  have e1 := hg5.code.cell (i := 0) rfl
  have e2 := hg5.spot.cell (i := 0) rfl
  have e22 := hg5.spot.cell (i := 1) rfl
  have i0 := hi5.cell (i := 0) rfl
  have i4 := hi5.cell (i := 4) rfl
  clear hg5 hi5 HG4 HI4 hK5
  obtain ⟨fn, tmps, assign, body, hy, hR⟩ := HY.out (n' - 1) [(p, x)] (k + 1, x) [] _ rfl HJ5.out
  have HR := Lib.hid hR; clear hR
  simp only [encS, Int.natCast_add, Int.cast_ofNat_Int] at hy
  gi_wp2_with fail
  refine ⟨fun h => (by cases h), HR.out.mono ?_⟩
  rintro e W9 (⟨rfl, hJ9, _⟩ | ⟨rfl, hJ9, _⟩)
  · have HJ9 := Lib.hid hJ9; clear hJ9
    gi_wp2
    refine bodyPost_end (results_none rfl _ _ _) rfl ?_
    exact ⟨⟨_, rfl⟩, .inl HJ9.out⟩
  · have HJ9 := Lib.hid hJ9; clear hJ9
    gi_wp2
    refine bodyPost_end (results_none rfl _ _ _) rfl ?_
    exact ⟨⟨_, rfl⟩, .inr ⟨_, ⟨[], by simp⟩, HJ9.out⟩⟩

set_option maxRecDepth 100000 in
set_option maxHeartbeats 2000000 in
theorem go_on (l Ba Bb q o cap n k : Nat) (op a b1 cc imm : Int) (x : Bool) (hl : legalP ⟨op, a, b1, cc, imm⟩ = true) (h1 : op ≠ 1) (h17 : op ≠ 17) (h18 : op ≠ 18) (h13 : op ≠ 13) (h14 : op ≠ 14) (h15 : op ≠ 15) (h16 : op ≠ 16) (w : World) (hk : k < n) (hn : n ≤ 1024) (hF : FormsAt w) (hg : GoAt w Ba Bb n cap (some ⟨q, o, none⟩) (k, x)) (hr : w.rangeAt q (o + k * 5) (In.cells ⟨op, a, b1, cc, imm⟩)) (S : Nat → Prop) (T : TypeId → Prop) (hS : S Ba ∧ S Bb) (hT : T 43) :
    SeqEach Fence.wide Tryz.prog 43 #[.pointer (some ⟨Ba, 0, none⟩), .pointer (some ⟨Bb, 0, none⟩)] encS (KpB S T) [(k + 1, x)] w l := by
  intro n' J Jx W hW _ hJ hJx hY h0
  have hJb : ∀ pre (X Y : World), J pre X → Below X.heap.size X Y → J pre Y := fun pre X Y hj hb => hJ pre X Y none hj (grown_below hb) (fun r e => by cases e)
  have hg0 := hg.same (hW.block _ hg.lt.1) (hW.block _ hg.lt.2)
  have hF0 := hF.same (hW.block _ hF.lt)
  have hr0 : W.rangeAt q (o + k * 5) (In.cells ⟨op, a, b1, cc, imm⟩) := rangeAt_same hr (hW.block _ (World.block_lt_of_cell? _ _ (hr 0 (.int .i64 (op)) rfl)))
  have hL := legal_any ⟨op, a, b1, cc, imm⟩ W hF0
  have hHas := has_lint (some ⟨q, o, none⟩) n cap (k : Nat) W
  rw [show hasL n (k : Nat) = true by unfold hasL; simp; omega] at hHas
  simp only [In.val] at hL
  have c1 := hg0.code.cell (i := 0) rfl
  have c2 := hg0.spot.cell (i := 0) rfl
  have c22 := hg0.spot.cell (i := 1) rfl
  have c30 : W.cell? ⟨q, o + k * 5, none⟩ = some (.int .i64 (op)) := hr0 0 _ rfl
  have c31 : W.cell? ⟨q, o + k * 5 + 1, none⟩ = some (.int .i64 a) := hr0 1 _ rfl
  have c32 : W.cell? ⟨q, o + k * 5 + 2, none⟩ = some (.int .i64 b1) := hr0 2 _ rfl
  have c33 : W.cell? ⟨q, o + k * 5 + 3, none⟩ = some (.int .i64 cc) := hr0 3 _ rfl
  have c34 : W.cell? ⟨q, o + k * 5 + 4, none⟩ = some (.int .i64 imm) := hr0 4 _ rfl
  have hk' : (k : Int) < (n : Int) := by omega
  have hkk : IntKind.i64.wrap ((k : Int) + 1) = (k : Int) + 1 := by rw [IntKind.wrap_i64]; omega
  have HJb := Lib.hid hJb; clear hJb
  have HY := Lib.hid hY; clear hY
  have HG := Lib.hid hg0; clear hg0
  have HR := Lib.hid hr0; clear hr0
  have HS := Lib.hid (And.intro hS hT); clear hS hT
  have H0 := Lib.hid h0; clear h0
  have HHas := Lib.hid hHas; clear hHas
  rw [hl] at hL
  have HL := Lib.hid hL; clear hL hl
  have f1 : (op == 1) = false := by simpa using h1
  have f17 : (op == 17) = false := by simpa using h17
  have f18 : (op == 18) = false := by simpa using h18
  have f13 : (op == 13) = false := by simpa using h13
  have f14 : (op == 14) = false := by simpa using h14
  have f15 : (op == 15) = false := by simpa using h15
  have f16 : (op == 16) = false := by simpa using h16
  clear h1 h17 h18 h13 h14 h15 h16
  clear hJ hJx hW hF hF0 hg hr hn hk
  refine callsIn_of_wp Tryz.func43 rfl trivial ?_ rfl
  simp only [Tryz.ntmps43, List.size_toArray, List.length_cons, List.length_nil, Nat.reduceAdd, Nat.reduceSub, Array.replicate_succ, Array.replicate_zero, List.push_toArray, List.append_toArray, List.nil_append, List.cons_append]
  gi_wp2_with fail
  first | refine ⟨fun h => (by cases h), ?_⟩ | refine ⟨trivial, fun h => (by cases h), ?_⟩ | skip
  refine (callsIn_wide.2 HHas.out).mono ?_
  rintro e w1 ⟨rfl, rfl⟩
  gi_wp2_with fail
  first | refine ⟨fun h => (by cases h), ?_⟩ | refine ⟨trivial, fun h => (by cases h), ?_⟩ | skip
  refine (callsIn_wide.2 HL.out).mono ?_
  rintro e w1 ⟨rfl, hb1⟩
  have hj1 := HJb.out _ _ _ H0.out hb1
  have hg1 := HG.out.below hb1
  have hr1 : w1.rangeAt q (o + k * 5) (In.cells ⟨op, a, b1, cc, imm⟩) := rangeAt_same HR.out (hb1.block _ (World.block_lt_of_cell? _ _ (HR.out 0 (.int .i64 op) rfl)))
  have e1 := hg1.code.cell (i := 0) rfl
  have e2 := hg1.spot.cell (i := 0) rfl
  have e22 := hg1.spot.cell (i := 1) rfl
  have e30 : w1.cell? ⟨q, o + k * 5, none⟩ = some (.int .i64 op) := hr1 0 _ rfl
  have e31 : w1.cell? ⟨q, o + k * 5 + 1, none⟩ = some (.int .i64 a) := hr1 1 _ rfl
  have e32 : w1.cell? ⟨q, o + k * 5 + 2, none⟩ = some (.int .i64 b1) := hr1 2 _ rfl
  have e33 : w1.cell? ⟨q, o + k * 5 + 3, none⟩ = some (.int .i64 cc) := hr1 3 _ rfl
  have e34 : w1.cell? ⟨q, o + k * 5 + 4, none⟩ = some (.int .i64 imm) := hr1 4 _ rfl
  have hb2 : Below w1.heap.size w1 (w1.alloc (.cells #[.int .i64 0, .int .i64 0, .int .i64 0, .int .i64 0, .int .i64 0] 43)) := (Below.refl _ w1).alloc (Nat.le_refl _) _
  have hg2 := hg1.below hb2
  have hr2 := rangeAt_same hr1 (hb2.block _ (World.block_lt_of_cell? _ _ (hr1 0 (.int .i64 op) rfl)))
  have d1 := hg2.code.cell (i := 0) rfl
  have d2 := hg2.spot.cell (i := 0) rfl
  have d30 := hr2 0 (.int .i64 op) rfl
  have d31 := hr2 1 (.int .i64 a) rfl
  have d32 := hr2 2 (.int .i64 b1) rfl
  have d33 := hr2 3 (.int .i64 cc) rfl
  have d34 := hr2 4 (.int .i64 imm) rfl
  simp only [Nat.add_zero] at d30
  have hb3 : Below w1.heap.size w1 (w1.alloc (.cells #[.int .i64 op, .int .i64 a, .int .i64 b1, .int .i64 cc, .int .i64 imm] 43)) := (Below.refl _ w1).alloc (Nat.le_refl _) _
  have hg3 := hg1.below hb3
  have hi3 : Holds (w1.alloc (.cells #[.int .i64 op, .int .i64 a, .int .i64 b1, .int .i64 cc, .int .i64 imm] 43)) w1.heap.size 43 [.int .i64 op, .int .i64 a, .int .i64 b1, .int .i64 cc, .int .i64 imm] := Holds.new w1 _ _
  have k1 := hg3.code.cell (i := 0) rfl
  have k2 := hg3.spot.cell (i := 0) rfl
  have k22 := hg3.spot.cell (i := 1) rfl
  have HG1 := Lib.hid hg1; clear hg1
  have HG3 := Lib.hid hg3; clear hg3
  have HI3 := Lib.hid hi3; clear hi3
  have HB3 := Lib.hid hb3; clear hb3
  have HJ1 := Lib.hid hj1; clear hj1
  clear hg2 hr2
  have HB2 := Lib.hid hb2; clear hb2
  clear HG HR H0 HHas HL c1 c2 c22 c30 c31 c32 c33 c34 hr1 hb1
  gi_wp2_with fail
  refine wpIn_wide.2 ?_
  go_region
  have hj4 : J [] (w1.alloc (.cells #[.int .i64 op, .int .i64 a, .int .i64 b1, .int .i64 cc, .int .i64 imm] 43)).drew := HJb.out _ _ _ HJ1.out (below_drewN HB3.out 1)
  have hg4 : GoAt (w1.alloc (.cells #[.int .i64 op, .int .i64 a, .int .i64 b1, .int .i64 cc, .int .i64 imm] 43)).drew Ba Bb n cap (some ⟨q, o, none⟩) (k, x) := HG3.out.same rfl rfl
  have hi4 : Holds (w1.alloc (.cells #[.int .i64 op, .int .i64 a, .int .i64 b1, .int .i64 cc, .int .i64 imm] 43)).drew w1.heap.size 43 [.int .i64 op, .int .i64 a, .int .i64 b1, .int .i64 cc, .int .i64 imm] := HI3.out
  clear e1 e2 e22 e30 e31 e32 e33 e34 d1 d2 d30 d31 d32 d33 d34 k1 k2 k22 HG1 HG3 HI3 HB3 HB2 HJ1
  generalize (w1.alloc (.cells #[.int .i64 op, .int .i64 a, .int .i64 b1, .int .i64 cc, .int .i64 imm] 43)).drew = w4 at *
  obtain ⟨gb, hgb⟩ : ∃ gb, w1.heap.size = gb := ⟨_, rfl⟩
  simp only [hgb] at *
  clear hgb
  have e1 := hg4.code.cell (i := 0) rfl
  have e2 := hg4.spot.cell (i := 0) rfl
  have e22 := hg4.spot.cell (i := 1) rfl
  have i0 := hi4.cell (i := 0) rfl
  have i4 := hi4.cell (i := 4) rfl
  have HG4 := Lib.hid hg4; clear hg4
  have HI4 := Lib.hid hi4; clear hi4
  have HJ4 := Lib.hid hj4; clear hj4
  obtain ⟨fn, tmps, assign, body, hy, hR⟩ := HY.out (n' - 1) [] (k + 1, x) [] _ rfl HJ4.out
  have HR := Lib.hid hR; clear hR
  simp only [encS, Int.natCast_add, Int.cast_ofNat_Int] at hy
  gi_wp2_with fail
  refine ⟨fun h => (by cases h), HR.out.mono ?_⟩
  rintro e W9 (⟨rfl, hJ9, _⟩ | ⟨rfl, hJ9, _⟩)
  · have HJ9 := Lib.hid hJ9; clear hJ9
    gi_wp2
    refine bodyPost_end (results_none rfl _ _ _) rfl ?_
    exact ⟨⟨_, rfl⟩, .inl HJ9.out⟩
  · have HJ9 := Lib.hid hJ9; clear hJ9
    gi_wp2
    refine bodyPost_end (results_none rfl _ _ _) rfl ?_
    exact ⟨⟨_, rfl⟩, .inr ⟨_, ⟨[], by simp⟩, HJ9.out⟩⟩

end Go.Proofs.YteijhcibdglkeaaGreatDoor
