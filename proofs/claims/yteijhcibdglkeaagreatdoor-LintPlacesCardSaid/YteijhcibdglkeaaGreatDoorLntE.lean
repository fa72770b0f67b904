/- What was met: the walk of all ways. Conditions: those stated in each theorem. -/
import Derived.Test.YteijhcibdglkeaaGreatDoorLntD
import Derived.Test.YteijhcibdglkeaaGreatDoorRndH
import Derived.Sort.LoopGhostIn
import Derived.OwnWalkIn
namespace Go.Proofs.YteijhcibdglkeaaGreatDoor
open Go.RowKit Go.BigFrame Go.Shelf
attribute [local go_sem] Oper.semAt_some
attribute [local simp] wide_fn

theorem Tryz.infoSpot : (Tryz.prog.info? 89).map (fun i => (i.zero, i.size, i.bytes)) = some (some (.agg #[.int .i64 0, .bool false]), 2, 16) := by kernel_rfl
theorem info_parts {i : Option TypeInfo} {z : Option Value} {s b : Nat} (h : i.map (fun i => (i.zero, i.size, i.bytes)) = some (z, s, b)) : ∃ j, i = some j ∧ j.zero = z ∧ j.size = s ∧ j.bytes = b := by
  cases i with
  | none => cases h
  | some j => simp only [Option.map_some, Option.some.injEq, Prod.mk.injEq] at h; exact ⟨j, rfl, h⟩
def flatS (L : List Spot) : List Value := L.flatMap fun s => [.int .i64 (s.1 : Nat), .bool s.2]
theorem flatS_len : ∀ L : List Spot, (flatS L).length = L.length * 2
  | [] => rfl
  | s :: r => by
    have := flatS_len r
    unfold flatS at this ⊢
    rw [List.flatMap_cons, List.length_append, this, List.length_cons]
    simp; omega
theorem flatS_snoc (L : List Spot) (s : Spot) : flatS (L ++ [s]) = flatS L ++ [.int .i64 (s.1 : Nat), .bool s.2] := by simp [flatS]
theorem sum_le {α : Type} (g : α → Nat) (b : Nat) (h : ∀ x, g x ≤ b) : ∀ l : List α, (l.map g).sum ≤ l.length * b
  | [] => by simp
  | x :: r => by
    have h1 := h x
    have h2 := sum_le g b h r
    simp only [List.map_cons, List.sum_cons, List.length_cons, Nat.succ_mul]; omega
theorem room_le (f : MV) : room f ≤ 524800 := by
  have h := sum_le (fun s => 256 - valM (f s)) 256 (fun s => by omega) spots
  have hl : spots.length = 2050 := by decide +kernel
  rw [hl] at h
  exact h

theorem owns_slice {w : World} {lo n : Nat} {e : TypeId} {size : Nat} {v : Value} {xs : List Value} (h : w.ownsRow lo e size v n xs) : ∃ ad cap, v = .slice ad n cap ∧ (0 < n → ∃ g, ad = some ⟨g, 0, none⟩) := by
  rcases owns_form h with ⟨rfl, rfl, _⟩ | ⟨g, cap, rfl, _⟩
  · exact ⟨none, 0, rfl, fun h => by omega⟩
  · exact ⟨_, cap, rfl, fun _ => ⟨g, rfl⟩⟩
/-- Between two rounds. -/
structure MtS (a : Option Addr) (cap : Nat) (c : List In) (w : World) (N : Nat) (f : MV) (n : Nat) (L : List Spot) (v : Value) (W : World) : Prop where
  below : Below N w W
  code : Holds W N 31 [.slice a c.length cap]
  ubox : Holds W (N + 3) 61 [.map (some (N + 2))]
  map : RgAt W (N + 2) n f
  lbox : Holds W (N + 5) 92 [v]
  row : W.ownsRow (N + 4) 89 2 v L.length (flatS L)
  inv : MInv c f L
theorem kept_rg {W W' : World} {row : Option Nat} {B b n : Nat} {f : MV} (h : RgAt W b n f) (hg : W.grownBy W' row) (hr : ∀ r, row = some r → B ≤ r ∧ ∃ o : Obj, W.heap[r]? = some o ∧ o.isCells = false) (hb : b < B) : RgAt W' b n f :=
  h.same (hg.block b h.lt (fun e => by have := (hr b e.symm).1; omega))
theorem MtS.own {a : Option Addr} {cap : Nat} {c : List In} {w : World} {N n B : Nat} {f : MV} {L : List Spot} {v : Value} (hw : w.heap.size = N) (hB : N + 6 ≤ B) : OwnFrom B (fun (_ : Unit) W => MtS a cap c w N f n L v W) := fun u X Y row hs hg hr =>
  ⟨hs.below.grown hg (by rw [← hw]; exact hs.below.size) (fun r e => by have := (hr r e).1; omega),
    ownFrom_holds B N _ (fun _ => _) u X Y row hs.code hg hr, ownFrom_holds B (N + 3) _ (fun _ => _) u X Y row hs.ubox hg hr, kept_rg hs.map hg hr (by omega),
    ownFrom_holds B (N + 5) _ (fun _ => _) u X Y row hs.lbox hg hr, ownsRow_own B (N + 4) _ 2 v (fun _ => _) (fun _ => _) u X Y row hs.row hg hr, hs.inv⟩

theorem Tryz.zeroSpot (w : World) : (zeroValue 89).run Tryz.prog w = .ok (.agg #[.int .i64 0, .bool false]) w := by kernel_rfl
theorem rg_new {W : World} {b : Nat} (h : W.heap.size = b) : RgAt (W.alloc (.map #[] 0)) b 0 (fun _ => none) := by subst h; exact RgAt.made W
theorem mv0_put : MV.put (fun _ => none) (0, false) 255 = mv0 := rfl
theorem MtS.next {a : Option Addr} {cap : Nat} {c : List In} {w : World} {N n : Nat} {f : MV} {L : List Spot} {v : Value} {W W' : World} (hw : w.heap.size = N) (h : MtS a cap c w N f n L v W) (k : Below W.heap.size W W') : MtS a cap c w N f n L v W' :=
  MtS.own hw (Nat.le_refl _) () W W' none h (grown_below k) (fun r e => by cases e)
theorem RgAt.drew {w : World} {b n : Nat} {f : MV} (h : RgAt w b n f) : RgAt w.drew b n f := h.same rfl
theorem mks_cons {B D : Nat} {ms : List Nat} {W : World} (h : Mks B ms W) (hB : B ≤ D) (hlt : ∀ E ∈ ms, E < D) (hD : W.heap[D]? = some (.deferred (some []))) : Mks B (D :: ms) W :=
  ⟨fun E hE => by
    rcases List.mem_cons.1 hE with rfl | hE
    · exact hD
    · exact h.1 E hE, List.nodup_cons.2 ⟨fun e => by have := hlt D e; omega, h.2.1⟩, fun E hE => by
    rcases List.mem_cons.1 hE with rfl | hE
    · exact hB
    · exact h.2.2 E hE⟩
theorem Mks.setMk {ms : List Nat} {B : Nat} {W : World} (h : Mks B ms W) (p : Addr) (u : Value) : Mks B ms (W.setCell p u) :=
  ⟨fun D hD => by
    have := h.1 D hD
    by_cases e : p.block = D
    · subst e
      simp [World.setCell, Array.getElem?_modify, this]
    · exact (Below.heap_setCell _ _ _ _ (fun e2 => e e2.symm)).trans this, h.2⟩
theorem KeepsFrom.le {B B' : Nat} {W W' : World} (h : KeepsFrom B W W') (hb : B ≤ B') : KeepsFrom B' W W' := ⟨h.size, fun k o hk h1 h2 => h.same k o (Nat.le_trans hb hk) h1 h2⟩
theorem keepsFrom_below {W W' : World} (B : Nat) (h : Below W.heap.size W W') : KeepsFrom B W W' := ⟨h.size, fun k ob _ hk _ => (h.block k (Array.getElem?_eq_some_iff.1 hk).1).trans hk⟩
theorem kpB_below {S : Nat → Prop} {T : TypeId → Prop} {W W' : World} (h : Below W.heap.size W W') : KpB S T W W' := fun b c t m e _ => (h.block b (Array.getElem?_eq_some_iff.1 e).1).trans e
theorem andn_fin : ∀ m : Fin 256, ∀ k : Fin 9, Go.bits .andNot .u64 ((m.val : Nat) : Int) (((if k.val = 8 then 0 else 2 ^ k.val : Nat)) : Int) = ((andn m.val (if k.val = 8 then 0 else 2 ^ k.val) : Nat) : Int) := by decide +kernel
theorem brings_bits {i : In} {m : Nat} (hl : legalP i = true) (hm : m < 256) : Go.bits .andNot .u64 (m : Int) ((setsM i : Nat) : Int) = ((brings i m : Nat) : Int) := by
  unfold brings setsM
  split
  · rename_i h
    have ha := legal_sets hl h.1 h.2
    have := andn_fin ⟨m, hm⟩ ⟨i.a.toNat, by omega⟩
    simp only at this
    rw [if_neg (by omega)] at this
    exact this
  · have := andn_fin ⟨m, hm⟩ ⟨8, by omega⟩
    simpa using this
/-- Between two rounds of the range. -/
def MtI (a : Option Addr) (cap : Nat) (c : List In) (w : World) (N : Nat) (f : MV) (n : Nat) (L : List Spot) (v : Value) (F : Nat) (s : Spot) (m : Nat) (ms : List Nat) (pre : List Spot) (W : World) : Prop :=
  ((MtS a cap c w N f n L v W ∧ Holds W F 89 [.int .i64 (s.1 : Nat), .bool s.2]) ∧ Mks (N + 6) ms W) ∧ ∀ t ∈ pre, ∀ i, c[s.1]? = some i → ∃ m', f t = some m' ∧ m' ||| brings i m = m'
def MtX (a : Option Addr) (cap : Nat) (c : List In) (w : World) (N : Nat) (n gg : Nat) (ms : List Nat) (cd : Code) (_ : List Spot) (W : World) : Prop :=
  cd = .exit 1 ∧ ∃ f L v, MtS a cap c w N f (n + 1) L v W ∧ Mks (N + 6) ms W ∧ 2 * room f + L.length + 1 ≤ gg
theorem mtI_own {a : Option Addr} {cap : Nat} {c : List In} {w : World} {N n B F m : Nat} {f : MV} {L : List Spot} {v : Value} {s : Spot} {ms : List Nat} (hw : w.heap.size = N) (hB : N + 6 ≤ B) (hm : ∀ D ∈ ms, D < B) : OwnFrom B (MtI a cap c w N f n L v F s m ms) :=
  OwnFrom.and (OwnFrom.and (OwnFrom.and (fun _ X Y row hs hg hr => MtS.own hw hB () X Y row hs hg hr) (ownFrom_holds _ _ _ (fun _ => _))) (Mks.own hm)) (fun _ _ _ _ hs _ _ => hs)
theorem mtX_own {a : Option Addr} {cap : Nat} {c : List In} {w : World} {N n B gg : Nat} {ms : List Nat} (hw : w.heap.size = N) (hB : N + 6 ≤ B) (hm : ∀ D ∈ ms, D < B) (cd : Code) : OwnFrom B (MtX a cap c w N n gg ms cd) := fun s X Y row hs hg hr => by
  obtain ⟨h1, f, L, v, h2, h3, h4⟩ := hs
  exact ⟨h1, f, L, v, MtS.own hw hB () X Y row h2 hg hr, Mks.own (β := Unit) hm () X Y row h3 hg hr, h4⟩
theorem metZ_own {c : List In} {w : World} {N B : Nat} (hw : w.heap.size = N) (hB : N + 6 ≤ B) : OwnFrom B (fun (_ : Unit) U => ∃ n f, RgAt U (N + 2) n f ∧ MetOf c f ∧ Below N w U) := fun u X Y row hs hg hr => by
  obtain ⟨n, f, h1, h2, h3⟩ := hs
  exact ⟨n, f, kept_rg h1 hg hr (by omega), h2, h3.grown hg (by rw [← hw]; exact h3.size) (fun r e => by have := (hr r e).1; omega)⟩

set_option maxRecDepth 100000 in
set_option maxHeartbeats 4000000 in
theorem met_in (a : Option Addr) (cap : Nat) (c : List In) (w : World) (N : Nat) (hN : w.heap.size = N) (hn : c.length ≤ 1024) (hF : FormsAt w) (hr : RowsIn w a 5 In.cells c) : CallsIn Fence.wide 9 Tryz.prog 23 #[.slice a c.length cap] w fun e w' => ∃ b, e = .returned (.map (some b)) ∧ N ≤ b ∧ ∃ n f, RgAt w' b n f ∧ MetOf c f ∧ Below N w w' := by
  have HF := Lib.hid (And.intro hF hr); clear hF hr
  have Hn := Lib.hid hn; clear hn
  have HN := Lib.hid hN
  have hmm := @run_makeMap Tryz.prog
  have hz := Tryz.zeroSpot
  refine callsIn_of_wp_marks Tryz.func23 rfl trivial ?_ rfl
  simp only [Tryz.ntmps23, List.size_toArray, List.length_cons, List.length_nil, Nat.reduceAdd, Nat.reduceSub, Array.replicate_succ, Array.replicate_zero, List.push_toArray, List.append_toArray, List.nil_append, List.cons_append]
  gi_wp2_with fail
  refine wpIn_wide.2 (wp_scope_straight ((wpIn_wide (n := 9)).1 ?_))
  have hsA : ((w.alloc (.cells #[.slice a c.length cap] 31)).alloc (.cells #[.int .i64 0, .bool false] 89)).heap.size = N + 1 + 1 := by simp [hN]
  obtain ⟨w4, hrun, h4, hg4, hs4⟩ := rg_store (s := (0, false)) (va := 255) (rg_new hsA) (by simp) (by omega) (by unfold maxLen; omega)
  simp only [spV, Int.ofNat_eq_natCast, Int.cast_ofNat_Int] at hrun
  have hb3 : Below N w (((w.alloc (.cells #[.slice a c.length cap] 31)).alloc (.cells #[.int .i64 0, .bool false] 89)).alloc (.map #[] 0)) := (((Below.refl _ w).alloc (by omega) _).alloc (by simp; omega) _).alloc (by simp; omega) _
  have hb4 : Below N w w4 := hb3.grown hg4 (by simp [hN]; omega) (fun r e => by cases e; omega)
  rw [show (((w.alloc (.cells #[.slice a c.length cap] 31)).alloc (.cells #[.int .i64 0, .bool false] 89)).alloc (.map #[] 0)).heap.size = N + 3 by simp [hN]] at hs4
  have q0 : Holds w4 N 31 [.slice a c.length cap] := by
    have h0 : Holds (((w.alloc (.cells #[.slice a c.length cap] 31)).alloc (.cells #[.int .i64 0, .bool false] 89)).alloc (.map #[] 0)) N 31 [.slice a c.length cap] := ((newAt hN 31 [.slice a c.length cap]).alloc _).alloc _
    exact h0.same (hg4.block N h0.lt (fun e => absurd (Option.some.inj e) (by omega)))
  have q1 : Holds w4 (N + 1) 89 [.int .i64 0, .bool false] := by
    have h0 : Holds (((w.alloc (.cells #[.slice a c.length cap] 31)).alloc (.cells #[.int .i64 0, .bool false] 89)).alloc (.map #[] 0)) (N + 1) 89 [.int .i64 0, .bool false] := (newAt (by simp [hN]) 89 [.int .i64 0, .bool false]).alloc _
    exact h0.same (hg4.block (N + 1) h0.lt (fun e => absurd (Option.some.inj e) (by omega)))
  have c4 := q1.cell (i := 0) rfl
  have c5 := q1.cell (i := 1) rfl
  have HB4 := Lib.hid hb4; clear hb4 hb3
  have HQ0 := Lib.hid q0; clear q0 q1
  have HR4 := Lib.hid h4; clear h4 hg4 hsA
  have HS4 := Lib.hid hs4
  gi_wp2_with fail
  simp only [Nat.add_assoc, Nat.reduceAdd] at *
  have hst : MtS a cap c w N mv0 1 [(0, false)] (.slice (some ⟨N + 4, 0, none⟩) 1 1) (((w4.alloc (.cells #[.map (some (N + 2))] 61)).alloc (.cells #[.int .i64 0, .bool false] 89)).alloc (.cells #[.slice (some ⟨N + 4, 0, none⟩) 1 1] 92)) := by
    have hs4' := HS4.out
    refine ⟨((HB4.out.alloc (by omega) _).alloc (by simp; omega) _).alloc (by simp; omega) _, ((HQ0.out.alloc _).alloc _).alloc _, ((newAt hs4' _ [.map (some (N + 2))]).alloc _).alloc _, ?_, newAt (by simp; omega) _ [.slice (some ⟨N + 4, 0, none⟩) 1 1], ?_, minv_start c⟩
    · exact HR4.out.below ((((Below.refl _ w4).alloc (Nat.le_refl _) _).alloc (by simp) _).alloc (by simp; omega) _)
    · refine ⟨by simp [flatS], .inr ⟨N + 4, 1, #[.int .i64 0, .bool false], rfl, Nat.le_refl _, ?_, Nat.le_refl _, by unfold maxLen; omega, rfl, rfl⟩⟩
      exact (newAt (w := w4.alloc (.cells #[.map (some (N + 2))] 61)) (by simp; omega) 89 [.int .i64 0, .bool false]).alloc _
  have HST := Lib.hid hst; clear hst
  clear c4 c5 hrun hs4 hz hmm HB4 HQ0 HR4 HS4
  generalize ((w4.alloc (.cells #[.map (some (N + 2))] 61)).alloc (.cells #[.int .i64 0, .bool false] 89)).alloc (.cells #[.slice (some ⟨N + 4, 0, none⟩) 1 1] 92) = W0 at *
  obtain ⟨i0, hj0, hj1, hj2, hj3⟩ := info_parts Tryz.infoSpot
  have HIf := Lib.hid (And.intro hj0 (And.intro hj1 (And.intro hj2 hj3))); clear hj0 hj1 hj2 hj3
  refine wpIn_label ?_
  gi_wp2_with fail
  refine wpIn_loop_ghost (fun gg A U => ∃ (f : MV) (n : Nat) (L : List Spot) (v : Value) (ms : List Nat) (u6 u17 u18 u19 u20 u21 u22 u23 u24 u25 u26 u27 u28 u62 u63 u64 u65 u66 : Value), (MtS a cap c w N f n L v U ∧ Mks (N + 6) ms U ∧ (2 * room f + L.length ≤ gg ∧ n + gg ≤ 1100000)) ∧ A = { tmps := #[.slice a c.length cap, .pointer (some ⟨N, 0, none⟩), .map none, .pointer (some ⟨N + 1, 0, none⟩), .pointer (some ⟨N + 3, 0, none⟩), .pointer (some ⟨N + 5, 0, none⟩), u6, undef, undef, undef, undef, .agg #[.int .i64 0, .bool false], .map (some (N + 2)), .agg #[.int .i64 0, .bool false], .map (some (N + 2)), .agg #[.int .i64 0, .bool false], .slice (some ⟨N + 4, 0, none⟩) 1 1, u17, u18, u19, u20, u21, u22, u23, u24, u25, u26, u27, u28, undef, undef, undef, undef, undef, undef, undef, undef, undef, undef, undef, undef, undef, undef, undef, undef, undef, undef, undef, undef, undef, undef, undef, undef, undef, undef, undef, undef, undef, undef, undef, undef, undef, u62, u63, u64, u65, u66, undef], defers := ms.map fun D => { target := .collected D, args := #[] } }) (2 * room mv0 + 1) ?start ?round
  case start =>
    exact ⟨mv0, 1, [(0, false)], _, [], _, _, _, _, _, _, _, _, _, _, _, _, _, _, _, _, _, _, ⟨HST.out, ⟨fun D hD => (by cases hD), List.nodup_nil, fun D hD => (by cases hD)⟩, by simp, by have := room_le mv0; omega⟩, rfl⟩
  case round =>
    rintro gg _ U ⟨f, n, L, v, ms, u6, u17, u18, u19, u20, u21, u22, u23, u24, u25, u26, u27, u28, u62, u63, u64, u65, u66, ⟨hst, hms, hgg, hcnt⟩, rfl⟩
    by_cases hL : L = []
    · subst hL
      have e0 := hst.lbox.cell (i := 0) rfl
      have e1 := hst.ubox.cell (i := 0) rfl
      obtain ⟨va, vc, rfl, -⟩ := owns_slice hst.row
      have Hst := Lib.hid hst; clear hst
      have Hms := Lib.hid hms; clear hms
      clear hgg hcnt HST
      gi_wp2_with fail
      first | rw [Exit.noGoto_ret] | skip
      refine leaves_marks (B := N + 6) (metZ_own HN.out (Nat.le_refl _)) ?_ ms _ Hms.out.1 Hms.out.2.1 Hms.out.2.2 ⟨n, f, Hst.out.map, Hst.out.inv.done, Hst.out.below⟩
      intro U2 hU
      exact ⟨_, results_tmp rfl _ _ _, _, rfl, by omega, hU⟩
    · obtain ⟨L', s, rfl⟩ : ∃ L' s, L = L' ++ [s] := ⟨L.dropLast, L.getLast hL, (List.dropLast_concat_getLast hL).symm⟩
      obtain ⟨va, lc, rfl, hva⟩ := owns_slice hst.row
      obtain ⟨gl, rfl⟩ := hva (by simp)
      obtain ⟨m, hm⟩ : ∃ m, f s = some m := Option.isSome_iff_exists.1 (hst.inv.in_ s (by simp))
      have hs1 : s.1 ≤ 1024 := (hst.inv.came s m hm).le Hn.out
      have e0 := hst.lbox.cell (i := 0) rfl
      have e2 : ∀ o, (U.alloc o).cell? ⟨N, 0, none⟩ = some (.slice a c.length cap) := fun o => (hst.code.alloc o).cell (i := 0) rfl
      have hx0 := (owns_cell hst.row (g := gl) rfl (j := L'.length * 2) (u := .int .i64 (s.1 : Nat)) (by rw [flatS_snoc, List.getElem?_append_right (by rw [flatS_len]; exact Nat.le_refl _), flatS_len, Nat.sub_self]; rfl)).1
      have hx1 := (owns_cell hst.row (g := gl) rfl (j := L'.length * 2 + 1) (u := .bool s.2) (by rw [flatS_snoc, List.getElem?_append_right (by rw [flatS_len]; omega), flatS_len, Nat.add_sub_cancel_left]; rfl)).1
      have hll : (L' ++ [s]).length = L'.length + 1 := by simp
      rw [hll] at hst e0 hgg
      obtain ⟨M, hM⟩ : ∃ M, L'.length = M := ⟨_, rfl⟩
      rw [hM] at hx0 hx1 e0 hgg hst
      have hg0 : (0 : Int) < ((M + 1 : Nat) : Int) := by omega
      have hk1 : IntKind.i64.wrap (((M + 1 : Nat) : Int) - 1) = (M : Int) := by rw [IntKind.wrap_i64]; omega
      have hki : (0 : Int) ≤ M ∧ (M : Int) < ((M + 1 : Nat) : Int) := by omega
      obtain ⟨M1, hM1⟩ : ∃ M1, M + 1 = M1 := ⟨_, rfl⟩
      rw [hM1] at hg0 hk1 hki e0 hst
      clear hva
      have Hst := Lib.hid hst; clear hst
      have Hms := Lib.hid hms; clear hms
      have Hm := Lib.hid (And.intro hm (And.intro hs1 (And.intro hM (And.intro hM1 hll)))); clear hm hs1 hM hM1 hll hL
      have Hgg := Lib.hid (And.intro hgg hcnt); clear hgg hcnt HST
      gi_wp2_with (gi_at_call 31; refine (callsIn_wide.2 (goes_make _ _ _ s _)).mono ?_; rintro e w3 ⟨rfl, hz⟩; have hw3 := hz.symm; clear hz; refine Hid.out ?_)
      refine Lib.hid ?_
      have hbU : Below U.heap.size U w3 := by rw [← hw3]; exact (((Below.refl _ U).alloc (Nat.le_refl _) _).alloc (by simp) _).alloc (by simp; omega) _
      have hsz : w3.heap.size = U.heap.size + 3 := by rw [← hw3]; simp
      have qF : Holds w3 U.heap.size 89 [.int .i64 (s.1 : Nat), .bool s.2] := by rw [← hw3]; exact ((Holds.new U 89 [.int .i64 (s.1 : Nat), .bool s.2]).alloc _).alloc _
      have qA : Holds w3 (U.heap.size + 1) 31 [.slice a c.length cap] := by rw [← hw3]; exact (newAt (by simp) 31 [.slice a c.length cap]).alloc _
      have qB : Holds w3 (U.heap.size + 2) 89 [.int .i64 (s.1 : Nat), .bool s.2] := by rw [← hw3]; exact newAt (by simp) 89 [.int .i64 (s.1 : Nat), .bool s.2]
      clear hw3
      have hst3 := Hst.out.next HN.out hbU
      have hms3 := Hms.out.below hbU
      have hbw : Below w.heap.size w w3 := by rw [HN.out]; exact hst3.below
      have hF3 := HF.out.1.below hbw
      have hR3 := HF.out.2.below hbw
      have hE := go_each (w3.heap.size + 1) (U.heap.size + 1) (U.heap.size + 2) cap a c s w3 Hn.out hF3 ⟨qA, qB⟩ hR3 (fun b => b = U.heap.size + 1 ∨ b = U.heap.size + 2) (fun t => t = 43) ⟨.inl rfl, .inr rfl⟩ rfl
      have HE := Lib.hid hE; clear hE
      have hglF : gl < U.heap.size := (owns_lt Hst.out.row (g := gl) rfl).2
      have hNF : N + 5 < U.heap.size := Hst.out.lbox.lt
      have Hst3 := Lib.hid (And.intro hst3 qF); clear hst3 qF
      have hmlt := hms3.lt
      have Hms3 := Lib.hid (And.intro hms3 hmlt); clear hms3 hmlt
      have Hsz := Lib.hid (And.intro hsz (And.intro hglF hNF)); clear hsz hglF hNF
      clear hbU hbw hF3 hR3 qA qB Hst Hms e0 e2 hx0 hx1 hg0 hk1 hki
      obtain ⟨F, hFe⟩ : ∃ F, U.heap.size = F := ⟨_, rfl⟩
      simp only [hFe, Nat.add_assoc, Nat.reduceAdd] at *
      gi_wp2_with fail
      refine each_own rfl rfl (gf := 43) (lb := #[.pointer (some ⟨F + 1, 0, none⟩), .pointer (some ⟨F + 2, 0, none⟩)]) rfl trivial (enters_of Tryz.func43 (by kernel_rfl) rfl)
        HE.out kpB_t kpB_b (fun _ => rfl) (MtI a cap c w N f n (L' ++ [s]) (.slice (some ⟨gl, 0, none⟩) M1 lc) F s m ms) (MtX a cap c w N n gg ms) (mtI_own HN.out (by have := Hsz.out; omega) Hms3.out.2) (mtX_own HN.out (by have := Hsz.out; omega) Hms3.out.2) ⟨⟨Hst3.out, Hms3.out.1⟩, fun t ht => by cases ht⟩ ?round2 ?done ?stop
      case round2 =>
        rintro pre x rest X hx hl hI
        have hxin : ∃ i, c[s.1]? = some i ∧ x ∈ lgoI i s := by
          have : x ∈ lgo c s := by rw [hx]; simp
          unfold lgo at this
          split at this
          · exact ⟨_, ‹_›, this⟩
          · cases this
        obtain ⟨i, hi, hxi⟩ := hxin
        have hxl : x.1 ≤ 1024 := lgoI_le hxi (List.getElem?_eq_some_iff.1 hi).1 Hn.out
        have hlegal := (lgoI_legal hxi).1
        clear hx hl
        unfold RoundOwes
        simp only [encS]
        have HI := Lib.hid hI; clear hI
        have Hx := Lib.hid (And.intro hi (And.intro hxi (And.intro hxl hlegal))); clear hi hxi hxl hlegal
        gi_wp2
        refine ⟨keepsFrom_alloc _ _ _, kpB_alloc _ _, fun W => MtI a cap c w N f n (L' ++ [s]) (.slice (some ⟨gl, 0, none⟩) M1 lc) F s m ms pre W ∧ Holds W X.heap.size 89 [.int .i64 (x.1 : Nat), .bool x.2], OwnFrom.and (fun (_ : Unit) => mtI_own HN.out (by have := Hsz.out; omega) Hms3.out.2 pre) (ownFrom_holds _ _ _ (fun _ => _)), ⟨(mtI_own HN.out (by have := Hsz.out; omega) Hms3.out.2).alloc _ HI.out, Holds.new X 89 [.int .i64 (x.1 : Nat), .bool x.2]⟩, fun X2 hl hbx hI2 => ?_⟩
        clear hl hbx HI
        obtain ⟨⟨⟨⟨hst2, hq2⟩, hms2⟩, hpre⟩, ht⟩ := hI2
        have cu := hst2.ubox.cell (i := 0) rfl
        have t0 := ht.cell (i := 0) rfl
        have t1 := ht.cell (i := 1) rfl
        have hrun8 := hst2.map.run_ok (s := x) (by have := Hx.out.2.2.1; omega)
        have hlt := hst2.map.lt
        have Hst2 := Lib.hid hst2; clear hst2
        have Hq2 := Lib.hid hq2; clear hq2
        have Hms2 := Lib.hid hms2; clear hms2
        have Hpre := Lib.hid hpre; clear hpre
        have Ht := Lib.hid ht; clear ht
        simp only [spV] at hrun8
        gi_upto_region 9 with fail
        obtain ⟨q, o, hao, -, hrow⟩ := (HF.out.2.below (show Below w.heap.size w X2 by rw [HN.out]; exact Hst2.out.below)).row Hx.out.1
        have Hao := Lib.hid hao; clear hao
        have hsl : s.1 < c.length := (List.getElem?_eq_some_iff.1 Hx.out.1).1
        have Hrow := Lib.hid (And.intro hrow hsl); clear hrow hsl
        gi_cut [10] from 36 (fun s10 wx => s10 = .int .u64 ((f x).getD 0 ||| brings i m : Nat) ∧ Below X2.heap.size X2 wx)
        case first =>
          have ea := Hao.out
          subst ea
          have a1 := Hst2.out.code.cell (i := 0) rfl
          have a3 := Hq2.out.cell (i := 0) rfl
          have a4 := Hq2.out.cell (i := 1) rfl
          have r0 : X2.cell? ⟨q, o + s.1 * 5, none⟩ = some (.int .i64 i.op) := Hrow.out.1 0 _ rfl
          have r1 : X2.cell? ⟨q, o + s.1 * 5 + 1, none⟩ = some (.int .i64 i.a) := Hrow.out.1 1 _ rfl
          have r2 : X2.cell? ⟨q, o + s.1 * 5 + 2, none⟩ = some (.int .i64 i.b) := Hrow.out.1 2 _ rfl
          have r3 : X2.cell? ⟨q, o + s.1 * 5 + 3, none⟩ = some (.int .i64 i.c) := Hrow.out.1 3 _ rfl
          have r4 : X2.cell? ⟨q, o + s.1 * 5 + 4, none⟩ = some (.int .i64 i.imm) := Hrow.out.1 4 _ rfl
          have hii : (0 : Int) ≤ s.1 ∧ (s.1 : Int) < c.length := by have := Hrow.out.2; omega
          have hl9 := Hst2.out.map.drew.run (s := s) (by have := Hm.out.2.1; omega)
          rw [Hm.out.1] at hl9
          simp only [spV, Option.getD_some] at hl9
          have hset := fun V => sets_any i V Hx.out.2.2.2
          simp only [In.val] at hset
          have HSet := Lib.hid hset; clear hset
          have hm256 := Hst2.out.inv.lt _ _ Hm.out.1
          have Hbits := Lib.hid (brings_bits (i := i) Hx.out.2.2.2 hm256)
          have hw256 : (f x).getD 0 < 256 := by
            cases e : f x with
            | none => simp
            | some y => exact Hst2.out.inv.lt _ _ e
          have Hor := Lib.hid (or_u64 hw256 (show brings i m < 256 from andn_lt hm256))
          clear hm256 hw256
          have hnx : ∀ W, Below X2.heap.size X2 W → W.cell? ⟨N, 0, none⟩ = some (.slice (some ⟨q, o, none⟩) c.length cap) ∧ W.cell? ⟨N + 3, 0, none⟩ = some (.map (some (N + 2))) ∧ W.cell? ⟨F, 0, none⟩ = some (.int .i64 (s.1 : Nat)) ∧ W.cell? ⟨F, 1, none⟩ = some (.bool s.2) ∧ W.cell? ⟨q, o + s.1 * 5, none⟩ = some (.int .i64 i.op) ∧ W.cell? ⟨q, o + s.1 * 5 + 1, none⟩ = some (.int .i64 i.a) ∧ W.cell? ⟨q, o + s.1 * 5 + 2, none⟩ = some (.int .i64 i.b) ∧ W.cell? ⟨q, o + s.1 * 5 + 3, none⟩ = some (.int .i64 i.c) ∧ W.cell? ⟨q, o + s.1 * 5 + 4, none⟩ = some (.int .i64 i.imm) ∧ (Instr.lookup 61 (.map (some (N + 2))) (.agg #[.int .i64 (s.1 : Nat), .bool s.2]) false).run Tryz.prog W = .ok (.int .u64 (m : Nat)) W := fun W hb => by
            have h5 := Hst2.out.next HN.out hb
            have hq5 := Hq2.out.below hb
            have hrow5 : W.rangeAt q (o + s.1 * 5) i.cells := rangeAt_same Hrow.out.1 (hb.block _ (World.block_lt_of_cell? _ _ r0))
            have hl := h5.map.run (s := s) (by have := Hm.out.2.1; omega)
            rw [Hm.out.1] at hl
            exact ⟨h5.code.cell (i := 0) rfl, h5.ubox.cell (i := 0) rfl, hq5.cell (i := 0) rfl, hq5.cell (i := 1) rfl, hrow5 0 _ rfl, hrow5 1 _ rfl, hrow5 2 _ rfl, hrow5 3 _ rfl, hrow5 4 _ rfl, hl⟩
          have HNX := Lib.hid hnx; clear hnx
          have HBd := Lib.hid (fun (W : World) (h : Below X2.drew.heap.size X2.drew W) => (show Below X2.heap.size X2 W from (below_drewN (Below.refl _ X2) 1).trans h))
          generalize (f x).getD 0 = was at *
          generalize (f x).isSome = is at *
          have hS2 := HNX.out X2.drew (below_drewN (Below.refl _ X2) 1)
          refine region_heldR (fun W => W.cell? ⟨N, 0, none⟩ = some (.slice (some ⟨q, o, none⟩) c.length cap) ∧ W.cell? ⟨N + 3, 0, none⟩ = some (.map (some (N + 2))) ∧ W.cell? ⟨F, 0, none⟩ = some (.int .i64 (s.1 : Nat)) ∧ W.cell? ⟨F, 1, none⟩ = some (.bool s.2) ∧ W.cell? ⟨q, o + s.1 * 5, none⟩ = some (.int .i64 i.op) ∧ W.cell? ⟨q, o + s.1 * 5 + 1, none⟩ = some (.int .i64 i.a) ∧ W.cell? ⟨q, o + s.1 * 5 + 2, none⟩ = some (.int .i64 i.b) ∧ W.cell? ⟨q, o + s.1 * 5 + 3, none⟩ = some (.int .i64 i.c) ∧ W.cell? ⟨q, o + s.1 * 5 + 4, none⟩ = some (.int .i64 i.imm) ∧ (Instr.lookup 61 (.map (some (N + 2))) (.agg #[.int .i64 (s.1 : Nat), .bool s.2]) false).run Tryz.prog W = .ok (.int .u64 (m : Nat)) W) (by kernel_rfl) (by kernel_rfl) (fun _ _ h => h) ?_
          refine takeD (i := 0) (d := 36) (v := .int .u64 (was : Nat)) rfl rfl (by kernel_rfl) (by kernel_rfl) (by kernel_rfl) (fun _ _ _ h => h) (Or.inl ⟨by rfl, ?_⟩) (by assumption) ?_
          · intro V hSw; (try dsimp only at hSw); go_simp
          simp only [List.setIfInBounds_toArray, List.set_cons_zero, List.set_cons_succ]
          refine takeD (i := 1) (d := 37) (v := .map (some (N + 2))) rfl rfl (by kernel_rfl) (by kernel_rfl) (by kernel_rfl) (fun _ _ _ h => h) (Or.inl ⟨by rfl, ?_⟩) (by assumption) ?_
          · intro V hSw; (try dsimp only at hSw); go_simp
          simp only [List.setIfInBounds_toArray, List.set_cons_zero, List.set_cons_succ]
          refine takeD (i := 2) (d := 38) (v := .agg #[.int .i64 (s.1 : Nat), .bool s.2]) rfl rfl (by kernel_rfl) (by kernel_rfl) (by kernel_rfl) (fun _ _ _ h => h) (Or.inl ⟨by rfl, ?_⟩) (by assumption) ?_
          · intro V hSw; (try dsimp only at hSw); go_simp
          simp only [List.setIfInBounds_toArray, List.set_cons_zero, List.set_cons_succ]
          refine takeD (i := 3) (d := 39) (v := .int .u64 (m : Nat)) rfl rfl (by kernel_rfl) (by kernel_rfl) (by kernel_rfl) (fun _ _ _ h => h) (Or.inl ⟨by rfl, ?_⟩) (by assumption) ?_
          · intro V hSw; (try dsimp only at hSw); go_simp
          simp only [List.setIfInBounds_toArray, List.set_cons_zero, List.set_cons_succ]
          refine takeD (i := 4) (d := 40) (v := .slice (some ⟨q, o, none⟩) c.length cap) rfl rfl (by kernel_rfl) (by kernel_rfl) (by kernel_rfl) (fun _ _ _ h => h) (Or.inl ⟨by rfl, ?_⟩) (by assumption) ?_
          · intro V hSw; (try dsimp only at hSw); go_simp
          simp only [List.setIfInBounds_toArray, List.set_cons_zero, List.set_cons_succ]
          refine takeD (i := 5) (d := 41) (v := .pointer (some ⟨F, 0, none⟩)) rfl rfl (by kernel_rfl) (by kernel_rfl) (by kernel_rfl) (fun _ _ _ h => h) (Or.inl ⟨by rfl, ?_⟩) (by assumption) ?_
          · intro V hSw; (try dsimp only at hSw); go_simp
          simp only [List.setIfInBounds_toArray, List.set_cons_zero, List.set_cons_succ]
          refine takeD (i := 6) (d := 42) (v := .int .i64 (s.1 : Nat)) rfl rfl (by kernel_rfl) (by kernel_rfl) (by kernel_rfl) (fun _ _ _ h => h) (Or.inl ⟨by rfl, ?_⟩) (by assumption) ?_
          · intro V hSw; (try dsimp only at hSw); go_simp
          simp only [List.setIfInBounds_toArray, List.set_cons_zero, List.set_cons_succ]
          refine takeD (i := 7) (d := 43) (v := .pointer (some ⟨q, o + s.1 * 5, none⟩)) rfl rfl (by kernel_rfl) (by kernel_rfl) (by kernel_rfl) (fun _ _ _ h => h) (Or.inl ⟨by rfl, ?_⟩) (by assumption) ?_
          · intro V hSw; (try dsimp only at hSw); go_simp
          simp only [List.setIfInBounds_toArray, List.set_cons_zero, List.set_cons_succ]
          refine takeD (i := 8) (d := 44) (v := .agg #[.int .i64 i.op, .int .i64 i.a, .int .i64 i.b, .int .i64 i.c, .int .i64 i.imm]) rfl rfl (by kernel_rfl) (by kernel_rfl) (by kernel_rfl) (fun _ _ _ h => h) (Or.inl ⟨by rfl, ?_⟩) (by assumption) ?_
          · intro V hSw; (try dsimp only at hSw); go_simp
          simp only [List.setIfInBounds_toArray, List.set_cons_zero, List.set_cons_succ]
          refine wpAnyH_ready (rs := [9]) (by kernel_rfl) (by simp) ?_
          refine AllReadyH.cons (o := { dst := some 45, op := Op.call { callee := Callee.value (Operand.func 32), args := #[Operand.tmp 44], argTypes := #[43] }, type := 91, pos := "ways.go:63", after := #[{ on := 8, ground := Ground.data }], guard := none }) rfl (fun K hK => ?_) AllReadyH.nil
          go_simp
          refine (HSet.out _).mono ?_
          rintro e w5 ⟨rfl, hb5⟩
          have hb6 := HBd.out w5 hb5
          have hS5 := HNX.out w5 hb6
          have Hb6 := Lib.hid hb6; clear hb5 hb6
          refine hK.out _ _ hS5 (fun hHeld => ?_)
          clear hK
          try simp only [Act.put, List.setIfInBounds_toArray, List.set_cons_zero, List.set_cons_succ]
          refine takeD (i := 10) (d := 46) (v := .int .u64 (Go.bits .andNot .u64 (m : Int) ((setsM i : Nat) : Int))) rfl rfl (by kernel_rfl) (by kernel_rfl) (by kernel_rfl) (fun _ _ _ h => h) (Or.inl ⟨by rfl, ?_⟩) (by assumption) ?_
          · intro V hSw; (try dsimp only at hSw); go_simp
          simp only [List.setIfInBounds_toArray, List.set_cons_zero, List.set_cons_succ]
          refine takeD (i := 11) (d := 47) (v := .int .u64 (Go.bits .or .u64 ((was : Nat) : Int) (Go.bits .andNot .u64 (m : Int) ((setsM i : Nat) : Int)))) rfl rfl (by kernel_rfl) (by kernel_rfl) (by kernel_rfl) (fun _ _ _ h => h) (Or.inl ⟨by rfl, ?_⟩) (by assumption) ?_
          · intro V hSw; (try dsimp only at hSw); go_simp
          simp only [List.setIfInBounds_toArray, List.set_cons_zero, List.set_cons_succ]
          refine takeD (i := 12) (d := 10) (v := .int .u64 (Go.bits .or .u64 ((was : Nat) : Int) (Go.bits .andNot .u64 (m : Int) ((setsM i : Nat) : Int)))) rfl rfl (by kernel_rfl) (by kernel_rfl) (by kernel_rfl) (fun _ _ _ h => h) (Or.inl ⟨by rfl, ?_⟩) (by assumption) ?_
          · intro V hSw; (try dsimp only at hSw); go_simp
          simp only [List.setIfInBounds_toArray, List.set_cons_zero, List.set_cons_succ]
          refine wpAnyH_done (by kernel_rfl) ?_ _
          rw [Hbits.out, Hor.out]
          dsimp only [OnlyN]
          gi_wp2_with fail
          gi_meet
          case rel => exact ⟨rfl, Hb6.out⟩
        case rest =>
          obtain ⟨rfl, hbc⟩ := hcut
          have hstc := Hst2.out.next HN.out hbc
          have hmsc := Hms2.out.below hbc
          have htc := Ht.out.below hbc
          have hqc := Hq2.out.below hbc
          have Hbc := Lib.hid (And.intro hbc (And.intro hqc hmsc)); clear hbc hqc hmsc
          have k1 := hstc.ubox.cell (i := 0) rfl
          have k2 := htc.cell (i := 0) rfl
          have k3 := htc.cell (i := 1) rfl
          have Hstc := Lib.hid hstc; clear hstc
          have Htc := Lib.hid htc; clear htc
          clear cu t0 t1 hrun8 hlt Hst2 Hq2 Hms2 Ht Hrow Hao
          have hdone : (∃ y, f x = some y ∧ y ||| brings i m = y) → MtI a cap c w N f n (L' ++ [s]) (.slice (some ⟨gl, 0, none⟩) M1 lc) F s m ms (pre ++ [x]) wc := fun ⟨y, e1, e2⟩ =>
            ⟨⟨⟨Hstc.out, Hbc.out.2.1⟩, Hbc.out.2.2⟩, fun t ht j hj => by
              rcases List.mem_append.1 ht with ht | ht
              · exact Hpre.out t ht j hj
              · rw [List.mem_singleton.1 ht]
                rw [Hx.out.1] at hj; cases hj
                exact ⟨y, e1, e2⟩⟩
          have HD := Lib.hid hdone; clear hdone
          have hval : ((f x).getD 0 ||| brings i m) < 256 := by
            refine Nat.or_lt_two_pow (n := 8) ?_ (andn_lt (Hstc.out.inv.lt _ _ Hm.out.1))
            cases e : f x with
            | none => simp
            | some y => exact Hstc.out.inv.lt _ _ e
          have Hval := Lib.hid hval; clear hval
          have hfx0 : (!(f x).isSome || decide (((f x).getD 0 ||| brings i m) ≠ (f x).getD 0)) = false → ∃ y, f x = some y ∧ y ||| brings i m = y := fun hb => by
            cases hfx : f x with
            | none => rw [hfx] at hb; simp at hb
            | some y => rw [hfx] at hb; simp at hb; exact ⟨y, rfl, hb⟩
          have hfx1 : (!(f x).isSome || decide (((f x).getD 0 ||| brings i m) ≠ (f x).getD 0)) = true → valM (f x) < ((f x).getD 0 ||| brings i m) + 1 := fun hb => val_or (by
            cases hfx : f x with
            | none => exact .inl rfl
            | some y => rw [hfx] at hb; simp at hb; exact .inr (by simpa using hb))
          have hnew : ∃ nw, ((f x).getD 0 ||| brings i m) = nw := ⟨_, rfl⟩
          obtain ⟨nw, hnw⟩ := hnew
          rw [hnw] at hfx0 hfx1
          simp only [hnw]
          have Hnw := Lib.hid hnw; clear hnw
          have Hf0 := Lib.hid hfx0; clear hfx0
          have Hf1 := Lib.hid hfx1; clear hfx1
          generalize hwas : (f x).getD 0 = was at *
          generalize his : (f x).isSome = is at *
          have Hwi := Lib.hid (And.intro hwas his); clear hwas his
          gi_upto_region 10 with fail
          gi_cut [54] from 48 (fun s54 wx => s54 = .bool (!is || decide (nw ≠ was)) ∧ wx = wc)
          case first =>
            cases is with
            | false =>
              gi_wp2_with fail
              gi_meet
              case rel => exact ⟨by simp, rfl⟩
            | true =>
              by_cases hy : nw = was
              · have hne : ((nw : Int) != (was : Int)) = false := by rw [hy]; simp
                gi_wp2_with fail
                gi_meet
                case rel => exact ⟨by simp [hy], rfl⟩
              · have hne : ((nw : Int) != (was : Int)) = true := by rw [bne_iff_ne]; omega
                gi_wp2_with fail
                gi_meet
                case rel => exact ⟨by simp [hy], rfl⟩
          case rest =>
            obtain ⟨rfl, rfl⟩ := hcut
            cases hb : (!is || decide (nw ≠ was)) with
            | false =>
              have hI := HD.out (Hf0.out hb)
              have HI := Lib.hid hI; clear hI HD
              clear hb
              gi_wp2_with fail
              exact ⟨keepsFrom_below _ Hbc.out.1, kpB_below Hbc.out.1, HI.out⟩
            | true =>
              have hvm := Hf1.out hb
              have Hvm := Lib.hid hvm; clear hvm hb HD
              have hnw256 : nw < 256 := by rw [← Hnw.out]; exact Hval.out
              obtain ⟨w6, hrun, h6, hg6, hs6⟩ := rg_store (s := x) (va := nw) Hstc.out.map (by have := Hx.out.2.2.1; omega) hnw256 (by have := Hgg.out.2; unfold maxLen; omega)
              simp only [spV] at hrun
              have hne2 : X.heap.size ≠ N + 2 := Hstc.out.map.ne Htc.out
              have hl6 : Holds w6 (N + 5) 92 [.slice (some ⟨gl, 0, none⟩) M1 lc] := Hstc.out.lbox.same (hg6.block _ Hstc.out.lbox.lt (fun e => absurd (Option.some.inj e) (by omega)))
              have ht6 : Holds w6 X.heap.size 89 [.int .i64 (x.1 : Nat), .bool x.2] := Htc.out.same (hg6.block _ Htc.out.lt (fun e => absurd (Option.some.inj e) hne2))
              have hgl6 := (owns_lt Hstc.out.row (g := gl) rfl)
              have hrow6 : w6.ownsRow (N + 4) 89 2 (.slice (some ⟨gl, 0, none⟩) M1 lc) M1 (flatS (L' ++ [s])) := by
                have := Hstc.out.row.kept hg6 (.inr (fun e => by have h := Option.some.inj e; simp only at h; omega))
                rw [Hm.out.2.2.2.2, Hm.out.2.2.1, Hm.out.2.2.2.1] at this
                exact this
              have l0 := hl6.cell (i := 0) rfl
              have d0 := ht6.cell (i := 0) rfl
              have d1 := ht6.cell (i := 1) rfl
              have hM1 : M1 ≤ 1100000 := by have := Hgg.out.1; have := Hgg.out.2; have := Hm.out.2.2.2.1; omega
              have hsz6 : N + 4 ≤ w6.heap.size := by have := hl6.lt; omega
              have Hl6 := Lib.hid (And.intro hl6 hgl6); clear hl6 ht6 hgl6
              have Hrow6 := Lib.hid hrow6; clear hrow6
              have Hrun := Lib.hid (And.intro h6 (And.intro hg6 hs6)); clear h6 hg6 hs6
              have hne5 : gl ≠ N + 5 := fun e => by
                obtain ⟨cc, hk⟩ := owns_kind Hrow6.out (k := gl) rfl
                have h5 := Hl6.out.1
                unfold Holds at h5
                rw [e, h5] at hk; cases hk
              have Hne5 := Lib.hid hne5; clear hne5
              gi_wp2_with (gi_at_builtin; refine wpListIn_append_own_at _ rfl _ _ 92 rfl (N + 4) 89 i0 _ 2 16 Tryz.underlying92 HIf.out.1 HIf.out.2.1 HIf.out.2.2.1 HIf.out.2.2.2 rfl (by decide) (.slice (some ⟨gl, 0, none⟩) M1 lc) M1 _ rfl (Hrow6.out.alloc _) ⟨w6.heap.size, 0, none⟩ 1 1 [.int .i64 (x.1 : Nat), .bool x.2] rfl rfl (World.news_of_block (t := 89) (fr := (0, 0)) (new_block w6 _)) (by simp [Value.oneCell']) (by unfold maxLen; omega) (by omega) (by simp; omega) ?_; intro v' w7 hown7 hgrow7 hnil7 hat7; refine Hid.out ?_)
              refine Lib.hid ?_
              obtain ⟨va7, vc7, rfl, -⟩ := owns_slice hown7
              have hv7 : Holds w7 (N + 5) 92 [.slice (some ⟨gl, 0, none⟩) M1 lc] := (Hl6.out.1.alloc _).same (hgrow7.block _ (Hl6.out.1.alloc _).lt (fun e => by have h := Option.some.inj e; exact Hne5.out h.symm))
              have k5 := hv7.cell (i := 0) rfl
              have f5 := hv7.free 0
              have Hown7 := Lib.hid hown7
              have Hg7 := Lib.hid hgrow7
              have Hv7 := Lib.hid hv7
              have Hat7 := Lib.hid hat7
              clear hown7 hgrow7 hnil7 hat7 hv7
              have t6 : Tch (fun k => k = N + 5 ∨ k = gl) w6 (w7.setCell ⟨N + 5, 0, none⟩ (.slice va7 (M1 + 1) vc7)) := ((((Tch.refl _ w6).alloc _).grown Hg7.out (fun k e => .inl (.inr (Option.some.inj e).symm))).setCell (p := ⟨N + 5, 0, none⟩) (.inl (.inl rfl)) (.slice va7 (M1 + 1) vc7))
              have t5 : Tch (fun k => k = N + 2 ∨ k = N + 5 ∨ k = gl) wc (w7.setCell ⟨N + 5, 0, none⟩ (.slice va7 (M1 + 1) vc7)) := (((((Tch.refl (fun k => k = N + 2 ∨ k = N + 5 ∨ k = gl) wc).grown Hrun.out.2.1 (fun k e => .inl (.inl (Option.some.inj e).symm))).alloc _).grown Hg7.out (fun k e => .inl (.inr (.inr (Option.some.inj e).symm)))).setCell (p := ⟨N + 5, 0, none⟩) (.inl (.inr (.inl rfl))) (.slice va7 (M1 + 1) vc7))
              have hgk : ∃ cc : Array Value, wc.heap[gl]? = some (.cells cc 89 (0, 0)) := owns_kind Hstc.out.row (k := gl) rfl
              have hkf : KeepsFrom (N + 6) wc (w7.setCell ⟨N + 5, 0, none⟩ (.slice va7 (M1 + 1) vc7)) := t5.keepsFrom (fun k o h hk ho => by
                rcases h with h | h | h
                · omega
                · omega
                · subst h; obtain ⟨cc, e⟩ := hgk; rw [e] at ho; cases ho; rfl)
              have hsz := Hsz.out
              have hgl6 := Hl6.out.2
              have hkp : KpB (fun b => b = F + 1 ∨ b = F + 2) (fun t => t = 43) wc (w7.setCell ⟨N + 5, 0, none⟩ (.slice va7 (M1 + 1) vc7)) := t5.kpB (fun b hb h => by rcases hb with hb | hb <;> omega) (fun b cc t mm h he ht => by
                subst ht
                rcases h with h | h | h
                · subst h; obtain ⟨es, ck, e⟩ := Hstc.out.map.obj; rw [e] at he; cases he
                · subst h; have := Hstc.out.lbox; unfold Holds at this; rw [this] at he; cases he
                · subst h; obtain ⟨cc', e⟩ := hgk; rw [e] at he; cases he)
              have hmks := Hbc.out.2.2.keeps hkf (Nat.le_refl _)
              have hlt6 := Hrun.out.1.lt
              have hown8 : (w7.setCell ⟨N + 5, 0, none⟩ (.slice va7 (M1 + 1) vc7)).ownsRow (N + 4) 89 2 (.slice va7 (M1 + 1) vc7) (M1 + 1) (flatS (L' ++ [s]) ++ [.int .i64 (x.1 : Nat), .bool x.2]) := ownsRow_setCell_other Hown7.out (a := ⟨N + 5, 0, none⟩) (fun h => by
                rcases Hat7.out with e | e
                · rw [e] at h; have := Option.some.inj h; simp only at this; exact Hne5.out this
                · rw [e] at h; have := Option.some.inj h; simp only at this; simp at this; have := Hl6.out.1.lt; omega) _
              have hfin : MtS a cap c w N (f.put x nw) (n + 1) (L' ++ [s] ++ [x]) (.slice va7 (M1 + 1) vc7) (w7.setCell ⟨N + 5, 0, none⟩ (.slice va7 (M1 + 1) vc7)) := by
                refine ⟨Hstc.out.below.trans (t5.below (by have := Hstc.out.lbox.lt; omega) (fun k h => by omega)), t5.holds (by omega) Hstc.out.code, t5.holds (by omega) Hstc.out.ubox, Hrun.out.1.same (t6.block _ hlt6 (by omega)), Hv7.out.set 0 (.slice va7 (M1 + 1) vc7), ?_, ?_⟩
                · have e : (L' ++ [s] ++ [x]).length = M1 + 1 := by have := Hm.out; simp; omega
                  rw [e, flatS_snoc]; exact hown8
                · have := Hstc.out.inv.push Hm.out.1 Hx.out.1 Hx.out.2.1
                  rw [Hwi.out.1, Hnw.out] at this
                  exact this
              have hmeas : 2 * room (f.put x nw) + (L' ++ [s] ++ [x]).length + 1 ≤ gg := by
                have h1 := room_put (f := f) (t := x) (y := nw) Hx.out.2.2.1 hnw256 Hvm.out
                have h2 := Hgg.out.1
                have h3 := Hm.out
                simp only [List.length_append, List.length_singleton]
                omega
              gi_wp2_with fail
              refine ⟨(keepsFrom_below _ Hbc.out.1).trans (KeepsFrom.le hkf (by omega)), kpB_t (kpB_below Hbc.out.1) hkp, rfl, f.put x nw, L' ++ [s] ++ [x], (.slice va7 (M1 + 1) vc7), hfin, hmks, hmeas⟩
      case done =>
        rintro X ⟨⟨⟨hst, hq⟩, hms⟩, hall⟩ hK
        have e0 := hst.lbox.cell (i := 0) rfl
        have f0 := hst.lbox.free 0
        have hcap : (M : Int) ≤ (lc : Int) := by
          rcases hst.row.2 with ⟨h1, _⟩ | ⟨g', cap', cur, hv, h1, h2, h3, h4, h5, h6⟩
          · cases h1
          · cases hv; have := Hm.out; simp at h3; omega
        have hkM : IntKind.i64.wrap ((M1 : Int) - 1) = (M : Int) := by rw [IntKind.wrap_i64]; have := Hm.out; have := Hgg.out; omega
        have hM0 : (0 : Int) ≤ M := by omega
        have Hst := Lib.hid (And.intro hst (And.intro hms (And.intro hall hK))); clear hst hq hms hall hK
        gi_wp2_with fail
        have hlt0 : N + 6 ≤ w3.heap.size := by have := Hsz.out; omega
        have hset : Tch (fun k => k = N + 5) X (X.setCell ⟨N + 5, 0, none⟩ (.slice (some ⟨gl, 0, none⟩) M lc)) := (Tch.refl (fun k => k = N + 5) X).setCell (p := ⟨N + 5, 0, none⟩) (.inl rfl) _
        have hgl5 : gl ≠ N + 5 := fun e => by
          obtain ⟨cc, hk⟩ := owns_kind Hst.out.1.row (k := gl) rfl
          have h5 := Hst.out.1.lbox
          unfold Holds at h5
          rw [e, h5] at hk; cases hk
        have hrowM : X.ownsRow (N + 4) 89 2 (.slice (some ⟨gl, 0, none⟩) M lc) L'.length (flatS L') := by
          have hMl := Hm.out.2.2.1
          rcases Hst.out.1.row.2 with ⟨h1, _⟩ | ⟨g', cap', cur, hv, h1, h2, h3, h4, h5, h6⟩
          · cases h1
          · cases hv
            refine ⟨by rw [flatS_len], .inr ⟨gl, lc, cur, by rw [hMl], h1, h2, by simp at h3; omega, h4, h5, ?_⟩⟩
            have := congrArg (List.take (L'.length * 2)) h6
            have e1 : List.take (L'.length * 2) (flatS L') = flatS L' := List.take_of_length_le (by rw [flatS_len]; exact Nat.le_refl _)
            rw [List.take_take, Nat.min_eq_left (by simp; omega), flatS_snoc, List.take_append_of_le_length (by rw [flatS_len]; exact Nat.le_refl _), e1] at this
            exact this
        have hinv : MInv c f L' := Hst.out.1.inv.pop (fun m' e i t hi ht => by
          rw [Hm.out.1] at e; cases e
          exact Hst.out.2.2.1 t (by unfold lgo; rw [hi]; exact ht) i hi)
        have hfin : MtS a cap c w N f n L' (.slice (some ⟨gl, 0, none⟩) M lc) (X.setCell ⟨N + 5, 0, none⟩ (.slice (some ⟨gl, 0, none⟩) M lc)) :=
          ⟨Hst.out.1.below.trans (hset.below (by have := Hst.out.1.lbox.lt; omega) (fun k h => by omega)), hset.holds (by omega) Hst.out.1.code, hset.holds (by omega) Hst.out.1.ubox, Hst.out.1.map.same (hset.block _ Hst.out.1.map.lt (by omega)), Hst.out.1.lbox.set 0 _, ownsRow_setCell_other hrowM (a := ⟨N + 5, 0, none⟩) (fun h => by have h := Option.some.inj h; exact hgl5 h) _, hinv⟩
        refine ⟨gg - 1, by have := Hgg.out; omega, f, n, L', _, w3.heap.size :: ms, _, _, _, _, _, _, _, _, _, _, _, _, _, _, _, _, _, _, ⟨hfin, mks_cons (Hst.out.2.1.setMk _ _) hlt0 (fun D hD => Hms3.out.2 D hD) (by rw [Below.heap_setCell _ _ _ _ (show w3.heap.size ≠ N + 5 by omega)]; exact Hst.out.2.2.2), ⟨by have := Hgg.out; have := Hm.out; omega, by have := Hgg.out; omega⟩⟩, rfl⟩
      case stop =>
        rintro cd pre W hp ⟨rfl, f', L2, v', hst', hms', hg'⟩ hK
        have Hst := Lib.hid (And.intro hst' (And.intro hms' (And.intro hg' hK))); clear hst' hms' hg' hK
        gi_wp2_with fail
        have hlt0 : N + 6 ≤ w3.heap.size := by have := Hsz.out; omega
        refine ⟨gg - 1, by have := Hgg.out; omega, f', n + 1, L2, v', w3.heap.size :: ms, _, _, _, _, _, _, _, _, _, _, _, _, _, _, _, _, _, _, ⟨Hst.out.1, mks_cons Hst.out.2.1 hlt0 (fun D hD => Hms3.out.2 D hD) Hst.out.2.2.2, ⟨by have := Hst.out.2.2.1; omega, by have := Hgg.out; have := Hst.out.2.2.1; omega⟩⟩, rfl⟩
theorem met_any (a : Option Addr) (cap : Nat) (c : List In) (w : World) (hn : c.length ≤ 1024) (hF : FormsAt w) (hr : RowsIn w a 5 In.cells c) : Calls Tryz.prog 23 #[.slice a c.length cap] w fun e w' => ∃ b, e = .returned (.map (some b)) ∧ w.heap.size ≤ b ∧ ∃ n f, RgAt w' b n f ∧ MetOf c f ∧ Below w.heap.size w w' :=
  callsIn_wide.1 (met_in a cap c w _ rfl hn hF hr)
end Go.Proofs.YteijhcibdglkeaaGreatDoor
