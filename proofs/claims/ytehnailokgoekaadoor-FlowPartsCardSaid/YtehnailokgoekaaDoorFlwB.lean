/- The places to which an instruction goes, told by an iterator. Conditions: those stated in each theorem. -/
import Derived.Test.YtehnailokgoekaaDoorFlwA
import Derived.Test.YtehnailokgoekaaDoorEachT
import Derived.TacticsInMore
import Derived.Stop.RegionWithIn
import Derived.Sort.CutIn
import Derived.Deep.QuietTactic
namespace Go.Proofs.YtehnailokgoekaaDoor
open Go.RowKit Go.BigFrame Go.Shelf
attribute [local go_sem] Oper.semAt_some
attribute [local simp] wide_fn

/-- What a round keeps: the blocks S, and the cells of the types T. -/
def KpB (S : Nat → Prop) (T : TypeId → Prop) (W W' : World) : Prop := ∀ b c t m, W.heap[b]? = some (.cells c t m) → (S b ∨ T t) → W'.heap[b]? = some (.cells c t m)
theorem kpB_t {S : Nat → Prop} {T : TypeId → Prop} {X Y Z : World} (h : KpB S T X Y) (k : KpB S T Y Z) : KpB S T X Z := fun b c t m e s => k b c t m (h b c t m e s) s
theorem kpB_b {S : Nat → Prop} {T : TypeId → Prop} {l : Nat} (W : World) (o o' : Loop) (h : W.heap[l]? = some (.loop o)) : KpB S T W (W.putObj l (.loop o')) := fun b c t m e _ =>
  (World.putObj_heap_other (fun eq => by subst eq; rw [e] at h; cases h)).trans e
theorem kpB_r {S : Nat → Prop} {T : TypeId → Prop} (W : World) : KpB S T W W := fun _ _ _ _ e _ => e
theorem Tch.kpB {C : Nat → Prop} {S : Nat → Prop} {T : TypeId → Prop} {W W' : World} (h : Tch C W W') (hs : ∀ b, S b → ¬ C b) (ht : ∀ b c t m, C b → W.heap[b]? = some (.cells c t m) → ¬ T t) : KpB S T W W' := fun b c t m e s =>
  (h.block b (Array.getElem?_eq_some_iff.1 e).1 (fun hc => by rcases s with s | s; exact hs b s hc; exact ht b c t m hc e s)).trans e
theorem KpB.holds {S : Nat → Prop} {T : TypeId → Prop} {W W' : World} (h : KpB S T W W') {b : Nat} {t : TypeId} {L : List Value} (hb : Holds W b t L) (hs : S b ∨ T t) : Holds W' b t L := h _ _ _ _ hb hs
theorem rangeAt_same {W W' : World} {q o : Nat} {L : List Value} (h : W.rangeAt q o L) (hb : W'.heap[q]? = W.heap[q]?) : W'.rangeAt q o L := fun j u hj => (World.cell?_of_block (a := ⟨q, o + j, none⟩) hb).trans (h j u hj)
theorem cells_of {W : World} {p : Addr} {u : Value} (h : W.cell? p = some u) : ∃ c t m, W.heap[p.block]? = some (.cells c t m) := by
  unfold World.cell? at h
  split at h
  · exact ⟨_, _, _, ‹_›⟩
  · cases h

theorem yield_or {e : Ending} {A B K : Prop} (h : (e = .returned (.bool true) ∧ A ∧ K) ∨ (e = .returned (.bool false) ∧ B ∧ K)) : ∃ b, e = .returned (.bool b) ∧ (if b = true then A else B) ∧ K := by
  rcases h with ⟨h1, h2, h3⟩ | ⟨h1, h2, h3⟩
  · exact ⟨true, h1, by simpa using h2, h3⟩
  · exact ⟨false, h1, by simpa using h2, h3⟩

def encN (x : Nat) : Array Value := #[.int .i64 (x : Nat)]
/-- What the iterator reads. -/
structure GosAt (W : World) (Ba Bb q o n cap k : Nat) (i : In) : Prop where
  code : Holds W Ba 22 [.slice (some ⟨q, o, none⟩) n cap]
  place : Holds W Bb 3 [.int .i64 k]
  row : W.rangeAt q (o + k * 5) i.cells
theorem GosAt.same {W W' : World} {Ba Bb q o n cap k : Nat} {i : In} (h : GosAt W Ba Bb q o n cap k i) (ha : W'.heap[Ba]? = W.heap[Ba]?) (hb : W'.heap[Bb]? = W.heap[Bb]?) (hq : W'.heap[q]? = W.heap[q]?) : GosAt W' Ba Bb q o n cap k i :=
  ⟨h.code.same ha, h.place.same hb, rangeAt_same h.row hq⟩
theorem GosAt.lt {W : World} {Ba Bb q o n cap k : Nat} {i : In} (h : GosAt W Ba Bb q o n cap k i) : Ba < W.heap.size ∧ Bb < W.heap.size ∧ q < W.heap.size :=
  ⟨h.code.lt, h.place.lt, World.block_lt_of_cell? _ _ (h.row 0 (.int .i64 i.op) rfl)⟩
theorem GosAt.below {W W' : World} {Ba Bb q o n cap k : Nat} {i : In} (h : GosAt W Ba Bb q o n cap k i) (hb : Below W.heap.size W W') : GosAt W' Ba Bb q o n cap k i :=
  h.same (hb.block _ h.lt.1) (hb.block _ h.lt.2.1) (hb.block _ h.lt.2.2)
theorem GosAt.kept {W W' : World} {Ba Bb q o n cap k : Nat} {i : In} {S : Nat → Prop} {T : TypeId → Prop} (h : GosAt W Ba Bb q o n cap k i) (hk : KpB S T W W') (ha : S Ba) (hb : S Bb) (hq : S q) : GosAt W' Ba Bb q o n cap k i := by
  have h0 : ∃ cc tt mm, W.heap[q]? = some (.cells cc tt mm) := cells_of (h.row 0 (.int .i64 i.op) rfl)
  obtain ⟨cc, tt, mm, h0⟩ := h0
  exact ⟨hk.holds h.code (.inl ha), hk.holds h.place (.inl hb), rangeAt_same h.row ((hk q cc tt mm h0 (.inl hq)).trans h0.symm)⟩

theorem gosI_eq {c : List In} {k : Nat} {i : In} {x y : Bool} (hw : wayP i = (x, y)) : gosI c k i = (if x && hasB c.length i.imm then [i.imm.toNat] else []) ++ (if y && hasB c.length ((k : Int) + 1) then [k + 1] else []) := by
  unfold gosI hasB
  rw [hw]
  have e : decide ((k : Int) + 1 < (c.length : Int)) = decide (k + 1 < c.length) := by
    rw [decide_eq_decide]; omega
  have e0 : decide ((0 : Int) ≤ (k : Int) + 1) = true := by simp; omega
  rw [e, e0, Bool.true_and]

set_option maxRecDepth 100000 in
set_option maxHeartbeats 2000000 in
theorem gos_each (l Ba Bb q o cap : Nat) (c : List In) (k : Nat) (i : In) (hk : c[k]? = some i) (hn : c.length ≤ 1024) (hi : I64 i.imm) (w : World) (hF : FormsAt w) (hg : GosAt w Ba Bb q o c.length cap k i) (S : Nat → Prop) (T : TypeId → Prop) (hS : S Ba ∧ S Bb ∧ S q) :
    SeqEach Fence.wide Tryd.prog 30 #[.pointer (some ⟨Ba, 0, none⟩), .pointer (some ⟨Bb, 0, none⟩)] encN (KpB S T) (gosP c k) w l := by
  intro n J Jx W hW _ hJ hJx hY h0
  have hJb : ∀ pre (X Y : World), J pre X → Below X.heap.size X Y → J pre Y := fun pre X Y hj hb => hJ pre X Y none hj (grown_below hb) (fun r e => by cases e)
  have hkl := (List.getElem?_eq_some_iff.1 hk).1
  have hg0 := hg.same (hW.block _ hg.lt.1) (hW.block _ hg.lt.2.1) (hW.block _ hg.lt.2.2)
  have hF0 := hF.same (hW.block _ hF.lt)
  obtain ⟨x, y, hwy⟩ : ∃ x y, wayP i = (x, y) := ⟨_, _, rfl⟩
  have hgo : gosP c k = (if x && hasB c.length i.imm then [i.imm.toNat] else []) ++ (if y && hasB c.length ((k : Int) + 1) then [k + 1] else []) := by rw [gosP_some hk]; exact gosI_eq hwy
  have hway := way_any i W hF0
  rw [hwy] at hway
  simp only at hway
  obtain ⟨op, a, b1, cc, imm⟩ := i
  simp only [In.val] at hway
  simp only at hi hgo
  have c1 := hg0.code.cell (i := 0) rfl
  have c2 := hg0.place.cell (i := 0) rfl
  have c30 : W.cell? ⟨q, o + k * 5, none⟩ = some (.int .i64 op) := hg0.row 0 _ rfl
  have c31 : W.cell? ⟨q, o + k * 5 + 1, none⟩ = some (.int .i64 a) := hg0.row 1 _ rfl
  have c32 : W.cell? ⟨q, o + k * 5 + 2, none⟩ = some (.int .i64 b1) := hg0.row 2 _ rfl
  have c33 : W.cell? ⟨q, o + k * 5 + 3, none⟩ = some (.int .i64 cc) := hg0.row 3 _ rfl
  have c34 : W.cell? ⟨q, o + k * 5 + 4, none⟩ = some (.int .i64 imm) := hg0.row 4 _ rfl
  have hk' : (k : Int) < (c.length : Int) := by omega
  have HJb := Lib.hid hJb; clear hJb
  have HY := Lib.hid hY; clear hY
  have HG := Lib.hid hg0; clear hg0
  have Hgo := Lib.hid hgo; clear hgo
  have HW := Lib.hid hway; clear hway
  have HS := Lib.hid hS; clear hS
  have H0 := Lib.hid h0; clear h0
  have Hi := Lib.hid hi; clear hi
  have Hn := Lib.hid hn; clear hn
  clear hJ hJx hW hF hF0 hg hwy hk
  refine callsIn_of_wp Tryd.func30 rfl trivial ?_ rfl
  simp only [Tryd.ntmps30, List.size_toArray, List.length_cons, List.length_nil, Nat.reduceAdd, Nat.reduceSub, Array.replicate_succ, Array.replicate_zero, List.push_toArray, List.append_toArray, List.nil_append, List.cons_append]
  gi_wp2_with fail
  first | refine ⟨fun h => (by cases h), ?_⟩ | refine ⟨trivial, fun h => (by cases h), ?_⟩ | skip
  refine (callsIn_wide.2 HW.out).mono ?_
  rintro e w1 ⟨rfl, hb1⟩
  have hj1 := HJb.out _ _ _ H0.out hb1
  have hg1 := HG.out.below hb1
  have HJ1 := Lib.hid (fun q => HJb.out _ _ (w1.drewN q) hj1 (below_drewN (Below.refl w1.heap.size w1) q)); clear hj1
  have HG1 := Lib.hid hg1; clear hg1
  clear HW HG H0 c1 c2 c30 c31 c32 c33 c34
  obtain ⟨told, hT⟩ : ∃ told, told = (if x && hasB c.length imm then [imm.toNat] else []) := ⟨_, rfl⟩
  have HT := Lib.hid hT; clear hT
  gi_upto_region 1 with fail
  gi_cut [33] from 45 (fun s wx => ∃ b, s = .bool b ∧ (if b = true then (∃ pre, pre <+: gosP c k ∧ Jx pre wx) else (J told wx ∧ GosAt wx Ba Bb q o c.length cap k ⟨op, a, b1, cc, imm⟩)))
  case first =>
    cases x with
    | false =>
      gi_wp2_with fail
      refine wpIn_wide.2 ?_
      go_quiet (fail)
      gi_wp2_with fail
      gi_meet
      case rel => exact ⟨false, rfl, (by rw [HT.out]; exact HJ1.out nq), HG1.out.below (below_drewN (Below.refl w1.heap.size w1) nq)⟩
    | true =>
      have e1 := HG1.out.code.cell (i := 0) rfl
      have e2 := HG1.out.place.cell (i := 0) rfl
      have e3 : w1.cell? ⟨q, o + k * 5 + 4, none⟩ = some (.int .i64 imm) := HG1.out.row 4 _ rfl
      have hh := fun V => has_flow (some ⟨q, o, none⟩) c.length cap imm V
      cases hx2 : hasB c.length imm with
      | false =>
        have HT2 := Lib.hid (show told = [] by rw [HT.out]; simp [hx2])
        rw [hx2] at hh
        have HH := Lib.hid hh; clear hh hx2
        gi_wp2_with fail
        refine wpIn_wide.2 ?_
        go_quiet ((go_at_call 17; exact Calls.quiet_of_same (HH.out _)))
        gi_wp2_with fail
        gi_meet
        case rel => exact ⟨false, rfl, (by rw [HT2.out]; exact HJ1.out nq), HG1.out.below (below_drewN (Below.refl w1.heap.size w1) nq)⟩
      | true =>
        have h0i : 0 ≤ imm ∧ imm < c.length := by unfold hasB at hx2; simp at hx2; exact hx2
        obtain ⟨p, rfl⟩ : ∃ p : Nat, imm = p := ⟨imm.toNat, by omega⟩
        have HT2 := Lib.hid (show told = [p] by rw [HT.out]; simp [hx2])
        rw [hx2] at hh
        have HH := Lib.hid hh; clear hh
        obtain ⟨rest, hx⟩ : ∃ rest, gosP c k = [] ++ p :: rest := ⟨_, by rw [Hgo.out]; simp only [hx2, Bool.true_and, if_true]; rfl⟩
        obtain ⟨fn, tmps, assign, body, hy, hR⟩ := HY.out (n - 1) [] p rest w1.drew hx (HJ1.out 1)
        have HR := Lib.hid hR; clear hR
        have HX := Lib.hid hx; clear hx hx2 h0i
        simp only [encN] at hy
        clear hk'
        gi_wp2_with fail
        gi_region_with (first | (refine ⟨fun h => (by cases h), ?_⟩; gi_at_call 17; refine (callsIn_wide.2 (HH.out _)).mono ?_; rintro e w5 ⟨rfl, rfl⟩) | (refine ⟨fun h => (by cases h), HR.out.mono ?_⟩; rintro e W5 hcs; obtain ⟨bb, rfl, hcz⟩ := yield_or hcs; clear hcs; have Hcs := Lib.hid hcz; clear hcz))
        all_goals gi_wp2_with fail
        all_goals gi_meet
        all_goals
          refine ⟨!bb, rfl, ?_⟩
          obtain ⟨h1, h2⟩ := Hcs.out
          cases bb
          · exact ⟨_, ⟨rest, by rw [HX.out]; simp⟩, h1⟩
          · exact ⟨(by rw [HT2.out]; exact h1), (HG1.out.below (below_drewN (Below.refl w1.heap.size w1) 1)).kept h2 HS.out.1 HS.out.2.1 HS.out.2.2⟩
  case rest =>
    obtain ⟨b, rfl, hc⟩ := hcut
    cases b with
    | true =>
      obtain ⟨pre, hpre, hjx⟩ := hc
      have HJX := Lib.hid hjx; clear hjx
      have HP := Lib.hid hpre; clear hpre
      gi_wp2
      refine bodyPost_ret (results_none rfl _ _ _) rfl ?_
      exact ⟨⟨_, rfl⟩, .inr ⟨_, HP.out, HJX.out⟩⟩
    | false =>
      obtain ⟨hj2, hg2⟩ := hc
      have HJ2 := Lib.hid hj2; clear hj2
      have HG2 := Lib.hid hg2; clear hg2
      cases y with
      | false =>
        have Hx := Lib.hid (show gosP c k = told by rw [Hgo.out, HT.out]; simp)
        gi_wp2_with fail
        refine bodyPost_end (results_none rfl _ _ _) rfl ?_
        exact ⟨⟨_, rfl⟩, .inl (by rw [Hx.out]; exact HJ2.out)⟩
      | true =>
        have d1 := HG2.out.code.cell (i := 0) rfl
        have d2 := HG2.out.place.cell (i := 0) rfl
        have hkk : IntKind.i64.wrap ((k : Int) + 1) = (k : Int) + 1 := by rw [IntKind.wrap_i64]; have := Hn.out; omega
        gi_wp2_with fail
        first | refine ⟨fun h => (by cases h), ?_⟩ | refine ⟨trivial, fun h => (by cases h), ?_⟩ | skip
        refine (callsIn_wide.2 (has_flow _ _ _ _ _)).mono ?_
        rintro e w9 ⟨rfl, rfl⟩
        cases hy2 : hasB c.length ((k : Int) + 1) with
        | false =>
          have Hx := Lib.hid (show gosP c k = told by rw [Hgo.out, HT.out]; simp [hy2])
          clear hy2
          gi_wp2_with fail
          refine bodyPost_end (results_none rfl _ _ _) rfl ?_
          exact ⟨⟨_, rfl⟩, .inl (by rw [Hx.out]; exact HJ2.out)⟩
        | true =>
          have hx : gosP c k = told ++ (k + 1) :: [] := by rw [Hgo.out, HT.out]; simp [hy2]
          have Hx := Lib.hid hx; clear hx hy2
          obtain ⟨fn, tmps, assign, body, hy, hR⟩ := HY.out (n - 1) told (k + 1) [] _ Hx.out HJ2.out
          have HR := Lib.hid hR; clear hR
          simp only [encN, Int.natCast_add, Int.cast_ofNat_Int] at hy
          gi_wp2_with fail
          refine ⟨fun h => (by cases h), HR.out.mono ?_⟩
          rintro e W9 (⟨rfl, hJ9, _⟩ | ⟨rfl, hJ9, _⟩)
          · have HJ9 := Lib.hid hJ9; clear hJ9
            gi_wp2
            refine bodyPost_end (results_none rfl _ _ _) rfl ?_
            exact ⟨⟨_, rfl⟩, .inl (by rw [Hx.out]; exact HJ9.out)⟩
          · have HJ9 := Lib.hid hJ9; clear hJ9
            gi_wp2
            refine bodyPost_end (results_none rfl _ _ _) rfl ?_
            exact ⟨⟨_, rfl⟩, .inr ⟨_, ⟨[], (by rw [Hx.out]; simp)⟩, HJ9.out⟩⟩

end Go.Proofs.YtehnailokgoekaaDoor
