/- hist: an attempt's load, store and add. Conditions: those stated in each theorem. -/
import Derived.Test.YtgjbhcnadenojaaHisF
namespace Go.Proofs.Ytgjbhcnadenojaa
open Go.RowKit Go.BigFrame Go.Maps

section
variable {w0 w : World} {c : SC} {i g : Nat} {x : KC}
theorem plOf_set {l : List Pr} {i : Nat} {y : Pr} (h : l[i]? = some y) (v : Int) : plOf (l.set i ⟨y.a, v⟩) = plOf l := by
  funext a; unfold plOf; rw [posL_set h]
/-- A value among the stores is turned. -/
theorem SC.setS (h : Ap w0 w c.pf) (hx : c.l[i]? = some x) {j : Nat} {y : Pr} (hy : x.k.st[j]? = some y) {r cap : Nat} (hr : x.sv = .slice (some ⟨r, 0, none⟩) x.k.st.length cap) (v : Int) :
    Ap w0 (w.setCell ⟨r, j * 2 + 1, none⟩ (.int .u64 v)) { c with l := c.l.set i { x with k := { x.k with st := x.k.st.set j ⟨y.a, v⟩ } } }.pf := by
  obtain ⟨T, k1, _, k3⟩ := h.turn (i := .str i) (P := strP x) (by simp [SC.pf, hx])
  unfold strP at k1
  rw [hr] at k1
  have k4 := k3 _ _ (rowP.set k1 (j * 2 + 1) (.int .u64 v))
  rw [Nat.mul_comm j 2, flatP_set hy] at k4
  rw [Nat.mul_comm j 2]
  refine k4.cong (fun m => ?_)
  have e := List.getElem?_eq_some_iff.1 hx
  have hK : flatK (c.l.set i { x with k := { x.k with st := x.k.st.set j ⟨y.a, v⟩ } }) = flatK c.l := by
    have := flatK_set (l := c.l) (y := { x with k := { x.k with st := x.k.st.set j ⟨y.a, v⟩ } }) hx (j := 0) (v := .int .i64 x.k.co) (by omega) rfl
    rw [← this]
    refine (List.ext_getElem? (fun n => ?_))
    rw [List.getElem?_set]
    split
    · rename_i hn
      subst hn
      have h0 := flatK_at hx (j := 0) (v := .int .i64 x.k.co) rfl
      rw [h0]
      rw [if_pos (List.getElem?_eq_some_iff.1 h0).1]
    · rfl
  cases m <;> simp only [SC.pf, upd, reduceCtorEq, if_false, if_true, List.length_set, List.getElem?_set, Ix.str.injEq, hK]
  all_goals
    split
    · rename_i hm; subst hm; simp [e.1, ldrP, ldmP, strP, stmP, e.2, hr, plOf_set hy]
    · rename_i hm; first | rfl | simp [Ne.symm hm]

set_option maxRecDepth 100000 in
set_option maxHeartbeats 1000000 in
theorem kstore_set (h : Ap w0 w c.pf) (hx : c.l[i]? = some x) (hg : c.va.ownBlock = some g) (p : Pr) (hp : p.fit) {j : Nat} (hl : posL x.k.st p.a = some j) (hn : x.k.st.length < 1000) :
    Calls Try.prog 53 #[.pointer (some ⟨g, i * 14, none⟩), .agg #[.int .i64 p.a, .int .u64 p.v]] w fun z w' => z = .returned (.tuple #[]) ∧ KOut w0 c i (x.k.store p) w' := by
  obtain ⟨y, hy, hya⟩ := posL_at hl
  have hlt := posL_lt hl
  have hk : x.k.store p = { x.k with st := x.k.st.set j ⟨y.a, p.v⟩ } := by simp only [Kn.store, hl, hya]
  rw [hk]
  obtain ⟨k1, k2, k3, k4⟩ := SC.boxed h hx hg (.cells #[.int .i64 p.a, .int .u64 p.v] 48)
  have hb0 : Holds (w.alloc (.cells #[.int .i64 p.a, .int .u64 p.v] 48)) w.heap.size 48 [.int .i64 p.a, .int .u64 p.v] := Holds.new w 48 [.int .i64 p.a, .int .u64 p.v]
  go_enter Try.func53, Try.ntmps53
  generalize hW : w.alloc (.cells #[.int .i64 p.a, .int .u64 p.v] 48) = W at *
  obtain ⟨r, cap, hlv, -, -⟩ := (SC.str k1 hx).form (by omega)
  have F : ∀ V, Below W.heap.size W V → (V.cell? ⟨g, i * 14 + 12, none⟩ = some (.map (some x.sb)) ∧ V.cell? ⟨g, i * 14 + 8, none⟩ = some x.sv) ∧ (V.cell? ⟨w.heap.size, 0, none⟩ = some (.int .i64 p.a) ∧ V.cell? ⟨w.heap.size, 1, none⟩ = some (.int .u64 p.v)) ∧ (V.cell? ⟨r, j * 2 + 1, none⟩ = some (.int .u64 y.v) ∧ V.frozen? ⟨r, j * 2 + 1, none⟩ = false) ∧
      (Instr.lookup 76 (.map (some x.sb)) (.int .i64 p.a) true).run Try.prog V = .ok (.tuple #[.int .i64 (j : Nat), .bool true]) V ∧ KOut w0 c i { x.k with st := x.k.st.set j ⟨y.a, p.v⟩ } (V.setCell ⟨r, j * 2 + 1, none⟩ (.int .u64 p.v)) := fun V hV => by
    have q := k1.idle hV
    have q2 := SC.cells q hx hg
    have e2 := (SC.stm q hx).run_ok Try.underlying76 Try.underlying3 Try.zeroI hp.1
    rw [plOf_some hl] at e2
    have hb := hb0.below hV
    have hc := owns_cell (SC.str q hx) (g := r) (j := j * 2 + 1) (u := .int .u64 y.v) (by rw [hlv]; rfl) (by rw [Nat.mul_comm]; exact flatP_v hy)
    exact ⟨⟨q2.c 12 rfl, q2.c 8 rfl⟩, ⟨hb.cell (i := 0) rfl, hb.cell (i := 1) rfl⟩, hc, e2, _, rfl, SC.setS q hx hy hlv _⟩
  have HF := Lib.hid F; clear F
  rw [hlv] at HF
  have hjl : (0 : Int) ≤ (j : Int) ∧ (j : Int) < (x.k.st.length : Int) := by omega
  clear k1 k2 k3 k4 h hx hg hp hl hk hlv hy hya hlt hb0
  have HW := Lib.hid hW; clear hW
  go_wp2_with fail
  rw [HW.out]
  clear HW
  obtain ⟨⟨c12, c8⟩, ⟨b0, b1⟩, ⟨ly, lf⟩, r2, -⟩ := HF.out W (Below.refl _ _)
  have R1 : ∀ n, (Instr.lookup 76 (.map (some x.sb)) (.int .i64 p.a) true).run Try.prog (W.drewN n) = .ok (.tuple #[.int .i64 (j : Nat), .bool true]) (W.drewN n) := fun n => (HF.out _ (below_drewN (Below.refl _ W) n)).2.2.2.1
  go_quiet (fail)
  have hV1 := Lib.hid (below_drewN (Below.refl W.heap.size W) nq)
  clear c12 c8 b0 b1 ly lf r2 R1
  generalize W.drewN nq = W1 at *
  obtain ⟨⟨c12, c8⟩, ⟨b0, b1⟩, ⟨ly, lf⟩, r2, -⟩ := HF.out W1 hV1.out
  go_wp2_with fail
  go_still_tail 10, (by kernel_rfl)
  change wpList _ _ _ _ _ W1.drew
  obtain ⟨-, -, ⟨ly2, lf2⟩, -, HK⟩ := HF.out W1.drew (below_drew1 hV1.out)
  have HK2 := Lib.hid HK; clear HK
  go_wp2
  go_end0
  exact ⟨rfl, HK2.out⟩

theorem kload_any (h : Ap w0 w c.pf) (hx : c.l[i]? = some x) (hg : c.va.ownBlock = some g) (p : Pr) (hp : p.fit) (hn : x.k.ld.length < 1000) :
    Calls Try.prog 52 #[.pointer (some ⟨g, i * 14, none⟩), .agg #[.int .i64 p.a, .int .u64 p.v]] w fun z w' => z = .returned (.tuple #[]) ∧ KOut w0 c i (x.k.load p) w' := by
  cases hs : posL x.k.st p.a with
  | some j => exact kload_own h hx hg p hp hs
  | none =>
    cases hl : posL x.k.ld p.a with
    | some j => exact kload_again h hx hg p hp hs hl
    | none => exact kload_new h hx hg p hp hs hl hn
theorem kstore_any (h : Ap w0 w c.pf) (hx : c.l[i]? = some x) (hg : c.va.ownBlock = some g) (p : Pr) (hp : p.fit) (hn : x.k.st.length < 1000) :
    Calls Try.prog 53 #[.pointer (some ⟨g, i * 14, none⟩), .agg #[.int .i64 p.a, .int .u64 p.v]] w fun z w' => z = .returned (.tuple #[]) ∧ KOut w0 c i (x.k.store p) w' := by
  cases hl : posL x.k.st p.a with
  | some j => exact kstore_set h hx hg p hp hl hn
  | none => exact kstore_new h hx hg p hp hl hn
end

end Go.Proofs.Ytgjbhcnadenojaa
