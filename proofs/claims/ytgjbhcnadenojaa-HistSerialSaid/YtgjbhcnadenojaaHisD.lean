/- hist: an attempt's load. Conditions: those stated in each theorem. -/
import Derived.Test.YtgjbhcnadenojaaHisC
import Derived.StillTailTactics
namespace Go.Proofs.Ytgjbhcnadenojaa
open Go.RowKit Go.BigFrame Go.Maps

section
variable {w : World} {t e : TypeId} {q : IntKind} {b n : Nat} {f : Mp}
theorem MpAt.run_ok (h : MpAt w e q b n f) (ht : Try.prog.underlying t = some (.map 3 e)) (he : Try.prog.underlying e = some (.int q)) (hz : ∀ w, (zeroValue e).run Try.prog w = .ok (.int q 0) w) {ad : Int} (hw : (Lit.int .i64 ad).wf = true) :
    (Instr.lookup t (.map (some b)) (.int .i64 ad) true).run Try.prog w = .ok (.tuple #[.int q ((f ad).getD 0), .bool (f ad).isSome]) w := by
  obtain ⟨D, h1, h2⟩ := h
  obtain ⟨v, ps, hrun, hv⟩ := h1.look_ok Try.keyI ht (hz w) (plainElem_int he (by cases q <;> decide)) (keyOf_int_mk Try.underlying3 hw)
  obtain ⟨c, rfl, hc, _⟩ := plainElem_int_inv he hv
  rw [hrun, (h2.2 ad).1]
  have hc := congrArg Prod.fst hc
  simp only at hc
  cases hf : f ad with
  | some v =>
    rw [(h2.2 ad).2 v hf] at hc
    cases hc
    rfl
  | none =>
    have hh := (h2.2 ad).1
    rw [hf] at hh
    rw [atKey_of_not_has hh] at hc
    cases hc
    rfl
theorem MpAt.run (h : MpAt w e q b n f) (ht : Try.prog.underlying t = some (.map 3 e)) (he : Try.prog.underlying e = some (.int q)) (hz : ∀ w, (zeroValue e).run Try.prog w = .ok (.int q 0) w) {ad : Int} (hw : (Lit.int .i64 ad).wf = true) :
    (Instr.lookup t (.map (some b)) (.int .i64 ad) false).run Try.prog w = .ok (.int q ((f ad).getD 0)) w := by
  obtain ⟨D, h1, h2⟩ := h
  obtain ⟨c, hrun, hc, _⟩ := h1.lookup_int Try.keyI ht he (hz w) (keyOf_int_mk Try.underlying3 hw)
  rw [hrun]
  cases hf : f ad with
  | some v =>
    rw [(h2.2 ad).2 v hf] at hc
    cases hc
    rfl
  | none =>
    have hh := (h2.2 ad).1
    rw [hf] at hh
    rw [atKey_of_not_has hh] at hc
    cases hc
    rfl
end
theorem MpAt.drewN {w : World} {e : TypeId} {q : IntKind} {b n : Nat} {f : Mp} (h : MpAt w e q b n f) (m : Nat) : MpAt (w.drewN m) e q b n f := h.same rfl
theorem CellsAt.same {w w' : World} {g off : Nat} {L : List Value} (h : CellsAt w g off L) (k : w'.heap[g]? = w.heap[g]?) : CellsAt w' g off L := fun j v hv =>
  ⟨(World.cell?_of_block (a := ⟨g, off + j, none⟩) k).trans (h j v hv).1, (World.frozen?_of_block (a := ⟨g, off + j, none⟩) k).trans (h j v hv).2⟩
theorem plOf_some {l : List Pr} {a : Int} {i : Nat} (h : posL l a = some i) : plOf l a = some ((i : Nat) : Int) := by simp [plOf, h]
theorem plOf_none {l : List Pr} {a : Int} (h : posL l a = none) : plOf l a = none := by simp [plOf, h]

section
variable {w0 w : World} {c : SC} {i g : Nat} {x : KC}
/-- What is there behind a box. -/
theorem SC.boxed (h : Ap w0 w c.pf) (hx : c.l[i]? = some x) (hg : c.va.ownBlock = some g) (o : Obj) : Ap w0 (w.alloc o) c.pf ∧ CellsAt (w.alloc o) g (i * 14) x.cells ∧ MpAt (w.alloc o) 3 .i64 x.lb x.k.ld.length (plOf x.k.ld) ∧ MpAt (w.alloc o) 3 .i64 x.sb x.k.st.length (plOf x.k.st) := by
  have h' : Ap w0 (w.alloc o) c.pf := h.idle ((Below.refl _ w).alloc (Nat.le_refl _) _)
  exact ⟨h', SC.cells h' hx hg, SC.ldm h' hx, SC.stm h' hx⟩
/-- What a call leaves that turns one attempt. -/
def KOut (w0 : World) (c : SC) (i : Nat) (k : Kn) (w' : World) : Prop := ∃ y, y.k = k ∧ Ap w0 w' { c with l := c.l.set i y }.pf
theorem SC.same (hx : c.l[i]? = some x) : { c with l := c.l.set i x } = c := by
  obtain ⟨h1, h2⟩ := List.getElem?_eq_some_iff.1 hx
  have : c.l.set i x = c.l := by rw [← h2, List.set_getElem_self]
  rw [this]

set_option maxRecDepth 100000 in
set_option maxHeartbeats 1000000 in
theorem kload_own (h : Ap w0 w c.pf) (hx : c.l[i]? = some x) (hg : c.va.ownBlock = some g) (p : Pr) (hp : p.fit) {j : Nat} (hs : posL x.k.st p.a = some j) :
    Calls Try.prog 52 #[.pointer (some ⟨g, i * 14, none⟩), .agg #[.int .i64 p.a, .int .u64 p.v]] w fun z w' => z = .returned (.tuple #[]) ∧ KOut w0 c i (x.k.load p) w' := by
  have hl : x.k.load p = x.k := by simp [Kn.load, hs]
  rw [hl]
  obtain ⟨k1, k2, k3, k4⟩ := SC.boxed h hx hg (.cells #[.int .i64 p.a, .int .u64 p.v] 48)
  have c12 := k2.c 12 rfl
  have hr : ∀ n, (Instr.lookup 76 (.map (some x.sb)) (.int .i64 p.a) true).run Try.prog ((w.alloc (.cells #[.int .i64 p.a, .int .u64 p.v] 48)).drewN n) = .ok (.tuple #[.int .i64 (j : Nat), .bool true]) ((w.alloc (.cells #[.int .i64 p.a, .int .u64 p.v] 48)).drewN n) := fun n => by
    have := (k4.drewN n).run_ok Try.underlying76 Try.underlying3 Try.zeroI hp.1
    rwa [plOf_some hs] at this
  have HE := Lib.hid (fun n => (show KOut w0 c i x.k ((w.alloc (.cells #[.int .i64 p.a, .int .u64 p.v] 48)).drewN n) from ⟨x, rfl, by rw [SC.same hx]; exact k1.idle (below_drewN (Below.refl _ _) n)⟩))
  clear k1 k2 k3 k4 h hx hg hs hp hl
  go_enter Try.func52, Try.ntmps52
  go_wp2_with fail
  go_quiet (fail)
  go_wp2
  exact bodyPost_ret (results_none rfl _ _ _) rfl ⟨rfl, HE.out _⟩

/-- A load that was there, with its value, or another one. -/
theorem kload_again (h : Ap w0 w c.pf) (hx : c.l[i]? = some x) (hg : c.va.ownBlock = some g) (p : Pr) (hp : p.fit) (hs : posL x.k.st p.a = none) {j : Nat} (hl : posL x.k.ld p.a = some j) :
    Calls Try.prog 52 #[.pointer (some ⟨g, i * 14, none⟩), .agg #[.int .i64 p.a, .int .u64 p.v]] w fun z w' => z = .returned (.tuple #[]) ∧ KOut w0 c i (x.k.load p) w' := by
  obtain ⟨y, hy, hya⟩ := posL_at hl
  have hlt := posL_lt hl
  have hgd : x.k.ld.getD j Pr.zero = y := by simp [List.getD, hy]
  obtain ⟨bb, hbb⟩ : ∃ bb, (y.v != p.v) = bb := ⟨_, rfl⟩
  have hk : x.k.load p = if bb then { x.k with odd := true } else x.k := by
    simp only [Kn.load, hs, hl]; rw [hgd, ← hbb]
    by_cases h : y.v = p.v <;> simp [h]
  rw [hk]
  obtain ⟨k1, k2, k3, k4⟩ := SC.boxed h hx hg (.cells #[.int .i64 p.a, .int .u64 p.v] 48)
  have hb0 : Holds (w.alloc (.cells #[.int .i64 p.a, .int .u64 p.v] 48)) w.heap.size 48 [.int .i64 p.a, .int .u64 p.v] := Holds.new w 48 [.int .i64 p.a, .int .u64 p.v]
  go_enter Try.func52, Try.ntmps52
  generalize hW : w.alloc (.cells #[.int .i64 p.a, .int .u64 p.v] 48) = W at *
  obtain ⟨r, cap, hlv, -, -⟩ := (SC.ldr k1 hx).form (by omega)
  have F : ∀ V, Below W.heap.size W V → (V.cell? ⟨g, i * 14 + 12, none⟩ = some (.map (some x.sb)) ∧ V.cell? ⟨g, i * 14 + 11, none⟩ = some (.map (some x.lb)) ∧ V.cell? ⟨g, i * 14 + 7, none⟩ = some x.lv) ∧ (V.cell? ⟨w.heap.size, 0, none⟩ = some (.int .i64 p.a) ∧ V.cell? ⟨w.heap.size, 1, none⟩ = some (.int .u64 p.v)) ∧ V.cell? ⟨r, j * 2 + 1, none⟩ = some (.int .u64 y.v) ∧
      (Instr.lookup 76 (.map (some x.sb)) (.int .i64 p.a) true).run Try.prog V = .ok (.tuple #[.int .i64 0, .bool false]) V ∧ (Instr.lookup 76 (.map (some x.lb)) (.int .i64 p.a) true).run Try.prog V = .ok (.tuple #[.int .i64 (j : Nat), .bool true]) V := fun V hV => by
    have q := k1.idle hV
    have q2 := SC.cells q hx hg
    have e1 := (SC.stm q hx).run_ok Try.underlying76 Try.underlying3 Try.zeroI hp.1
    have e2 := (SC.ldm q hx).run_ok Try.underlying76 Try.underlying3 Try.zeroI hp.1
    rw [plOf_none hs] at e1
    rw [plOf_some hl] at e2
    have hb := hb0.below hV
    exact ⟨⟨q2.c 12 rfl, q2.c 11 rfl, q2.c 7 rfl⟩, ⟨hb.cell (i := 0) rfl, hb.cell (i := 1) rfl⟩, (owns_cell (SC.ldr q hx) (g := r) (by rw [hlv]; rfl) (by rw [Nat.mul_comm]; exact flatP_v hy)).1, e1, e2⟩
  have HF := Lib.hid F; clear F
  have HE := Lib.hid (fun V (hV : Below W.heap.size W V) => (show KOut w0 c i x.k V from ⟨x, rfl, by rw [SC.same hx]; exact k1.idle hV⟩))
  have HO := Lib.hid (fun V (hV : Below W.heap.size W V) => (show (V.cell? ⟨g, i * 14 + 13, none⟩ = some (.bool x.k.odd) ∧ V.frozen? ⟨g, i * 14 + 13, none⟩ = false) ∧ KOut w0 c i { x.k with odd := true } (V.setCell ⟨g, i * 14 + 13, none⟩ (.bool true)) from
    ⟨(SC.cells (k1.idle hV) hx hg) 13 _ rfl, ⟨{ x with k := { x.k with odd := true } }, rfl, SC.setK (k1.idle hV) hx hg (by omega) _ rfl rfl rfl rfl rfl⟩⟩))
  rw [hlv] at HF
  have hjl : (0 : Int) ≤ (j : Int) ∧ (j : Int) < (x.k.ld.length : Int) := by omega
  clear k1 k2 k3 k4 h hx hg hs hp hl hk hlv hy hya hgd hlt hb0
  cases bb
  all_goals
    have HW := Lib.hid hW; clear hW
    go_wp2_with fail
    rw [HW.out]
    clear HW
    obtain ⟨⟨c12, c11, c7⟩, ⟨b0, b1⟩, ly, r1, r2⟩ := HF.out W (Below.refl _ _)
    have R1 : ∀ n, (Instr.lookup 76 (.map (some x.sb)) (.int .i64 p.a) true).run Try.prog (W.drewN n) = .ok (.tuple #[.int .i64 0, .bool false]) (W.drewN n) := fun n => (HF.out _ (below_drewN (Below.refl _ W) n)).2.2.2.1
    go_quiet (fail)
    have hV1 := Lib.hid (below_drewN (Below.refl W.heap.size W) nq)
    clear c12 c11 c7 b0 b1 ly r1 r2 R1
    generalize W.drewN nq = W1 at *
    obtain ⟨⟨c12, c11, c7⟩, ⟨b0, b1⟩, ly, r1, r2⟩ := HF.out W1 hV1.out
    have R1 : ∀ n, (Instr.lookup 76 (.map (some x.lb)) (.int .i64 p.a) true).run Try.prog (W1.drewN n) = .ok (.tuple #[.int .i64 (j : Nat), .bool true]) (W1.drewN n) := fun n => (HF.out _ (below_drewN hV1.out n)).2.2.2.2
    go_wp2_with fail
    go_quiet (fail)
    have hV2 := Lib.hid (below_drewN hV1.out nq)
    clear c12 c11 c7 b0 b1 ly r1 r2 R1
    generalize W1.drewN nq = W2 at *
    obtain ⟨⟨c12, c11, c7⟩, ⟨b0, b1⟩, ly, r1, r2⟩ := HF.out W2 hV2.out
    go_wp2_with fail
    go_quiet (fail)
    have hV3 := Lib.hid (below_drewN hV2.out nq)
    clear c12 c11 c7 b0 b1 ly r1 r2
    generalize W2.drewN nq = W3 at *
    obtain ⟨⟨c13, f13⟩, HK⟩ := HO.out W3 hV3.out
    have HK2 := Lib.hid HK
    clear HK
    go_wp2
    go_end0
    first | exact ⟨rfl, HE.out _ hV3.out⟩ | exact ⟨rfl, HK2.out⟩
end

end Go.Proofs.Ytgjbhcnadenojaa
