/- A call answers the same code: the law's walk. Conditions: the place and the call that came in. -/
import Derived.Test.YthjbcpgncnchoaaLbW
import Derived.Deep.CutBlock
import Derived.Deep.QuietTactic
namespace Go.Proofs.Ythjbcpgncnchoaa
open Go.RowKit Go.BigFrame

theorem eqFieldsI_step (d : Nat) (f : Field) (fs : List Field) (xs ys : Array Value) (a b : Value) (r : Bool) (w : World) (hn : f.name ≠ "_") (h1 : (part f.type xs f.offset).run Try.prog w = .ok a w) (h2 : (part f.type ys f.offset).run Try.prog w = .ok b w) (h3 : (Op.equalIn d f.type a b).run Try.prog w = .ok r w) :
    (Op.eqFields d xs ys (f :: fs)).run Try.prog w = if r then (Op.eqFields d xs ys fs).run Try.prog w else .ok false w := by
  simp only [Op.eqFields, if_pos hn, Sem.run_bind, h1, h2, h3, Result.andThen_ok]
  cases r <;> simp
set_option maxRecDepth 100000 in
theorem eq_in' (a b c e f a' b' c' e' f' : Int) (d : Nat) (w : World) : (Op.equalIn (d + 3) 40 (.agg #[.int .i64 a, .int .i64 b, .int .i64 c, .int .i64 e, .int .i64 f]) (.agg #[.int .i64 a', .int .i64 b', .int .i64 c', .int .i64 e', .int .i64 f'])).run Try.prog w = .ok (a == a' && (b == b' && (c == c' && (e == e' && f == f')))) w := by
  rw [run_equalIn_agg w (d + 2) 40 _ _ (by kernel_rfl) Try.stoodInHeld40]
  rw [show (Try.prog.fieldsOf 40).toList = [{ name := "Op", type := 3, offset := 0, embedded := false, tag := "", pkgPath := "", byteOffset := 0 }, { name := "A", type := 3, offset := 1, embedded := false, tag := "", pkgPath := "", byteOffset := 8 }, { name := "B", type := 3, offset := 2, embedded := false, tag := "", pkgPath := "", byteOffset := 16 },
        { name := "C", type := 3, offset := 3, embedded := false, tag := "", pkgPath := "", byteOffset := 24 }, { name := "Imm", type := 3, offset := 4, embedded := false, tag := "", pkgPath := "", byteOffset := 32 }] from by kernel_rfl]
  rw [eqFieldsI_step (d + 2) _ _ _ _ (.int .i64 a) (.int .i64 a') (a == a') w (by simp) (by kernel_rfl) (by kernel_rfl) (run_equalIn_int w (d + 1) 3 .i64 .i64 a a' Try.underlying3),
    eqFieldsI_step (d + 2) _ _ _ _ (.int .i64 b) (.int .i64 b') (b == b') w (by simp) (by kernel_rfl) (by kernel_rfl) (run_equalIn_int w (d + 1) 3 .i64 .i64 b b' Try.underlying3),
    eqFieldsI_step (d + 2) _ _ _ _ (.int .i64 c) (.int .i64 c') (c == c') w (by simp) (by kernel_rfl) (by kernel_rfl) (run_equalIn_int w (d + 1) 3 .i64 .i64 c c' Try.underlying3),
    eqFieldsI_step (d + 2) _ _ _ _ (.int .i64 e) (.int .i64 e') (e == e') w (by simp) (by kernel_rfl) (by kernel_rfl) (run_equalIn_int w (d + 1) 3 .i64 .i64 e e' Try.underlying3),
    eqFieldsI_step (d + 2) _ _ _ _ (.int .i64 f) (.int .i64 f') (f == f') w (by simp) (by kernel_rfl) (by kernel_rfl) (run_equalIn_int w (d + 1) 3 .i64 .i64 f f' Try.underlying3)]
  cases a == a' <;> cases b == b' <;> cases c == c' <;> cases e == e' <;> cases f == f' <;> simp [Op.eqFields]
theorem eq_in (a b c e f a' b' c' e' f' : Int) (w : World) : (Op.equalIn 10000 40 (.agg #[.int .i64 a, .int .i64 b, .int .i64 c, .int .i64 e, .int .i64 f]) (.agg #[.int .i64 a', .int .i64 b', .int .i64 c', .int .i64 e', .int .i64 f'])).run Try.prog w = .ok (a == a' && (b == b' && (c == c' && (e == e' && f == f')))) w := eq_in' a b c e f a' b' c' e' f' 9997 w
@[local go_sem ↓ high] theorem eq_inv (a b c e f : Int) (w : World) : (Op.equalIn 10000 40 (.agg #[.int .i64 a, .int .i64 b, .int .i64 c, .int .i64 e, .int .i64 f]) (.agg #[.int .i64 a, .int .i64 b, .int .i64 c, .int .i64 e, .int .i64 f])).run Try.prog w = .ok true w := by
  rw [eq_in]; simp


theorem and_small (x : Int) (m : Nat) (hm : m < 2000) : 0 ≤ bits .and .i64 x (m : Int) ∧ bits .and .i64 x (m : Int) ≤ m := by
  have h : (BitVec.ofInt IntKind.i64.bits x &&& BitVec.ofInt IntKind.i64.bits (m : Int)).toNat ≤ m := by
    rw [BitVec.toNat_and]
    refine Nat.le_trans Nat.and_le_right ?_
    rw [BitVec.toNat_ofInt]
    simp only [IntKind.bits]
    omega
  unfold bits
  simp only
  have h2 := IntKind.wrap_i64 ((BitVec.ofInt IntKind.i64.bits x &&& BitVec.ofInt IntKind.i64.bits (m : Int)).toNat : Int)
  rw [h2]
  omega
theorem kind_in (x : Int) : ∃ k : Nat, (bits .and .i64 x 1023).tmod 3 = k ∧ k < 3 := by
  have h := and_small x 1023 (by omega)
  rw [show ((1023 : Nat) : Int) = 1023 from rfl] at h
  generalize bits .and .i64 x 1023 = z at *
  obtain ⟨n, rfl⟩ : ∃ n : Nat, z = n := ⟨z.toNat, by omega⟩
  exact ⟨n % 3, rfl, by omega⟩
/-- Where the walk stands. -/
structure Sm (w W : World) (x : Pc) (c : Cc) : Prop where
  bx : Holds W w.heap.size 23 x.cells
  bc : Holds W (w.heap.size + 1) 26 c.cells
  below : Below w.heap.size w W
section
variable {w W V : World} {x : Pc} {c : Cc}
theorem Sm.next (h : Sm w W x c) (hb : Below W.heap.size W V) : Sm w V x c := ⟨h.bx.below hb, h.bc.below hb, h.below.trans (hb.mono h.below.size)⟩
theorem Sm.cells (h : Sm w W x c) : W.cell? ⟨w.heap.size, 0, none⟩ = some (.int .i64 x.kind) ∧ W.cell? ⟨w.heap.size, 1, none⟩ = some (.int .i64 x.base) ∧ W.cell? ⟨w.heap.size, 2, none⟩ = some (.int .i64 x.buckets) ∧ W.cell? ⟨w.heap.size, 3, none⟩ = some (.int .i64 x.cap) ∧ W.cell? ⟨w.heap.size + 1, 0, none⟩ = some (.int .i64 c.kind) ∧ W.cell? ⟨w.heap.size + 1, 1, none⟩ = some (.int .u64 c.k) ∧ W.cell? ⟨w.heap.size + 1, 2, none⟩ = some (.int .u64 c.v) :=
  ⟨h.bx.cell (i := 0) rfl, h.bx.cell (i := 1) rfl, h.bx.cell (i := 2) rfl, h.bx.cell (i := 3) rfl, h.bc.cell (i := 0) rfl, h.bc.cell (i := 1) rfl, h.bc.cell (i := 2) rfl⟩
end

/-- The first ones have no operation. -/
def zeros (l : List In) : Nat → List In
  | 0 => l
  | k + 1 => (zeros l k).modify k (fun i => { i with op := 0 })
theorem zeros_len (l : List In) : ∀ k, (zeros l k).length = l.length
  | 0 => rfl
  | k + 1 => by rw [zeros, List.length_modify, zeros_len l k]
theorem zeros_at (l : List In) : ∀ (k j : Nat), k ≤ j → (zeros l k)[j]? = l[j]?
  | 0, _, _ => rfl
  | k + 1, j, h => by
    rw [zeros, List.getElem?_modify, zeros_at l k j (by omega)]
    have hne : ¬ k = j := by omega
    simp [hne]
theorem flatI_op : ∀ (l : List In) (k : Nat), k < l.length → flatI (l.modify k (fun i => { i with op := 0 })) = (flatI l).set (k * 5) (.int .i64 0)
  | [], k, h => by simp at h
  | y :: r, 0, h => by
    obtain ⟨a, b, c, d, e⟩ := y
    simp [flatI, In.cells]
  | y :: r, k + 1, h => by
    have := flatI_op r k (by simpa using h)
    obtain ⟨a, b, c, d, e⟩ := y
    unfold flatI at this ⊢
    rw [List.modify_succ_cons, List.flatMap_cons, this, List.flatMap_cons]
    rw [List.set_append_right _ _ (by simp [In.cells]; omega)]
    congr 2
    simp [In.cells]; omega
theorem row_some {w : World} {lo n cap : Nat} {ad : Option Addr} {xs : List Value} {t : TypeId} (h : w.ownsRow lo t 5 (.slice ad n cap) n xs) (hn : 0 < n) : ∃ g, ad = some ⟨g, 0, none⟩ := by
  rcases owns_form h with ⟨_, h0, _⟩ | ⟨g', c', e, _⟩
  · omega
  · simp only [Value.slice.injEq] at e; exact ⟨g', e.1⟩
theorem Sm.put {w W : World} {x : Pc} {c : Cc} {lo g n cap : Nat} {xs : List Value} (h : Sm w W x c) (hr : W.ownsRow lo 40 5 (.slice (some ⟨g, 0, none⟩) n cap) n xs) (hlo : w.heap.size ≤ lo) (k : Nat) (v : Value) : Sm w (W.setCell ⟨g, k, none⟩ v) x c := by
  obtain ⟨d, hd⟩ := owns_kind hr (k := g) rfl
  refine ⟨h.bx.other (fun e => ?_) v, h.bc.other (fun e => ?_) v, h.below.setCell (p := ⟨g, k, none⟩) (Nat.le_trans hlo (owns_lt hr rfl).1) v⟩
  · have := h.bx
    unfold Holds at this; simp only at e; rw [e, hd] at this; cases this
  · have := h.bc
    unfold Holds at this; simp only at e; rw [e, hd] at this; cases this
/-- In the first loop. -/
structure S1 (w W : World) (x : Pc) (c : Cc) (la lb : Nat) (va vb : Value) (L : List In) (k : Nat) : Prop where
  s : Sm w W x c
  a : W.ownsRow la 40 5 va L.length (flatI (zeros L k))
  b : W.ownsRow lb 40 5 vb L.length (flatI L)
  ab : ∀ g, va.ownBlock = some g → g < lb
  lw : la ≤ W.heap.size
theorem S1.next {w W V : World} {x : Pc} {c : Cc} {la lb : Nat} {va vb : Value} {L : List In} {k : Nat} (h : S1 w W x c la lb va vb L k) (hb : Below W.heap.size W V) : S1 w V x c la lb va vb L k :=
  ⟨h.s.next hb, owns_below h.a hb, owns_below h.b hb, h.ab, Nat.le_trans h.lw hb.size⟩
theorem S1.put {w W : World} {x : Pc} {c : Cc} {la lb g cap : Nat} {vb : Value} {L : List In} {k : Nat} (h : S1 w W x c la lb (.slice (some ⟨g, 0, none⟩) L.length cap) vb L k) (hk : k < L.length) (hlo : w.heap.size ≤ la) : S1 w (W.setCell ⟨g, k * 5, none⟩ (.int .i64 0)) x c la lb (.slice (some ⟨g, 0, none⟩) L.length cap) vb L (k + 1) := by
  refine ⟨h.s.put h.a hlo _ _, ?_, owns_same h.b (fun g' e => Below.heap_setCell W ⟨g, k * 5, none⟩ _ g' (fun e2 => ?_)), h.ab, by have := h.lw; simpa using this⟩
  · have := (h.a.stored (k * 5) (.int .i64 0)).1
    rw [zeros, flatI_op _ _ (by rw [zeros_len]; exact hk)]
    exact this
  · have h1 := (owns_lt h.b e).1
    have h2 := h.ab g rfl
    simp only at e2
    omega

theorem S1.grow {w W V : World} {x : Pc} {c : Cc} {la lb : Nat} {va vb : Value} {L : List In} {k : Nat} (h : S1 w W x c la lb va vb L k) (hlo : w.heap.size ≤ la) (o : Obj) (hg : (W.alloc o).grownBy V va.ownBlock) : Sm w V x c ∧ V.ownsRow lb 40 5 vb L.length (flatI L) := by
  have ht : Tch (fun q => va.ownBlock = some q) W V := ((Tch.refl _ W).alloc o).grown hg (fun q e => .inl e)
  have hn : ∀ (q : Nat) (t : TypeId) (M : List Value), Holds W q t M → t ≠ 40 → ¬ va.ownBlock = some q := fun q t M hq htt e => by
    obtain ⟨d, hd⟩ := owns_kind h.a e
    unfold Holds at hq; rw [hd] at hq; cases hq; exact htt rfl
  refine ⟨⟨ht.holds (hn _ _ _ h.s.bx (by decide)) h.s.bx, ht.holds (hn _ _ _ h.s.bc (by decide)) h.s.bc, h.s.below.trans (ht.below h.s.below.size (fun q e => Nat.le_trans hlo (owns_lt h.a e).1))⟩, owns_same h.b (fun g e => ht.block g (owns_lt h.b e).2 (fun e2 => ?_))⟩
  have h1 := h.ab g e2
  have h2 := (owns_lt h.b e).1
  omega
set_option maxRecDepth 100000 in
set_option maxHeartbeats 8000000 in
theorem lsame_any (x : Pc) (c : Cc) (hx : x.Ok) (hk : I64 x.kind) (hc : c.Ok) (w : World) : Calls Try.prog 8 #[x.val, c.val] w fun e w' => e = .returned (.bool true) ∧ Below w.heap.size w w' := by
  obtain ⟨hbx, hbc, hbl⟩ := two_boxes w x c
  have Hbx := Lib.hid hbx
  have Hbc := Lib.hid hbc
  have Hbl := Lib.hid hbl
  clear hbx hbc hbl
  have HAl := Lib.hid (fun W => alive_any W)
  go_enter Try.func8, Try.ntmps8
  go_upto_region 3 with (go_at_call 20; (with_reducible refine (HAl.out _).mono ?_); rintro e V ⟨rfl, hb⟩; have hv := Hbx.out.below hb; have v0 := hv.cell (i := 0) rfl; have vf := hv.free 0; have Hv := Lib.hid hv; have Hu := Lib.hid (Hbc.out.below hb); have HB := Lib.hid (Hbl.out.trans (hb.mono Hbl.out.size)); clear hb hv)
  have hsm : Sm w (V.setCell ⟨w.heap.size, 0, none⟩ (.int .i64 ((bits .and .i64 x.kind 1023).tmod 3))) { x with kind := (bits .and .i64 x.kind 1023).tmod 3 } c :=
    ⟨Hv.out.set 0 _, Hu.out.other (Hu.out.ne Hv.out (by decide)) _, HB.out.setCell (Nat.le_refl _) _⟩
  obtain ⟨kn, hkn, hk3⟩ := kind_in x.kind
  rw [hkn] at hsm
  rw [hkn]
  clear Hv Hu HB v0 vf Hbx Hbc Hbl hkn hk
  generalize V.setCell ⟨w.heap.size, 0, none⟩ (.int .i64 (kn : Int)) = W1 at *
  obtain ⟨kk, hkk⟩ : ∃ kk : Int, (kn : Int) = kk := ⟨_, rfl⟩
  rw [hkk] at hsm
  rw [hkk]
  have hk012 : kk = 0 ∨ kk = 1 ∨ kk = 2 := by omega
  clear hkk hk3
  have HS := Lib.hid hsm; clear hsm
  obtain ⟨p0, p1, p2, p3, p4, p5, p6⟩ := HS.out.cells
  have hyo : Pc.Ok { x with kind := kk } := ⟨hx.b, hx.c⟩
  have HU : Hid (∀ V, Calls Try.prog 13 #[.agg #[.int .i64 kk, .int .i64 x.base, .int .i64 x.buckets, .int .i64 x.cap], .agg #[.int .i64 c.kind, .int .u64 c.k, .int .u64 c.v]] V fun e w' => e = .returned (.bool (usualP kk c.kind)) ∧ Below V.heap.size V w') := Lib.hid (fun V => usual_any { x with kind := kk } c V)
  have HC : Hid (∀ V, Calls Try.prog 14 #[.agg #[.int .i64 kk, .int .i64 x.base, .int .i64 x.buckets, .int .i64 x.cap], .agg #[.int .i64 c.kind, .int .u64 c.k, .int .u64 c.v]] V fun e w' => LibO V (poolX { x with kind := kk }) (codeX { x with kind := kk } c).out e w') := Lib.hid (fun V => code_any { x with kind := kk } c hyo hc V)
  have HF := Lib.hid (codeX_fits { x with kind := kk } c hyo)
  have hne := codeX_ne { x with kind := kk } c
  clear hyo hk012
  generalize (codeX { x with kind := kk } c).out = l at *
  generalize hmb : (poolX { x with kind := kk }).mayBe = mb at *
  generalize poolX { x with kind := kk } = PP at *
  have hll := HF.out.1
  cases hu : usualP kk c.kind with
  | false =>
    rw [hu] at HU
    clear hu
    go_wp2_with (go_at_call 13; (with_reducible refine (HU.out _).mono ?_); rintro e V3 ⟨rfl, hb⟩; have HS := Lib.hid (HS.out.next hb); clear hb)
    exact bodyPost_ret (results_tmp rfl _ _ _) rfl ⟨rfl, HS.out.below⟩
  | true =>
    rw [hu] at HU
    clear hu
    obtain ⟨L, n, hC2, hq, hLl, hop⟩ : ∃ (L : List In) (n : Int), (∀ V, Calls Try.prog 14 #[.agg #[.int .i64 kk, .int .i64 x.base, .int .i64 x.buckets, .int .i64 x.cap], .agg #[.int .i64 c.kind, .int .u64 c.k, .int .u64 c.v]] V fun e w' => ∃ v, e = .returned (.tuple #[v, .int .i64 n]) ∧ Below V.heap.size V w' ∧ w'.ownsRow V.heap.size 40 5 v L.length (flatI L)) ∧ ((n == 0) == ((L.length : Int) == 0)) = false ∧ L.length ≤ 128 ∧ ∀ y ∈ L, y.op ≠ 0 := by
      cases mb with
      | true =>
        refine ⟨l, 0, fun V => (HC.out V).mono fun e w' ⟨v, n, h1, h2, h3, h4⟩ => ?_, ?_, hll, fun y hy h0 => ?_⟩
        · obtain ⟨rfl, hr⟩ := h3 hmb
          exact ⟨v, h1, h2, hr⟩
        · have : ((l.length : Int) == 0) = false := by simp; intro e; rw [e] at hne; simp at hne
          rw [this]; rfl
        · have := HF.out.2 y hy
          simp only [fitsI, legalP, Bool.and_eq_true, decide_eq_true_eq] at this
          omega
      | false =>
        refine ⟨[], 130, fun V => (HC.out V).mono fun e w' ⟨v, n, h1, h2, h3, h4⟩ => ?_, rfl, by simp, fun y hy => by cases hy⟩
        obtain ⟨rfl, rfl⟩ := h4 hmb
        exact ⟨_, h1, h2, rfl, .inl ⟨rfl, rfl⟩⟩
    clear HC HF hne hll hmb
    have HC := Lib.hid hC2; clear hC2
    have Hop := Lib.hid hop; clear hop
    obtain ⟨i0, hi0, hz0, hz1, hz2⟩ := info_parts Try.infoIn
    have Hi := Lib.hid hi0; clear hi0
    have Hz0 := Lib.hid hz0; clear hz0
    have Hz1 := Lib.hid hz1; clear hz1
    have Hz2 := Lib.hid hz2; clear hz2
    have hnn : (n != n) = false := by simp
    have hLL : ((L.length : Int) != (L.length : Int)) = false := by simp
    go_wp2_with (first | (go_at_call 13; (with_reducible refine (HU.out _).mono ?_); rintro e V3 ⟨rfl, hb⟩; have HS := Lib.hid (HS.out.next hb); clear p0 p1 p2 p3 p4 p5 p6; obtain ⟨p0, p1, p2, p3, p4, p5, p6⟩ := HS.out.cells; clear hb) | (go_at_call 14; first | (have := HRA; (with_reducible refine (HC.out _).mono ?_); rintro e V5 ⟨v, rfl, hb, hr⟩; obtain ⟨ad2, cap2, rfl⟩ := row_form hr; have HS := Lib.hid (HS.out.next hb); have HRA2 := Lib.hid (owns_below HRA.out hb); have HRB := Lib.hid hr; have HZ2 := Lib.hid hb.size; have HLT := Lib.hid (fun g (hg : Value.ownBlock _ = some g) => (owns_lt HRA.out hg).2); clear p0 p1 p2 p3 p4 p5 p6; obtain ⟨p0, p1, p2, p3, p4, p5, p6⟩ := HS.out.cells; clear hb hr this) | ((with_reducible refine (HC.out _).mono ?_); rintro e V4 ⟨v, rfl, hb, hr⟩; obtain ⟨ad1, cap1, rfl⟩ := row_form hr; have HS0 := Lib.hid (HS.out.below.size); have HZ1 := Lib.hid hb.size; have HS := Lib.hid (HS.out.next hb); have HRA := Lib.hid hr; clear p0 p1 p2 p3 p4 p5 p6; obtain ⟨p0, p1, p2, p3, p4, p5, p6⟩ := HS.out.cells; clear hb hr)))
    have hs1 : S1 w V5 { x with kind := kk } c V3.heap.size V4.heap.size (.slice ad1 L.length cap1) (.slice ad2 L.length cap2) L 0 := ⟨HS.out, HRA2.out, HRB.out, fun g hg => HLT.out g hg, Nat.le_trans HZ1.out HZ2.out⟩
    have hlo : w.heap.size ≤ V3.heap.size := HS0.out
    clear HRA HRA2 HRB HLT p0 p1 p2 p3 p4 p5 p6 HS
    have HS1 := Lib.hid hs1; clear hs1
    have Hlo := Lib.hid hlo; clear hlo
    go_loopw [61] (fun i wr => ∃ k : Nat, k ≤ L.length ∧ i = .int .i64 k ∧ S1 w wr { x with kind := kk } c V3.heap.size V4.heap.size (.slice ad1 L.length cap1) (.slice ad2 L.length cap2) L k) (fun i _ => L.length - (intOf i).toNat)
    case atStart => exact ⟨0, by omega, by simp, HS1.out⟩
    case round =>
      obtain ⟨k, hk, rfl, hs1⟩ := hrel
      by_cases hlt : k < L.length
      · obtain ⟨y, hy⟩ : ∃ y, L[k]? = some y := ⟨L[k], List.getElem?_eq_getElem hlt⟩
        obtain ⟨g1, rfl⟩ := row_some hs1.a (by omega)
        obtain ⟨g2, rfl⟩ := row_some hs1.b (by omega)
        have hbk : (0 : Int) ≤ k ∧ (k : Int) < L.length := by omega
        have hya : (zeros L k)[k]? = some y := by rw [zeros_at L k k (Nat.le_refl _)]; exact hy
        obtain ⟨op, xa, xb, xc, imm⟩ := y
        have r0 := (owns_cell hs1.a (g := g1) rfl (flatI_at _ _ _ hya 0 _ rfl)).1
        have r1 := (owns_cell hs1.a (g := g1) rfl (flatI_at _ _ _ hya 1 _ rfl)).1
        have r2 := (owns_cell hs1.a (g := g1) rfl (flatI_at _ _ _ hya 2 _ rfl)).1
        have r3 := (owns_cell hs1.a (g := g1) rfl (flatI_at _ _ _ hya 3 _ rfl)).1
        have r4 := (owns_cell hs1.a (g := g1) rfl (flatI_at _ _ _ hya 4 _ rfl)).1
        have t0 := (owns_cell hs1.b (g := g2) rfl (flatI_at _ _ _ hy 0 _ rfl)).1
        have t1 := (owns_cell hs1.b (g := g2) rfl (flatI_at _ _ _ hy 1 _ rfl)).1
        have t2 := (owns_cell hs1.b (g := g2) rfl (flatI_at _ _ _ hy 2 _ rfl)).1
        have t3 := (owns_cell hs1.b (g := g2) rfl (flatI_at _ _ _ hy 3 _ rfl)).1
        have t4 := (owns_cell hs1.b (g := g2) rfl (flatI_at _ _ _ hy 4 _ rfl)).1
        rw [Nat.add_zero] at r0 t0
        have HQ := Lib.hid (fun m => hs1.next (below_drewN (Below.refl _ wr) m)); clear hs1
        go_wp2_with fail
        go_quiet (fail)
        have hq1 := HQ.out nq
        clear HQ r0 r1 r2 r3 r4 t0 t1 t2 t3 t4
        generalize wr.drewN nq = W2 at *
        have q0 := owns_cell hq1.a (g := g1) rfl (flatI_at _ _ _ hya 0 _ rfl)
        rw [Nat.add_zero] at q0
        obtain ⟨q0c, q0f⟩ := q0
        have HP := Lib.hid (hq1.put hlt Hlo.out)
        clear hq1 hya hy
        go_wp2_with fail
        go_roundw
        case rel => exact ⟨k + 1, by omega, by go_num, HP.out⟩
        case measure => simp [intOf]; omega
      · obtain rfl : k = L.length := by omega
        have HK := Lib.hid hs1
        have hz5 := hs1.s.below.size
        obtain ⟨p0, p1, p2, p3, p4, p5, p6⟩ := hs1.s.cells
        clear hs1
        go_wp2_with (first | (at_builtin; refine wpList_append_own_at _ rfl _ _ 32 rfl V3.heap.size 40 i0 _ 5 40 Try.underlying32 Hi.out Hz0.out Hz1.out Hz2.out rfl (by decide) (.slice ad1 L.length cap1) L.length (flatI (zeros L L.length)) rfl (World.ownsRow.alloc HK.out.a _) ⟨wr.heap.size, 0, none⟩ 1 1 [.int .i64 0, .int .i64 0, .int .i64 0, .int .i64 0, .int .i64 0] rfl rfl (World.news_of_block (cs := #[.int .i64 0, .int .i64 0, .int .i64 0, .int .i64 0, .int .i64 0]) (t := 40) (fr := (0, 0)) (new_block wr _)) (by simp [Value.oneCell']) (by unfold maxLen; omega) (by omega) ?_ ?_; (have h6 := HK.out.lw; simp; omega); intro v6 w6 hown6 hgrow6 _ _; obtain ⟨ad6, cap6, rfl⟩ := row_form hown6; obtain ⟨hs6, hb6⟩ := HK.out.grow Hlo.out _ hgrow6; clear p0 p1 p2 p3 p4 p5 p6; obtain ⟨p0, p1, p2, p3, p4, p5, p6⟩ := hs6.cells; have HS6 := Lib.hid hs6; have HB6 := Lib.hid hb6; clear hs6 hb6 hown6 hgrow6) | (go_at_call 14; (with_reducible refine (HC.out _).mono ?_); rintro e V7 ⟨v, rfl, hb, hr⟩; obtain ⟨ad7, cap7, rfl⟩ := row_form hr; have HS7 := Lib.hid (HS6.out.next hb).below; have HB7 := Lib.hid (owns_below HB6.out hb); have HD7 := Lib.hid hr; clear p0 p1 p2 p3 p4 p5 p6; clear hb hr))
        have hLs : IntKind.i64.wrap ((L.length : Int) + 1) = (L.length : Int) + 1 := IntWalk.i64_in _ (by omega)
        have hfin : (((L.length : Int) + 1) == ((L.length : Int) + 1)) = true := by simp
        go_loopw [95] (fun i wr => ∃ k : Nat, k ≤ L.length ∧ i = .int .i64 k ∧ Below w.heap.size w wr ∧ wr.ownsRow V4.heap.size 40 5 (.slice ad2 L.length cap2) L.length (flatI L) ∧ wr.ownsRow w6.heap.size 40 5 (.slice ad7 L.length cap7) L.length (flatI L)) (fun i _ => L.length - (intOf i).toNat)
        case atStart => exact ⟨0, by omega, by simp, HS7.out, HB7.out, HD7.out⟩
        case round =>
          obtain ⟨k, hk, rfl, hbw, hrb, hrd⟩ := hrel
          by_cases hlt : k < L.length
          · obtain ⟨y, hy⟩ : ∃ y, L[k]? = some y := ⟨L[k], List.getElem?_eq_getElem hlt⟩
            obtain ⟨g7, rfl⟩ := row_some hrd (by omega)
            obtain ⟨g2, rfl⟩ := row_some hrb (by omega)
            have hbk : (0 : Int) ≤ k ∧ (k : Int) < L.length := by omega
            have hno := Hop.out y (List.mem_of_getElem? hy)
            obtain ⟨op, xa, xb, xc, imm⟩ := y
            have hop0 : (op == 0) = false := by simpa using hno
            have r0 := (owns_cell hrd (g := g7) rfl (flatI_at _ _ _ hy 0 _ rfl)).1
            have r1 := (owns_cell hrd (g := g7) rfl (flatI_at _ _ _ hy 1 _ rfl)).1
            have r2 := (owns_cell hrd (g := g7) rfl (flatI_at _ _ _ hy 2 _ rfl)).1
            have r3 := (owns_cell hrd (g := g7) rfl (flatI_at _ _ _ hy 3 _ rfl)).1
            have r4 := (owns_cell hrd (g := g7) rfl (flatI_at _ _ _ hy 4 _ rfl)).1
            have t0 := (owns_cell hrb (g := g2) rfl (flatI_at _ _ _ hy 0 _ rfl)).1
            have t1 := (owns_cell hrb (g := g2) rfl (flatI_at _ _ _ hy 1 _ rfl)).1
            have t2 := (owns_cell hrb (g := g2) rfl (flatI_at _ _ _ hy 2 _ rfl)).1
            have t3 := (owns_cell hrb (g := g2) rfl (flatI_at _ _ _ hy 3 _ rfl)).1
            have t4 := (owns_cell hrb (g := g2) rfl (flatI_at _ _ _ hy 4 _ rfl)).1
            rw [Nat.add_zero] at r0 t0
            have HQ := Lib.hid (fun m => (⟨below_drewN hbw m, owns_below hrb (below_drewN (Below.refl _ wr) m), owns_below hrd (below_drewN (Below.refl _ wr) m)⟩ : Below w.heap.size w (wr.drewN m) ∧ (wr.drewN m).ownsRow V4.heap.size 40 5 (.slice (some ⟨g2, 0, none⟩) L.length cap2) L.length (flatI L) ∧ (wr.drewN m).ownsRow w6.heap.size 40 5 (.slice (some ⟨g7, 0, none⟩) L.length cap7) L.length (flatI L)))
            clear hrb hrd hbw hno hy
            go_wp2_with fail
            go_quiet (fail)
            go_wp2_with fail
            go_roundw
            case rel => exact ⟨k + 1, by omega, by go_num, (HQ.out _).1, (HQ.out _).2.1, (HQ.out _).2.2⟩
            case measure => simp [intOf]; omega
          · obtain rfl : k = L.length := by omega
            have HZ := Lib.hid hbw; clear hbw hrb hrd
            go_wp2_with fail
            exact bodyPost_ret (results_tmp rfl _ _ _) rfl ⟨rfl, HZ.out⟩

end Go.Proofs.Ythjbcpgncnchoaa
