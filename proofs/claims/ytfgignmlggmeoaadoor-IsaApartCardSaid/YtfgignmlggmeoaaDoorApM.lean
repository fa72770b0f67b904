/- IsaApart: where the walk stands. Conditions: those stated in each theorem. -/
import Derived.Test.YtfgignmlggmeoaaDoorAlx
import Derived.Test.YtfgignmlggmeoaaDoorApN
import Derived.Deep.RegionHeld3
namespace Go.Proofs.YtfgignmlggmeoaaDoor
open Go.RowKit Go.BigFrame

/-- What came in, in boxes. -/
structure ABx (w : World) (q q1 q2 : Nat) (i : In) (x y : L8) (s t : Int) (V : World) : Prop where
  std : Std V
  below : Below w.heap.size w V
  ins : Holds V q 23 i.cells
  regs : Holds V q1 47 (x.cells ++ y.cells)
  ats : Holds V q2 49 [.int .u16 s, .int .u16 t]
theorem ABx.next {w V V' : World} {q q1 q2 : Nat} {i : In} {x y : L8} {s t : Int} (h : ABx w q q1 q2 i x y s t V) (hb : Below V.heap.size V V') : ABx w q q1 q2 i x y s t V' := ⟨h.std.below hb, h.below.trans (hb.mono h.below.size), h.ins.below hb, h.regs.below hb, h.ats.below hb⟩
theorem ABx.start {w : World} (hs : Std w) (op a b c m : Int) (x y : L8) (s t : Int) : ABx w w.heap.size (w.heap.size + 1) (w.heap.size + 2) ⟨op, a, b, c, m⟩ x y s t (((w.alloc (.cells #[.int .i64 op, .int .i64 a, .int .i64 b, .int .i64 c, .int .i64 m] 23)).alloc (.cells #[.int .u64 x.x0, .int .u64 x.x1, .int .u64 x.x2, .int .u64 x.x3, .int .u64 x.x4, .int .u64 x.x5, .int .u64 x.x6, .int .u64 x.x7, .int .u64 y.x0, .int .u64 y.x1, .int .u64 y.x2, .int .u64 y.x3, .int .u64 y.x4, .int .u64 y.x5, .int .u64 y.x6, .int .u64 y.x7] 47)).alloc (.cells #[.int .u16 s, .int .u16 t] 49)) where
  std := hs.below ((((Below.refl _ w).alloc (Nat.le_refl _) _).alloc (by simp) _).alloc (by simp; omega) _)
  below := (((Below.refl _ w).alloc (Nat.le_refl _) _).alloc (by simp) _).alloc (by simp; omega) _
  ins := ((Holds.new w 23 [.int .i64 op, .int .i64 a, .int .i64 b, .int .i64 c, .int .i64 m]).alloc _).alloc _
  regs := (newAt (by simp) 47 [.int .u64 x.x0, .int .u64 x.x1, .int .u64 x.x2, .int .u64 x.x3, .int .u64 x.x4, .int .u64 x.x5, .int .u64 x.x6, .int .u64 x.x7, .int .u64 y.x0, .int .u64 y.x1, .int .u64 y.x2, .int .u64 y.x3, .int .u64 y.x4, .int .u64 y.x5, .int .u64 y.x6, .int .u64 y.x7]).alloc _
  ats := newAt (by simp) 49 [.int .u16 s, .int .u16 t]

/-- All that lies in boxes at a round of the loop. -/
structure ABm (w : World) (q qe ql qn qr : Nat) (i : In) (x y : L8) (s t : Int) (e : Ef) (l0 l1 l2 : Bool) (k : Nat) (z : L8) (V : World) : Prop where
  base : ABx w q (q + 1) (q + 2) i x y s t V
  eff : Holds V qe 27 e.cells
  nam : Holds V ql 50 [.bool l0, .bool l1, .bool l2]
  num : Holds V qn 52 [.int .i64 i.a, .int .i64 i.b, .int .i64 i.c]
  row : Holds V qr 25 z.cells
  ge : w.heap.size ≤ qr
  ok : z.Ok
  agrees : ∀ j, j < k → (if j = 0 then l0 else if j = 1 then l1 else l2) = true → 0 ≤ i.get (j + 1) → i.get (j + 1) < 8 → z.get (i.get (j + 1)).toNat = x.get (i.get (j + 1)).toNat

theorem L8.get_set (d : L8) {i j : Nat} (hi : i < 8) (hj : j < 8) (v : Int) : (d.set i v).get j = if j = i then v else d.get j := by
  match i, hi, j, hj with
  | 0, _, 0, _ => rfl
  | 0, _, 1, _ => rfl
  | 0, _, 2, _ => rfl
  | 0, _, 3, _ => rfl
  | 0, _, 4, _ => rfl
  | 0, _, 5, _ => rfl
  | 0, _, 6, _ => rfl
  | 0, _, 7, _ => rfl
  | 1, _, 0, _ => rfl
  | 1, _, 1, _ => rfl
  | 1, _, 2, _ => rfl
  | 1, _, 3, _ => rfl
  | 1, _, 4, _ => rfl
  | 1, _, 5, _ => rfl
  | 1, _, 6, _ => rfl
  | 1, _, 7, _ => rfl
  | 2, _, 0, _ => rfl
  | 2, _, 1, _ => rfl
  | 2, _, 2, _ => rfl
  | 2, _, 3, _ => rfl
  | 2, _, 4, _ => rfl
  | 2, _, 5, _ => rfl
  | 2, _, 6, _ => rfl
  | 2, _, 7, _ => rfl
  | 3, _, 0, _ => rfl
  | 3, _, 1, _ => rfl
  | 3, _, 2, _ => rfl
  | 3, _, 3, _ => rfl
  | 3, _, 4, _ => rfl
  | 3, _, 5, _ => rfl
  | 3, _, 6, _ => rfl
  | 3, _, 7, _ => rfl
  | 4, _, 0, _ => rfl
  | 4, _, 1, _ => rfl
  | 4, _, 2, _ => rfl
  | 4, _, 3, _ => rfl
  | 4, _, 4, _ => rfl
  | 4, _, 5, _ => rfl
  | 4, _, 6, _ => rfl
  | 4, _, 7, _ => rfl
  | 5, _, 0, _ => rfl
  | 5, _, 1, _ => rfl
  | 5, _, 2, _ => rfl
  | 5, _, 3, _ => rfl
  | 5, _, 4, _ => rfl
  | 5, _, 5, _ => rfl
  | 5, _, 6, _ => rfl
  | 5, _, 7, _ => rfl
  | 6, _, 0, _ => rfl
  | 6, _, 1, _ => rfl
  | 6, _, 2, _ => rfl
  | 6, _, 3, _ => rfl
  | 6, _, 4, _ => rfl
  | 6, _, 5, _ => rfl
  | 6, _, 6, _ => rfl
  | 6, _, 7, _ => rfl
  | 7, _, 0, _ => rfl
  | 7, _, 1, _ => rfl
  | 7, _, 2, _ => rfl
  | 7, _, 3, _ => rfl
  | 7, _, 4, _ => rfl
  | 7, _, 5, _ => rfl
  | 7, _, 6, _ => rfl
  | 7, _, 7, _ => rfl
theorem ABm.next {w : World} {q qe ql qn qr : Nat} {i : In} {x y : L8} {s t : Int} {e : Ef} {l0 l1 l2 : Bool} {k : Nat} {z : L8} {V V' : World} (h : ABm w q qe ql qn qr i x y s t e l0 l1 l2 k z V) (hb : Below V.heap.size V V') : ABm w q qe ql qn qr i x y s t e l0 l1 l2 k z V' :=
  ⟨h.base.next hb, h.eff.below hb, h.nam.below hb, h.num.below hb, h.row.below hb, h.ge, h.ok, h.agrees⟩
/-- The place k isn't named, or out of range. -/
theorem ABm.skip {w : World} {q qe ql qn qr : Nat} {i : In} {x y : L8} {s t : Int} {e : Ef} {l0 l1 l2 : Bool} {k : Nat} {z : L8} {V : World} (h : ABm w q qe ql qn qr i x y s t e l0 l1 l2 k z V)
    (hk : ¬((if k = 0 then l0 else if k = 1 then l1 else l2) = true ∧ 0 ≤ i.get (k + 1) ∧ i.get (k + 1) < 8)) : ABm w q qe ql qn qr i x y s t e l0 l1 l2 (k + 1) z V :=
  ⟨h.base, h.eff, h.nam, h.num, h.row, h.ge, h.ok, fun j hj h1 h2 h3 => by
    by_cases e : j = k
    · subst e; exact absurd ⟨h1, h2, h3⟩ hk
    · exact h.agrees j (by omega) h1 h2 h3⟩
/-- The register that place k names is set. -/
theorem ABm.put {w : World} {q qe ql qn qr : Nat} {i : In} {x y : L8} {s t : Int} {e : Ef} {l0 l1 l2 : Bool} {k : Nat} {z : L8} {V : World} (h : ABm w q qe ql qn qr i x y s t e l0 l1 l2 k z V) (hs : Std w) (hx : x.Ok)
    {n : Nat} (hn : n < 8) (hi : i.get (k + 1) = n) : ABm w q qe ql qn qr i x y s t e l0 l1 l2 (k + 1) (z.set n (x.get n)) (V.setCell ⟨qr, n, none⟩ (.int .u64 (x.get n))) := by
  have hT : Tch (· = qr) V (V.setCell ⟨qr, n, none⟩ (.int .u64 (x.get n))) := Tch.setCell (C := (· = qr)) (Tch.refl _ _) (p := ⟨qr, n, none⟩) (.inl rfl) _
  have hB : Below w.heap.size w (V.setCell ⟨qr, n, none⟩ (.int .u64 (x.get n))) := h.base.below.setCell h.ge _
  refine ⟨⟨hs.below hB, hB, hT.holds (h.base.ins.ne h.row (by decide)) h.base.ins, hT.holds (h.base.regs.ne h.row (by decide)) h.base.regs, hT.holds (h.base.ats.ne h.row (by decide)) h.base.ats⟩,
    hT.holds (h.eff.ne h.row (by decide)) h.eff, hT.holds (h.nam.ne h.row (by decide)) h.nam, hT.holds (h.num.ne h.row (by decide)) h.num, ?_, h.ge, fun j hj => ?_, fun j hj h1 h2 h3 => ?_⟩
  · rw [L8.cells_set z hn]; exact h.row.set n _
  · rw [L8.get_set z hn hj]; split
    · exact hx n hn
    · exact h.ok j hj
  · rw [L8.get_set z hn (by omega)]
    by_cases e : (i.get (j + 1)).toNat = n
    · rw [if_pos e, e]
    · rw [if_neg e]
      by_cases e2 : j = k
      · subst e2; omega
      · exact h.agrees j (by omega) h1 h2 h3

/-- Behind the loop: the same is done. -/
theorem ABm.same {w : World} {q qe ql qn qr : Nat} {i : In} {x y : L8} {s t : Int} {e : Ef} {l0 l1 l2 : Bool} {z : L8} {V : World} (h : ABm w q qe ql qn qr i x y s t e l0 l1 l2 3 z V)
    (h0 : nmP i.op 1 = l0) (h1 : nmP i.op 2 = l1) (h2 : nmP i.op 3 = l2) (p : Int) : doP i z p = doP i x p := by
  subst h0 h1 h2
  cases hl : legalP i with
  | false => rw [doP_bad hl, doP_bad hl]
  | true =>
    obtain ⟨ho, hr⟩ := legal_regs hl
    refine doP_regs i z x p (fun g => ?_) (fun g => ?_) (fun g => ?_)
    · obtain ⟨r, er, hr8⟩ := hr 1 ((nm_in ho (by omega)).1 g)
      exact h.agrees 0 (by omega) (by simpa using g) (by rw [er]; omega) (by rw [er]; omega)
    · obtain ⟨r, er, hr8⟩ := hr 2 ((nm_in ho (by omega)).1 g)
      exact h.agrees 1 (by omega) (by simpa using g) (by rw [er]; omega) (by rw [er]; omega)
    · obtain ⟨r, er, hr8⟩ := hr 3 ((nm_in ho (by omega)).1 g)
      exact h.agrees 2 (by omega) (by simpa using g) (by rw [er]; omega) (by rw [er]; omega)

/-- Behind the loop: the other instruction in qj. -/
structure AJm (w : World) (q qe ql qf qj : Nat) (i : In) (x y : L8) (s t : Int) (e : Ef) (l0 l1 l2 : Bool) (a b c : Int) (V : World) : Prop where
  base : ABx w q (q + 1) (q + 2) i x y s t V
  eff : Holds V qe 27 e.cells
  nam : Holds V ql 50 [.bool l0, .bool l1, .bool l2]
  two : Holds V qf 27 e.cells
  oth : Holds V qj 23 [.int .i64 i.op, .int .i64 a, .int .i64 b, .int .i64 c, .int .i64 i.imm]
  ge : w.heap.size ≤ qj
  ne : q ≠ qj
theorem AJm.next {w : World} {q qe ql qf qj : Nat} {i : In} {x y : L8} {s t : Int} {e : Ef} {l0 l1 l2 : Bool} {a b c : Int} {V V' : World} (h : AJm w q qe ql qf qj i x y s t e l0 l1 l2 a b c V) (hb : Below V.heap.size V V') : AJm w q qe ql qf qj i x y s t e l0 l1 l2 a b c V' :=
  ⟨h.base.next hb, h.eff.below hb, h.nam.below hb, h.two.below hb, h.oth.below hb, h.ge, h.ne⟩
theorem AJm.put {w : World} {q qe ql qf qj : Nat} {i : In} {x y : L8} {s t : Int} {e : Ef} {l0 l1 l2 : Bool} {a b c a' b' c' : Int} {V : World} (h : AJm w q qe ql qf qj i x y s t e l0 l1 l2 a b c V) (hs : Std w) (k : Nat) (v : Value)
    (hv : ([.int .i64 i.op, .int .i64 a, .int .i64 b, .int .i64 c, .int .i64 i.imm] : List Value).set k v = [.int .i64 i.op, .int .i64 a', .int .i64 b', .int .i64 c', .int .i64 i.imm]) :
    AJm w q qe ql qf qj i x y s t e l0 l1 l2 a' b' c' (V.setCell ⟨qj, k, none⟩ v) := by
  have hT : Tch (· = qj) V (V.setCell ⟨qj, k, none⟩ v) := Tch.setCell (C := (· = qj)) (Tch.refl _ _) (p := ⟨qj, k, none⟩) (.inl rfl) _
  have hB : Below w.heap.size w (V.setCell ⟨qj, k, none⟩ v) := h.base.below.setCell h.ge _
  exact ⟨⟨hs.below hB, hB, hT.holds h.ne h.base.ins, hT.holds (h.base.regs.ne h.oth (by decide)) h.base.regs, hT.holds (h.base.ats.ne h.oth (by decide)) h.base.ats⟩,
    hT.holds (h.eff.ne h.oth (by decide)) h.eff, hT.holds (h.nam.ne h.oth (by decide)) h.nam, hT.holds (h.two.ne h.oth (by decide)) h.two, hv ▸ h.oth.set k v, h.ge, h.ne⟩

theorem not_tt {l : Bool} (h : true = !l) : l = false := by cases l <;> simp_all
theorem not_ff {l : Bool} (h : false = !l) : l = true := by cases l <;> simp_all

/-- All four answers lie in boxes. -/
structure AKm (w : World) (q qe ql qf qj qg qh : Nat) (i : In) (x y : L8) (s t : Int) (e : Ef) (l0 l1 l2 : Bool) (a b c : Int) (h : Ef) (V : World) : Prop where
  on : AJm w q qe ql qf qj i x y s t e l0 l1 l2 a b c V
  three : Holds V qg 27 e.cells
  four : Holds V qh 27 h.cells
  ge : w.heap.size ≤ qh
  n1 : qe ≠ qh
  n2 : qf ≠ qh
  n3 : qg ≠ qh
theorem AKm.next {w : World} {q qe ql qf qj qg qh : Nat} {i : In} {x y : L8} {s t : Int} {e : Ef} {l0 l1 l2 : Bool} {a b c : Int} {h' : Ef} {V V' : World} (h : AKm w q qe ql qf qj qg qh i x y s t e l0 l1 l2 a b c h' V) (hb : Below V.heap.size V V') : AKm w q qe ql qf qj qg qh i x y s t e l0 l1 l2 a b c h' V' :=
  ⟨h.on.next hb, h.three.below hb, h.four.below hb, h.ge, h.n1, h.n2, h.n3⟩
theorem AKm.put {w : World} {q qe ql qf qj qg qh : Nat} {i : In} {x y : L8} {s t : Int} {e : Ef} {l0 l1 l2 : Bool} {a b c : Int} {h' : Ef} {V : World} (h : AKm w q qe ql qf qj qg qh i x y s t e l0 l1 l2 a b c h' V) (hs : Std w) (v : Int) :
    AKm w q qe ql qf qj qg qh i x y s t e l0 l1 l2 a b c { h' with next := v } (V.setCell ⟨qh, 1, none⟩ (.int .i64 v)) := by
  have hT : Tch (· = qh) V (V.setCell ⟨qh, 1, none⟩ (.int .i64 v)) := Tch.setCell (C := (· = qh)) (Tch.refl _ _) (p := ⟨qh, 1, none⟩) (.inl rfl) _
  have hB : Below w.heap.size w (V.setCell ⟨qh, 1, none⟩ (.int .i64 v)) := h.on.base.below.setCell h.ge _
  exact ⟨⟨⟨hs.below hB, hB, hT.holds (h.on.base.ins.ne h.four (by decide)) h.on.base.ins, hT.holds (h.on.base.regs.ne h.four (by decide)) h.on.base.regs, hT.holds (h.on.base.ats.ne h.four (by decide)) h.on.base.ats⟩,
    hT.holds h.n1 h.on.eff, hT.holds (h.on.nam.ne h.four (by decide)) h.on.nam, hT.holds h.n2 h.on.two, hT.holds (h.on.oth.ne h.four (by decide)) h.on.oth, h.on.ge, h.on.ne⟩, hT.holds h.n3 h.three, h.four.set 1 _, h.ge, h.n1, h.n2, h.n3⟩

theorem AKm.all {w : World} {q qe ql qf qj qg qh : Nat} {x y : L8} {s t op a b c m e0 e1 e2 e3 e4 f0 f1 f2 f3 f4 aj bj cj : Int} {l0 l1 l2 : Bool} {V : World} (h : AKm w q qe ql qf qj qg qh ⟨op, a, b, c, m⟩ x y s t ⟨e0, e1, e2, e3, e4⟩ l0 l1 l2 aj bj cj ⟨f0, f1, f2, f3, f4⟩ V) : V.cell? ⟨qe, 0, none⟩ = some (.int .i64 e0) ∧ V.cell? ⟨qe, 1, none⟩ = some (.int .i64 e1) ∧ V.cell? ⟨qe, 2, none⟩ = some (.int .i64 e2) ∧ V.cell? ⟨qe, 3, none⟩ = some (.int .u64 e3) ∧ V.cell? ⟨qe, 4, none⟩ = some (.int .u64 e4) ∧ V.cell? ⟨qf, 0, none⟩ = some (.int .i64 e0) ∧ V.cell? ⟨qf, 1, none⟩ = some (.int .i64 e1) ∧ V.cell? ⟨qf, 2, none⟩ = some (.int .i64 e2) ∧ V.cell? ⟨qf, 3, none⟩ = some (.int .u64 e3) ∧ V.cell? ⟨qf, 4, none⟩ = some (.int .u64 e4) ∧ V.cell? ⟨qg, 0, none⟩ = some (.int .i64 e0) ∧ V.cell? ⟨qg, 1, none⟩ = some (.int .i64 e1) ∧ V.cell? ⟨qg, 2, none⟩ = some (.int .i64 e2) ∧ V.cell? ⟨qg, 3, none⟩ = some (.int .u64 e3) ∧ V.cell? ⟨qg, 4, none⟩ = some (.int .u64 e4) ∧ V.cell? ⟨qh, 0, none⟩ = some (.int .i64 f0) ∧ V.cell? ⟨qh, 1, none⟩ = some (.int .i64 f1) ∧ V.cell? ⟨qh, 2, none⟩ = some (.int .i64 f2) ∧ V.cell? ⟨qh, 3, none⟩ = some (.int .u64 f3) ∧ V.cell? ⟨qh, 4, none⟩ = some (.int .u64 f4) ∧ V.cell? ⟨q, 0, none⟩ = some (.int .i64 op) ∧ V.cell? ⟨q, 1, none⟩ = some (.int .i64 a) ∧ V.cell? ⟨q, 2, none⟩ = some (.int .i64 b) ∧ V.cell? ⟨q, 3, none⟩ = some (.int .i64 c) ∧ V.cell? ⟨q, 4, none⟩ = some (.int .i64 m) ∧ V.cell? ⟨qj, 0, none⟩ = some (.int .i64 op) ∧ V.cell? ⟨qj, 1, none⟩ = some (.int .i64 aj) ∧ V.cell? ⟨qj, 2, none⟩ = some (.int .i64 bj) ∧ V.cell? ⟨qj, 3, none⟩ = some (.int .i64 cj) ∧ V.cell? ⟨qj, 4, none⟩ = some (.int .i64 m) :=
  ⟨h.on.eff.cell (i := 0) rfl, h.on.eff.cell (i := 1) rfl, h.on.eff.cell (i := 2) rfl, h.on.eff.cell (i := 3) rfl, h.on.eff.cell (i := 4) rfl, h.on.two.cell (i := 0) rfl, h.on.two.cell (i := 1) rfl, h.on.two.cell (i := 2) rfl, h.on.two.cell (i := 3) rfl, h.on.two.cell (i := 4) rfl, h.three.cell (i := 0) rfl, h.three.cell (i := 1) rfl, h.three.cell (i := 2) rfl, h.three.cell (i := 3) rfl, h.three.cell (i := 4) rfl, h.four.cell (i := 0) rfl, h.four.cell (i := 1) rfl, h.four.cell (i := 2) rfl, h.four.cell (i := 3) rfl, h.four.cell (i := 4) rfl, h.on.base.ins.cell (i := 0) rfl, h.on.base.ins.cell (i := 1) rfl, h.on.base.ins.cell (i := 2) rfl, h.on.base.ins.cell (i := 3) rfl, h.on.base.ins.cell (i := 4) rfl, h.on.oth.cell (i := 0) rfl, h.on.oth.cell (i := 1) rfl, h.on.oth.cell (i := 2) rfl, h.on.oth.cell (i := 3) rfl, h.on.oth.cell (i := 4) rfl⟩
@[local go_sem ↓ high] theorem same_self (a b c e f : Int) (w : World) : (Op.equalIn 10000 27 (.agg #[.int .i64 a, .int .i64 b, .int .i64 c, .int .u64 e, .int .u64 f]) (.agg #[.int .i64 a, .int .i64 b, .int .i64 c, .int .u64 e, .int .u64 f])).run Tryd.prog w = .ok true w := by
  rw [same_ef]; simp

end Go.Proofs.YtfgignmlggmeoaaDoor
