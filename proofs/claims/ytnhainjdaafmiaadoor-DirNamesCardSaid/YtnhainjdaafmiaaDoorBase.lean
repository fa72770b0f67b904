/- Words of a line, entries, blocks known whole, what turned. Conditions: those stated in each theorem. -/
import Derived.Test.YtnhainjdaafmiaaDoorRows
import Derived.WalkKit
import Derived.Lib.Hide
import Derived.WalkSpells
import Derived.WalkLawsBesides
import Derived.Deep.MidRow
import Derived.Below
import Derived.Test.YtnhainjdaafmiaaDoorEach
namespace Go.Proofs.YtnhainjdaafmiaaDoor
open Go.RowKit

/-- The words of a line. -/
structure L8 where
  x0 : Int
  x1 : Int
  x2 : Int
  x3 : Int
  x4 : Int
  x5 : Int
  x6 : Int
  x7 : Int
deriving DecidableEq

def L8.zero : L8 := ⟨0, 0, 0, 0, 0, 0, 0, 0⟩
def L8.cells (d : L8) : List Value := [.int .u64 d.x0, .int .u64 d.x1, .int .u64 d.x2, .int .u64 d.x3, .int .u64 d.x4, .int .u64 d.x5, .int .u64 d.x6, .int .u64 d.x7]
def L8.val (d : L8) : Value := .agg #[.int .u64 d.x0, .int .u64 d.x1, .int .u64 d.x2, .int .u64 d.x3, .int .u64 d.x4, .int .u64 d.x5, .int .u64 d.x6, .int .u64 d.x7]
def L8.get (d : L8) (i : Nat) : Int := match i with | 0 => d.x0 | 1 => d.x1 | 2 => d.x2 | 3 => d.x3 | 4 => d.x4 | 5 => d.x5 | 6 => d.x6 | _ => d.x7
def L8.set (d : L8) (i : Nat) (v : Int) : L8 := match i with
  | 0 => { d with x0 := v } | 1 => { d with x1 := v } | 2 => { d with x2 := v } | 3 => { d with x3 := v }
  | 4 => { d with x4 := v } | 5 => { d with x5 := v } | 6 => { d with x6 := v } | _ => { d with x7 := v }

/-- An entry. -/
structure Ent where
  line : Int
  state : Int
  read : Bool
  write : Bool
  data : L8
  old : L8
  used : Int
deriving DecidableEq

def Ent.zero : Ent := ⟨0, 0, false, false, L8.zero, L8.zero, 0⟩
def Ent.cells (e : Ent) : List Value := [.int .i64 e.line, .int .i64 e.state, .bool e.read, .bool e.write,
  .int .u64 e.data.x0, .int .u64 e.data.x1, .int .u64 e.data.x2, .int .u64 e.data.x3, .int .u64 e.data.x4, .int .u64 e.data.x5, .int .u64 e.data.x6, .int .u64 e.data.x7,
  .int .u64 e.old.x0, .int .u64 e.old.x1, .int .u64 e.old.x2, .int .u64 e.old.x3, .int .u64 e.old.x4, .int .u64 e.old.x5, .int .u64 e.old.x6, .int .u64 e.old.x7, .int .i64 e.used]
def Ent.val (e : Ent) : Value := .agg #[.int .i64 e.line, .int .i64 e.state, .bool e.read, .bool e.write, e.data.val, e.old.val, .int .i64 e.used]
theorem Ent.len (e : Ent) : e.cells.length = 21 := rfl

/-! ### Lists -/
/-- vs over L from o on. -/
def splice (L : List Value) (o : Nat) : List Value → List Value
  | [] => L
  | v :: r => splice (L.set o v) (o + 1) r
theorem splice_left (B : List Value) : ∀ (vs : List Value) (o : Nat) (A : List Value), o + vs.length ≤ A.length → splice (A ++ B) o vs = splice A o vs ++ B
  | [], _, _, _ => rfl
  | v :: r, o, A, h => by
    simp only [List.length_cons] at h
    rw [splice, splice, List.set_append_left _ _ (by omega), splice_left B r (o + 1) _ (by simp; omega)]
theorem splice_right (A : List Value) : ∀ (vs : List Value) (o : Nat) (B : List Value), splice (A ++ B) (A.length + o) vs = A ++ splice B o vs
  | [], _, _ => rfl
  | v :: r, o, B => by
    rw [splice, splice, List.set_append_right _ _ (by omega), show A.length + o - A.length = o from by omega, Nat.add_assoc, splice_right A r (o + 1)]
theorem splice_rows (f : Ent → List Value) (hf : ∀ e, (f e).length = 21) : ∀ (es : List Ent) (j k : Nat) (vs : List Value) (e e' : Ent), es[j]? = some e → k + vs.length ≤ 21 → splice (f e) k vs = f e' →
    splice (es.flatMap f) (j * 21 + k) vs = (es.set j e').flatMap f
  | [], j, _, _, _, _, h, _, _ => by simp at h
  | a :: es, 0, k, vs, e, e', h, hk, hs => by
    simp only [List.getElem?_cons_zero, Option.some.injEq] at h
    subst h
    simp only [List.flatMap_cons, List.set_cons_zero, Nat.zero_mul, Nat.zero_add]
    rw [splice_left _ vs k (f a) (by rw [hf]; exact hk), hs]
  | a :: es, j + 1, k, vs, e, e', h, hk, hs => by
    simp only [List.getElem?_cons_succ] at h
    simp only [List.flatMap_cons, List.set_cons_succ]
    rw [show (j + 1) * 21 + k = (f a).length + (j * 21 + k) from by rw [hf]; omega, splice_right (f a) vs, splice_rows f hf es j k vs e e' h hk hs]
theorem rows_get (f : Ent → List Value) (hf : ∀ e, (f e).length = 21) : ∀ (es : List Ent) (j k : Nat) (e : Ent), es[j]? = some e → k < 21 → (es.flatMap f)[j * 21 + k]? = (f e)[k]?
  | [], j, _, _, h, _ => by simp at h
  | a :: es, 0, k, e, h, hk => by
    simp only [List.getElem?_cons_zero, Option.some.injEq] at h
    subst h
    simp only [List.flatMap_cons, Nat.zero_mul, Nat.zero_add]
    rw [List.getElem?_append_left (by rw [hf]; exact hk)]
  | a :: es, j + 1, k, e, h, hk => by
    simp only [List.getElem?_cons_succ] at h
    simp only [List.flatMap_cons]
    rw [List.getElem?_append_right (by rw [hf]; omega), hf, show (j + 1) * 21 + k - 21 = j * 21 + k from by omega]
    exact rows_get f hf es j k e h hk
theorem rows_len (es : List Ent) : (es.flatMap Ent.cells).length = es.length * 21 := by
  induction es with
  | nil => rfl
  | cons a es ih => simp only [List.flatMap_cons, List.length_append, ih, Ent.len, List.length_cons]; omega

/-! ### Blocks -/
/-- Block b holds the cells L. -/
def Holds (w : World) (b : Nat) (t : TypeId) (L : List Value) : Prop := w.heap[b]? = some (.cells L.toArray t (0, 0))
theorem Holds.lt {w : World} {b : Nat} {t : TypeId} {L : List Value} (h : Holds w b t L) : b < w.heap.size := (Array.getElem?_eq_some_iff.1 h).1
theorem Holds.cell {w : World} {b : Nat} {t : TypeId} {L : List Value} (h : Holds w b t L) {i : Nat} {v : Value} (hi : L[i]? = some v) : w.cell? ⟨b, i, none⟩ = some v := by
  unfold Holds at h; simp [World.cell?, h, hi]
theorem Holds.free {w : World} {b : Nat} {t : TypeId} {L : List Value} (h : Holds w b t L) (i : Nat) : w.frozen? ⟨b, i, none⟩ = false := by
  unfold Holds at h; simp [World.frozen?, h]
theorem Holds.set {w : World} {b : Nat} {t : TypeId} {L : List Value} (h : Holds w b t L) (i : Nat) (v : Value) : Holds (w.setCell ⟨b, i, none⟩ v) b t (L.set i v) := by
  unfold Holds at *
  simp only [World.setCell, Array.getElem?_modify, if_true, h, Option.map_some]
  simp
theorem Holds.sets {t : TypeId} {b : Nat} : ∀ (vs : List Value) {w : World} {L : List Value} (o : Nat), Holds w b t L → Holds (w.setCells b o vs) b t (splice L o vs)
  | [], _, _, _, h => h
  | v :: r, _, _, o, h => Holds.sets r (o + 1) (h.set o v)
theorem Holds.same {w w' : World} {b : Nat} {t : TypeId} {L : List Value} (h : Holds w b t L) (e : w'.heap[b]? = w.heap[b]?) : Holds w' b t L := e.trans h
theorem Holds.new (w : World) (t : TypeId) (L : List Value) : Holds (w.alloc (.cells L.toArray t)) w.heap.size t L := World.alloc_heap_new w _
theorem Holds.cells {w : World} {b : Nat} {t : TypeId} {L : List Value} (h : Holds w b t L) {l : Nat} {r : Loop} (hl : w.heap[l]? = some (.loop r)) : b ≠ l := by
  rintro rfl; unfold Holds at h; rw [h] at hl; cases hl

theorem Holds.alloc {w : World} {b : Nat} {t : TypeId} {L : List Value} (h : Holds w b t L) (o : Obj) : Holds (w.alloc o) b t L := (Below.heap_alloc w o b h.lt).trans h
theorem Holds.drewN {w : World} {b : Nat} {t : TypeId} {L : List Value} (h : Holds w b t L) (n : Nat) : Holds (w.drewN n) b t L := h
theorem Holds.other {w : World} {b : Nat} {t : TypeId} {L : List Value} (h : Holds w b t L) {p : Addr} (hp : b ≠ p.block) (v : Value) : Holds (w.setCell p v) b t L := (Below.heap_setCell w p v b hp).trans h
theorem Holds.putObj {w : World} {b : Nat} {t : TypeId} {L : List Value} (h : Holds w b t L) {l : Nat} {o : Obj} (hl : w.heap[l]? = some o) (ho : o.isCells = false) (o' : Obj) : Holds (w.putObj l o') b t L :=
  (World.putObj_heap_other (fun e => by subst e; unfold Holds at h; rw [h] at hl; cases hl; cases ho)).trans h

/-- A box that a body leaves as it was. -/
def KpHold (B : Nat) (t : TypeId) (W W' : World) : Prop := ∀ v, Holds W B t [v] → Holds W' B t [v]
theorem kpHold_t {B : Nat} {t : TypeId} {X Y Z : World} (h : KpHold B t X Y) (k : KpHold B t Y Z) : KpHold B t X Z := fun v e => k v (h v e)
theorem kpHold_b {B l : Nat} {t : TypeId} (W : World) (o o' : Loop) (h : W.heap[l]? = some (.loop o)) : KpHold B t W (W.putObj l (.loop o')) := fun _ e => e.putObj h rfl _

/-- What turned, of what was there, lies in C. -/
structure Tch (C : Nat → Prop) (w w' : World) : Prop where
  os : w'.os = w.os
  tape : w'.tape = w.tape
  output : w'.output = w.output
  size : w.heap.size ≤ w'.heap.size
  block : ∀ k, k < w.heap.size → ¬ C k → w'.heap[k]? = w.heap[k]?

theorem Tch.refl (C : Nat → Prop) (w : World) : Tch C w w := ⟨rfl, rfl, rfl, Nat.le_refl _, fun _ _ _ => rfl⟩
theorem Tch.trans {C : Nat → Prop} {a b c : World} (h : Tch C a b) (k : Tch C b c) : Tch C a c :=
  ⟨k.os.trans h.os, k.tape.trans h.tape, k.output.trans h.output, Nat.le_trans h.size k.size, fun i hi hc => (k.block i (Nat.lt_of_lt_of_le hi h.size) hc).trans (h.block i hi hc)⟩
theorem Tch.mono {C D : Nat → Prop} {a b : World} (h : Tch C a b) (hCD : ∀ k, k < a.heap.size → C k → D k) : Tch D a b :=
  ⟨h.os, h.tape, h.output, h.size, fun i hi hd => h.block i hi (fun c => hd (hCD i hi c))⟩
theorem Tch.of_below {B : Nat} {a b : World} (h : Below B a b) : Tch (B ≤ ·) a b := ⟨h.os, h.tape, h.output, h.size, fun k _ hc => h.block k (by omega)⟩
theorem Tch.below {C : Nat → Prop} {B : Nat} {a b : World} (h : Tch C a b) (hB : B ≤ a.heap.size) (hC : ∀ k, C k → B ≤ k) : Below B a b :=
  ⟨h.os, h.tape, h.output, h.size, fun k hk => h.block k (by omega) (fun c => by have := hC k c; omega)⟩
theorem Tch.alloc {C : Nat → Prop} {a w : World} (h : Tch C a w) (o : Obj) : Tch C a (w.alloc o) :=
  ⟨h.os, h.tape, h.output, Nat.le_trans h.size (by simp), fun k hk hc => (Below.heap_alloc w o k (Nat.lt_of_lt_of_le hk h.size)).trans (h.block k hk hc)⟩
theorem Tch.setCell {C : Nat → Prop} {a w : World} (h : Tch C a w) {p : Addr} (hp : C p.block ∨ a.heap.size ≤ p.block) (u : Value) : Tch C a (w.setCell p u) :=
  ⟨h.os, h.tape, h.output, Nat.le_trans h.size (by simp), fun k hk hc => (Below.heap_setCell w p u k (fun e => by
    subst e; rcases hp with hp | hp
    · exact hc hp
    · omega)).trans (h.block k hk hc)⟩
theorem Tch.setCells {C : Nat → Prop} {a : World} {b : Nat} (hp : C b ∨ a.heap.size ≤ b) : ∀ (vs : List Value) (o : Nat) {w : World}, Tch C a w → Tch C a (w.setCells b o vs)
  | [], _, _, h => h
  | v :: r, o, _, h => Tch.setCells hp r (o + 1) (h.setCell (p := ⟨b, o, none⟩) hp v)
theorem Tch.grown {C : Nat → Prop} {a w w' : World} {row : Option Nat} (h : Tch C a w) (hg : w.grownBy w' row) (hr : ∀ k, row = some k → C k ∨ a.heap.size ≤ k) : Tch C a w' :=
  ⟨hg.os.trans h.os, hg.tape.trans h.tape, hg.output.trans h.output, Nat.le_trans h.size hg.size, fun k hk hc => (hg.block k (Nat.lt_of_lt_of_le hk h.size) (fun e => by
    rcases hr k e.symm with hp | hp
    · exact hc hp
    · omega)).trans (h.block k hk hc)⟩
theorem Tch.drew {C : Nat → Prop} {a w : World} (h : Tch C a w) : Tch C a w.drew := ⟨h.os, h.tape, h.output, h.size, h.block⟩
theorem Tch.drewN {C : Nat → Prop} {a w : World} (h : Tch C a w) (n : Nat) : Tch C a (w.drewN n) := ⟨h.os, h.tape, h.output, h.size, h.block⟩
theorem below_drewN {B : Nat} {a w : World} (h : Below B a w) (n : Nat) : Below B a (w.drewN n) := ⟨h.os, h.tape, h.output, h.size, h.block⟩
theorem Tch.putObj {C : Nat → Prop} {a w : World} (h : Tch C a w) {l : Nat} (hl : C l ∨ a.heap.size ≤ l) (o : Obj) : Tch C a (w.putObj l o) :=
  h.grown (grownBy_putObj' w l o) (fun k e => by cases e; exact hl)
theorem Tch.holds {C : Nat → Prop} {w w' : World} (h : Tch C w w') {b : Nat} {t : TypeId} {L : List Value} (hb : ¬ C b) (hl : Holds w b t L) : Holds w' b t L := hl.same (h.block b hl.lt hb)
theorem Tch.kpBox {C : Nat → Prop} {w w' : World} (h : Tch C w w') {B : Nat} (hb : ¬ C B) : KpBox B w w' := fun _ _ _ e => (h.block B (Array.getElem?_eq_some_iff.1 e).1 hb).trans e
theorem Tch.kpHold {C : Nat → Prop} {w w' : World} (h : Tch C w w') {B : Nat} {t : TypeId} (hb : ¬ C B) : KpHold B t w w' := fun _ e => h.holds hb e
theorem ownFrom_tch {β : Type} {C : Nat → Prop} {B : Nat} {w₀ : World} (hB : w₀.heap.size ≤ B) : OwnFrom B (fun (_ : β) W => Tch C w₀ W) :=
  fun _ _ _ _ hs hg hr => hs.grown hg (fun k e => .inr (Nat.le_trans hB (hr k e).1))
theorem ownFrom_holds {β : Type} (B b : Nat) (t : TypeId) (f : β → List Value) : OwnFrom B (fun s W => Holds W b t (f s)) :=
  fun s X Y row hs hg hr => (hg.block b hs.lt (fun e => by
    obtain ⟨o, ho, hc⟩ := (hr b e.symm).2
    unfold Holds at hs; rw [hs] at ho; cases ho; cases hc)).trans hs
/-- Whatever is no cells lies as it lay, where only blocks of cells turn. -/
theorem Tch.keepsFrom {C : Nat → Prop} {B : Nat} {W W' : World} (h : Tch C W W') (hC : ∀ k o, C k → B ≤ k → W.heap[k]? = some o → o.isCells = true) : KeepsFrom B W W' :=
  ⟨h.size, fun k o hB hk ho => (h.block k (Array.getElem?_eq_some_iff.1 hk).1 (fun c => by rw [hC k o c hB hk] at ho; cases ho)).trans hk⟩

end Go.Proofs.YtnhainjdaafmiaaDoor
