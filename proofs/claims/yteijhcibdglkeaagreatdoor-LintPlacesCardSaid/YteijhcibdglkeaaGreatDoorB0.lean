/- Words of a line, blocks known whole, what turned. Conditions: those stated in each theorem. -/
import Derived.Test.YteijhcibdglkeaaGreatDoorRows
import Derived.WalkKit
import Derived.Lib.Hide
import Derived.WalkSpells
import Derived.WalkLawsBesides
import Derived.Deep.MidRow
import Derived.Below
import Derived.BigFrame
import Derived.Deep.QuietTactic
import Derived.BigQuiet
import Derived.Laws.StructEq
import Derived.ChangeKeysEq
import Derived.OwnWalkIn
namespace Go.Proofs.YteijhcibdglkeaaGreatDoor
open Go.RowKit

/-- Eight words. -/
structure L8 where
  x0 : Int
  x1 : Int
  x2 : Int
  x3 : Int
  x4 : Int
  x5 : Int
  x6 : Int
  x7 : Int
deriving DecidableEq

def L8.zero : L8 := ⟨0, 0, 0, 0, 0, 0, 0, 0⟩
def L8.cells (d : L8) : List Value := [.int .u64 d.x0, .int .u64 d.x1, .int .u64 d.x2, .int .u64 d.x3, .int .u64 d.x4, .int .u64 d.x5, .int .u64 d.x6, .int .u64 d.x7]
def L8.val (d : L8) : Value := .agg #[.int .u64 d.x0, .int .u64 d.x1, .int .u64 d.x2, .int .u64 d.x3, .int .u64 d.x4, .int .u64 d.x5, .int .u64 d.x6, .int .u64 d.x7]
def L8.get (d : L8) (i : Nat) : Int := match i with | 0 => d.x0 | 1 => d.x1 | 2 => d.x2 | 3 => d.x3 | 4 => d.x4 | 5 => d.x5 | 6 => d.x6 | _ => d.x7
def L8.set (d : L8) (i : Nat) (v : Int) : L8 := match i with
  | 0 => { d with x0 := v } | 1 => { d with x1 := v } | 2 => { d with x2 := v } | 3 => { d with x3 := v }
  | 4 => { d with x4 := v } | 5 => { d with x5 := v } | 6 => { d with x6 := v } | _ => { d with x7 := v }
theorem L8.cell_get (d : L8) {i : Nat} (h : i < 8) : d.cells[i]? = some (.int .u64 (d.get i)) := by
  match i, h with
  | 0, _ => rfl | 1, _ => rfl | 2, _ => rfl | 3, _ => rfl | 4, _ => rfl | 5, _ => rfl | 6, _ => rfl | 7, _ => rfl
theorem L8.cells_set (d : L8) {i : Nat} (h : i < 8) (v : Int) : (d.set i v).cells = d.cells.set i (.int .u64 v) := by
  match i, h with
  | 0, _ => rfl | 1, _ => rfl | 2, _ => rfl | 3, _ => rfl | 4, _ => rfl | 5, _ => rfl | 6, _ => rfl | 7, _ => rfl

/-- vs over L from o on. -/
def splice (L : List Value) (o : Nat) : List Value → List Value
  | [] => L
  | v :: r => splice (L.set o v) (o + 1) r

/-! ### Blocks -/
/-- Block b holds the cells L. -/
def Holds (w : World) (b : Nat) (t : TypeId) (L : List Value) : Prop := w.heap[b]? = some (.cells L.toArray t (0, 0))
theorem Holds.lt {w : World} {b : Nat} {t : TypeId} {L : List Value} (h : Holds w b t L) : b < w.heap.size := (Array.getElem?_eq_some_iff.1 h).1
theorem Holds.cell {w : World} {b : Nat} {t : TypeId} {L : List Value} (h : Holds w b t L) {i : Nat} {v : Value} (hi : L[i]? = some v) : w.cell? ⟨b, i, none⟩ = some v := by
  unfold Holds at h; simp [World.cell?, h, hi]
theorem Holds.range {w : World} {b : Nat} {t : TypeId} {L : List Value} (h : Holds w b t L) {o : Nat} {cs : List Value} (hc : ∀ (i : Nat) (v : Value), cs[i]? = some v → L[o + i]? = some v) : w.rangeAt b o cs := fun i v hi => h.cell (hc i v hi)
theorem Holds.free {w : World} {b : Nat} {t : TypeId} {L : List Value} (h : Holds w b t L) (i : Nat) : w.frozen? ⟨b, i, none⟩ = false := by
  unfold Holds at h; simp [World.frozen?, h]
theorem Holds.there {w : World} {b : Nat} {t : TypeId} {L : List Value} (h : Holds w b t L) {o n : Nat} (hn : o + n ≤ L.length) : w.there b o n :=
  fun j hj => ⟨by rw [h.cell (List.getElem?_eq_getElem (show o + j < L.length by omega))]; rfl, h.free _⟩
theorem Holds.set {w : World} {b : Nat} {t : TypeId} {L : List Value} (h : Holds w b t L) (i : Nat) (v : Value) : Holds (w.setCell ⟨b, i, none⟩ v) b t (L.set i v) := by
  unfold Holds at *
  simp only [World.setCell, Array.getElem?_modify, if_true, h, Option.map_some]
  simp
theorem Holds.sets {t : TypeId} {b : Nat} : ∀ (vs : List Value) {w : World} {L : List Value} (o : Nat), Holds w b t L → Holds (w.setCells b o vs) b t (splice L o vs)
  | [], _, _, _, h => h
  | v :: r, _, _, o, h => Holds.sets r (o + 1) (h.set o v)
theorem Holds.same {w w' : World} {b : Nat} {t : TypeId} {L : List Value} (h : Holds w b t L) (e : w'.heap[b]? = w.heap[b]?) : Holds w' b t L := e.trans h
theorem Holds.new (w : World) (t : TypeId) (L : List Value) : Holds (w.alloc (.cells L.toArray t)) w.heap.size t L := Array.getElem?_push_size
theorem Holds.alloc {w : World} {b : Nat} {t : TypeId} {L : List Value} (h : Holds w b t L) (o : Obj) : Holds (w.alloc o) b t L := (Below.heap_alloc w o b h.lt).trans h
theorem Holds.drew {w : World} {b : Nat} {t : TypeId} {L : List Value} (h : Holds w b t L) : Holds w.drew b t L := h
theorem Holds.drewN {w : World} {b : Nat} {t : TypeId} {L : List Value} (h : Holds w b t L) (n : Nat) : Holds (w.drewN n) b t L := h
theorem Holds.other {w : World} {b : Nat} {t : TypeId} {L : List Value} (h : Holds w b t L) {p : Addr} (hp : b ≠ p.block) (v : Value) : Holds (w.setCell p v) b t L := (Below.heap_setCell w p v b hp).trans h
theorem Holds.others {t : TypeId} {b c : Nat} (hp : b ≠ c) {L : List Value} : ∀ (vs : List Value) {w : World} (o : Nat), Holds w b t L → Holds (w.setCells c o vs) b t L
  | [], _, _, h => h
  | v :: r, _, o, h => Holds.others hp r (o + 1) (h.other (p := ⟨c, o, none⟩) hp v)
/-- Two blocks of different types are two. -/
theorem Holds.ne {w : World} {b c : Nat} {t u : TypeId} {L M : List Value} (h : Holds w b t L) (k : Holds w c u M) (ht : t ≠ u) : b ≠ c := by
  rintro rfl; unfold Holds at h k; rw [h] at k; cases k; exact ht rfl

/-- What turned, of what was there, lies in C. -/
structure Tch (C : Nat → Prop) (w w' : World) : Prop where
  os : w'.os = w.os
  tape : w'.tape = w.tape
  output : w'.output = w.output
  size : w.heap.size ≤ w'.heap.size
  block : ∀ k, k < w.heap.size → ¬ C k → w'.heap[k]? = w.heap[k]?

theorem Tch.refl (C : Nat → Prop) (w : World) : Tch C w w := ⟨rfl, rfl, rfl, Nat.le_refl _, fun _ _ _ => rfl⟩
theorem Tch.trans {C : Nat → Prop} {a b c : World} (h : Tch C a b) (k : Tch C b c) : Tch C a c :=
  ⟨k.os.trans h.os, k.tape.trans h.tape, k.output.trans h.output, Nat.le_trans h.size k.size, fun i hi hc => (k.block i (Nat.lt_of_lt_of_le hi h.size) hc).trans (h.block i hi hc)⟩
theorem Tch.mono {C D : Nat → Prop} {a b : World} (h : Tch C a b) (hCD : ∀ k, k < a.heap.size → C k → D k) : Tch D a b :=
  ⟨h.os, h.tape, h.output, h.size, fun i hi hd => h.block i hi (fun c => hd (hCD i hi c))⟩
theorem Tch.of_below {B : Nat} {a b : World} (h : Below B a b) : Tch (B ≤ ·) a b := ⟨h.os, h.tape, h.output, h.size, fun k _ hc => h.block k (by omega)⟩
theorem Tch.of_idle {C : Nat → Prop} {a b : World} (h : Below a.heap.size a b) : Tch C a b := ⟨h.os, h.tape, h.output, h.size, fun k hk _ => h.block k hk⟩
theorem Tch.below {C : Nat → Prop} {B : Nat} {a b : World} (h : Tch C a b) (hB : B ≤ a.heap.size) (hC : ∀ k, C k → B ≤ k) : Below B a b :=
  ⟨h.os, h.tape, h.output, h.size, fun k hk => h.block k (by omega) (fun c => by have := hC k c; omega)⟩
theorem Tch.alloc {C : Nat → Prop} {a w : World} (h : Tch C a w) (o : Obj) : Tch C a (w.alloc o) :=
  ⟨h.os, h.tape, h.output, Nat.le_trans h.size (by simp), fun k hk hc => (Below.heap_alloc w o k (Nat.lt_of_lt_of_le hk h.size)).trans (h.block k hk hc)⟩
theorem Tch.setCell {C : Nat → Prop} {a w : World} (h : Tch C a w) {p : Addr} (hp : C p.block ∨ a.heap.size ≤ p.block) (u : Value) : Tch C a (w.setCell p u) :=
  ⟨h.os, h.tape, h.output, Nat.le_trans h.size (by simp), fun k hk hc => (Below.heap_setCell w p u k (fun e => by
    subst e; rcases hp with hp | hp
    · exact hc hp
    · omega)).trans (h.block k hk hc)⟩
theorem Tch.setCells {C : Nat → Prop} {a : World} {b : Nat} (hp : C b ∨ a.heap.size ≤ b) : ∀ (vs : List Value) (o : Nat) {w : World}, Tch C a w → Tch C a (w.setCells b o vs)
  | [], _, _, h => h
  | v :: r, o, _, h => Tch.setCells hp r (o + 1) (h.setCell (p := ⟨b, o, none⟩) hp v)
theorem Tch.drew {C : Nat → Prop} {a w : World} (h : Tch C a w) : Tch C a w.drew := ⟨h.os, h.tape, h.output, h.size, h.block⟩
theorem Tch.drewN {C : Nat → Prop} {a w : World} (h : Tch C a w) (n : Nat) : Tch C a (w.drewN n) := ⟨h.os, h.tape, h.output, h.size, h.block⟩
theorem below_drewN {B : Nat} {a w : World} (h : Below B a w) (n : Nat) : Below B a (w.drewN n) := ⟨h.os, h.tape, h.output, h.size, h.block⟩
theorem below_drew1 {B : Nat} {a w : World} (h : Below B a w) : Below B a w.drew := ⟨h.os, h.tape, h.output, h.size, h.block⟩
theorem Tch.holds {C : Nat → Prop} {w w' : World} (h : Tch C w w') {b : Nat} {t : TypeId} {L : List Value} (hb : ¬ C b) (hl : Holds w b t L) : Holds w' b t L := hl.same (h.block b hl.lt hb)
theorem Holds.below {w w' : World} {b : Nat} {t : TypeId} {L : List Value} (h : Holds w b t L) (hb : Below w.heap.size w w') : Holds w' b t L := h.same (hb.block b h.lt)
theorem below_cells {B b : Nat} {a : World} (hb : B ≤ b) : ∀ (vs : List Value) (o : Nat) (w : World), Below B a w → Below B a (w.setCells b o vs)
  | [], _, _, h => h
  | v :: r, o, _, h => below_cells hb r (o + 1) _ (h.setCell hb v)

/-! ### Results that lie in a box -/
theorem results_c {fn : Func} {a : Tmp} {ty : TypeId} (h : fn.results = #[.cell a ty]) {tmps : Array Value} {P : Program} {w : World} {ad : Addr} {v : Value} (ha : tmps.getD a undef = .pointer (some ad)) (hv : (loadVar ty ad).run P w = .ok v w) :
    (results fn tmps).run P w = .ok v w := by
  unfold results
  rw [h]
  rw [Array.getD_eq_getD_getElem?] at ha
  simp [ha, asAddr, hv]
theorem results_ct {fn : Func} {a t : Tmp} {ty : TypeId} (h : fn.results = #[.cell a ty, .tmp t]) {tmps : Array Value} {P : Program} {w : World} {ad : Addr} {v u : Value} (ha : tmps.getD a undef = .pointer (some ad)) (hv : (loadVar ty ad).run P w = .ok v w) (hu : tmps.getD t undef = u) :
    (results fn tmps).run P w = .ok (.tuple #[v, u]) w := by
  subst hu
  unfold results
  rw [h]
  rw [Array.getD_eq_getD_getElem?] at ha
  simp [ha, asAddr, hv, Result.andThen]
theorem results_ctt {fn : Func} {a t t2 : Tmp} {ty : TypeId} (h : fn.results = #[.cell a ty, .tmp t, .tmp t2]) {tmps : Array Value} {P : Program} {w : World} {ad : Addr} {v u u2 : Value} (ha : tmps.getD a undef = .pointer (some ad)) (hv : (loadVar ty ad).run P w = .ok v w) (hu : tmps.getD t undef = u) (hu2 : tmps.getD t2 undef = u2) :
    (results fn tmps).run P w = .ok (.tuple #[v, u, u2]) w := by
  subst hu hu2
  unfold results
  rw [h]
  rw [Array.getD_eq_getD_getElem?] at ha
  simp [ha, asAddr, hv, Result.andThen]
/-- A fresh block. -/
theorem there_new (w : World) (L : List Value) (t : TypeId) (n : Nat) (hn : n = L.length) : (w.alloc (.cells L.toArray t)).there w.heap.size 0 n := fun j hj => by
  have h := Holds.new w t L
  rw [Nat.zero_add]
  exact ⟨by rw [h.cell (List.getElem?_eq_getElem (show j < L.length by omega))]; rfl, h.free j⟩
/-- What a row of stores has left. -/
theorem range_set {w : World} {b o : Nat} (L : List Value) (h : w.there b o L.length) : (w.setCells b o L).rangeAt b o L := fun j v hv => by
  have hj : j < L.length := (List.getElem?_eq_some_iff.1 hv).1
  rw [World.cell?_setCells_in b L o w (fun j hj => (h j hj).1) j hj]
  rw [List.getElem?_eq_getElem hj] at hv
  exact hv
theorem there_later {w w' : World} {b o n : Nat} (h : w.there b o n) (hb : w'.heap[b]? = w.heap[b]?) : w'.there b o n := fun j hj => by
  rw [World.cell?_of_block (a := ⟨b, o + j, none⟩) hb, World.frozen?_of_block (a := ⟨b, o + j, none⟩) hb]; exact h j hj
theorem oneL8 (d : L8) : (d.cells.toArray).all (·.oneCell') = true := by simp [L8.cells, Value.oneCell']

end Go.Proofs.YteijhcibdglkeaaGreatDoor
