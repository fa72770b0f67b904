/- A message; rows that the call owns. Conditions: those stated in each theorem. -/
import Derived.Test.YtnhainjdaafmiaaDoorBase
namespace Go.Proofs.YtnhainjdaafmiaaDoor
open Go.RowKit

/-- A message. -/
structure MsgV where
  kind : Int
  core : Int
  line : Int
  data : L8
deriving DecidableEq
def MsgV.zero : MsgV := ⟨0, 0, 0, L8.zero⟩
def MsgV.cells (m : MsgV) : List Value := [.int .i64 m.kind, .int .i64 m.core, .int .i64 m.line, .int .u64 m.data.x0, .int .u64 m.data.x1, .int .u64 m.data.x2, .int .u64 m.data.x3, .int .u64 m.data.x4, .int .u64 m.data.x5, .int .u64 m.data.x6, .int .u64 m.data.x7]
theorem MsgV.len (m : MsgV) : m.cells.length = 11 := rfl
theorem oneMsg (m : MsgV) : (m.cells.toArray).all (·.oneCell') = true := by simp [MsgV.cells, Value.oneCell']
theorem oneL8 (d : L8) : (d.cells.toArray).all (·.oneCell') = true := by simp [L8.cells, Value.oneCell']
theorem owns_same {w w' : World} {lo : Nat} {e : TypeId} {size : Nat} {v : Value} {n : Nat} {xs : List Value} (h : w.ownsRow lo e size v n xs) (hb : ∀ g, v.ownBlock = some g → w'.heap[g]? = w.heap[g]?) : w'.ownsRow lo e size v n xs := by
  refine ⟨h.1, ?_⟩
  rcases h.2 with hn | ⟨g, cap, cur, hv, h1, hg, rest⟩
  · exact .inl hn
  · exact .inr ⟨g, cap, cur, hv, h1, (hb g (by subst hv; rfl)).trans hg, rest⟩
theorem owns_lt {w : World} {lo : Nat} {e : TypeId} {size : Nat} {v : Value} {n : Nat} {xs : List Value} (h : w.ownsRow lo e size v n xs) {g : Nat} (hg : v.ownBlock = some g) : lo ≤ g ∧ g < w.heap.size := by
  rcases h.2 with ⟨rfl, _⟩ | ⟨g', cap, cur, rfl, h1, h2, _⟩
  · cases hg
  · cases hg; exact ⟨h1, (Array.getElem?_eq_some_iff.1 h2).1⟩
theorem owns_mono {w : World} {lo lo' : Nat} {e : TypeId} {size : Nat} {v : Value} {n : Nat} {xs : List Value} (h : w.ownsRow lo e size v n xs) (hl : ∀ g, v.ownBlock = some g → lo' ≤ g) : w.ownsRow lo' e size v n xs := by
  refine ⟨h.1, ?_⟩
  rcases h.2 with hn | ⟨g, cap, cur, rfl, h1, rest⟩
  · exact .inl hn
  · exact .inr ⟨g, cap, cur, rfl, hl g rfl, rest⟩
theorem owns_cell {w : World} {lo : Nat} {e : TypeId} {size : Nat} {v : Value} {n : Nat} {xs : List Value} (h : w.ownsRow lo e size v n xs) {g : Nat} (hg : v.ownBlock = some g) {j : Nat} {u : Value} (hj : xs[j]? = some u) : w.cell? ⟨g, j, none⟩ = some u ∧ w.frozen? ⟨g, j, none⟩ = false := by
  rcases h.2 with ⟨rfl, _⟩ | ⟨g', cap, cur, rfl, h1, h2, _, _, _, hx⟩
  · cases hg
  · cases hg
    rw [← hx, List.getElem?_take] at hj
    split at hj
    · have hj' : cur[j]? = some u := by simpa using hj
      exact ⟨by simp [World.cell?, h2, hj'], by simp [World.frozen?, h2]⟩
    · cases hj
theorem owns_form {w : World} {lo : Nat} {e : TypeId} {size : Nat} {v : Value} {n : Nat} {xs : List Value} (h : w.ownsRow lo e size v n xs) : (v = .slice none 0 0 ∧ n = 0 ∧ xs = []) ∨ ∃ g cap, v = .slice (some ⟨g, 0, none⟩) n cap ∧ v.ownBlock = some g := by
  rcases h.2 with ⟨rfl, h0⟩ | ⟨g', cap, cur, rfl, _⟩
  · refine .inl ⟨rfl, h0, ?_⟩
    have := h.1
    rw [h0, Nat.zero_mul] at this
    exact List.eq_nil_of_length_eq_zero this
  · exact .inr ⟨g', cap, rfl, rfl⟩
theorem owns_new (w : World) (e : TypeId) (size : Nat) (xs : List Value) (hl : xs.length = 1 * size) : (w.alloc (.cells xs.toArray e)).ownsRow w.heap.size e size (.slice (some ⟨w.heap.size, 0, none⟩) 1 1) 1 xs :=
  ⟨hl, .inr ⟨w.heap.size, 1, xs.toArray, rfl, Nat.le_refl _, World.alloc_heap_new w _, Nat.le_refl _, by decide, by simpa using hl, by rw [← hl]; simp⟩⟩
theorem drew_below {B : Nat} {a w : World} (h : Below B a w) : Below B a w.drew := ⟨h.os, h.tape, h.output, h.size, h.block⟩

/-! ### Blocks, results -/
theorem results_c {fn : Func} {a : Tmp} {ty : TypeId} (h : fn.results = #[.cell a ty]) {tmps : Array Value} {P : Program} {w : World} {ad : Addr} {v : Value} (ha : tmps.getD a undef = .pointer (some ad)) (hv : (loadVar ty ad).run P w = .ok v w) :
    (results fn tmps).run P w = .ok v w := by
  unfold results
  rw [h]
  rw [Array.getD_eq_getD_getElem?] at ha
  simp [ha, asAddr, hv]
theorem results_ct {fn : Func} {a t : Tmp} {ty : TypeId} (h : fn.results = #[.cell a ty, .tmp t]) {tmps : Array Value} {P : Program} {w : World} {ad : Addr} {v u : Value} (ha : tmps.getD a undef = .pointer (some ad)) (hv : (loadVar ty ad).run P w = .ok v w) (hu : tmps.getD t undef = u) :
    (results fn tmps).run P w = .ok (.tuple #[v, u]) w := by
  subst hu
  unfold results
  rw [h]
  rw [Array.getD_eq_getD_getElem?] at ha
  simp [ha, asAddr, hv, Result.andThen]
theorem results_ctt {fn : Func} {a t t2 : Tmp} {ty : TypeId} (h : fn.results = #[.cell a ty, .tmp t, .tmp t2]) {tmps : Array Value} {P : Program} {w : World} {ad : Addr} {v u u2 : Value} (ha : tmps.getD a undef = .pointer (some ad)) (hv : (loadVar ty ad).run P w = .ok v w) (hu : tmps.getD t undef = u) (hu2 : tmps.getD t2 undef = u2) :
    (results fn tmps).run P w = .ok (.tuple #[v, u, u2]) w := by
  subst hu hu2
  unfold results
  rw [h]
  rw [Array.getD_eq_getD_getElem?] at ha
  simp [ha, asAddr, hv, Result.andThen]
/-- A fresh block of an entry. -/
theorem there_new (w : World) (L : List Value) (t : TypeId) (n : Nat) (hn : n = L.length) : (w.alloc (.cells L.toArray t)).there w.heap.size 0 n := fun j hj => by
  have h := Holds.new w t L
  rw [Nat.zero_add]
  exact ⟨by rw [h.cell (List.getElem?_eq_getElem (show j < L.length by omega))]; rfl, h.free j⟩
/-- What a row of stores has left. -/
theorem range_set {w : World} {b o : Nat} (L : List Value) (h : w.there b o L.length) : (w.setCells b o L).rangeAt b o L := fun j v hv => by
  have hj : j < L.length := (List.getElem?_eq_some_iff.1 hv).1
  rw [World.cell?_setCells_in b L o w (fun j hj => (h j hj).1) j hj]
  rw [List.getElem?_eq_getElem hj] at hv
  exact hv
theorem there_set {w : World} {b o n : Nat} (h : w.there b o n) (p : Addr) (v : Value) : (w.setCell p v).there b o n := fun i hi => by
  refine ⟨?_, by rw [World.frozen?_setCell]; exact (h i hi).2⟩
  by_cases e : p = ⟨b, o + i, none⟩
  · subst e
    obtain ⟨u, hu⟩ := Option.isSome_iff_exists.1 (h i hi).1
    rw [World.cell?_setCell_same _ _ _ hu]; rfl
  · rw [World.cell?_setCell_other _ _ _ _ e]; exact (h i hi).1
theorem there_later {w w' : World} {b o n : Nat} (h : w.there b o n) (hb : w'.heap[b]? = w.heap[b]?) : w'.there b o n := fun j hj => by
  rw [World.cell?_of_block (a := ⟨b, o + j, none⟩) hb, World.frozen?_of_block (a := ⟨b, o + j, none⟩) hb]; exact h j hj
theorem there_setCells {b' : Nat} : ∀ (vs : List Value) (o' : Nat) {w : World} {b o n : Nat}, w.there b o n → (w.setCells b' o' vs).there b o n
  | [], _, _, _, _, _, h => h
  | v :: r, o', _, _, _, _, h => there_setCells r (o' + 1) (there_set h ⟨b', o', none⟩ v)
theorem below_setCells {B : Nat} {a : World} {b : Nat} (hp : B ≤ b) : ∀ (vs : List Value) (o : Nat) {w : World}, Below B a w → Below B a (w.setCells b o vs)
  | [], _, _, h => h
  | v :: r, o, _, h => below_setCells hp r (o + 1) (h.setCell (p := ⟨b, o, none⟩) hp v)
theorem oneCells (d : L8) : (d.cells.toArray).all (·.oneCell') = true := by simp [L8.cells, Value.oneCell']
theorem Tryd.size52 : (Tryd.prog.info? 45).map (·.size) = some 11 := by kernel_rfl
theorem Tryd.load52 {w : World} {b : Nat} (e : MsgV) (h : w.rangeAt b 0 e.cells) : (loadVar 45 ⟨b, 0, none⟩).run Tryd.prog w = .ok (.agg e.cells.toArray) w :=
  run_loadVar_mid w b 0 45 e.cells _ h Tryd.underlying45 rfl Tryd.size52
theorem mbox (w : World) (e : MsgV) : ∃ W, W = (w.alloc (.cells MsgV.zero.cells.toArray 45)).setCells w.heap.size 0 e.cells ∧ Below w.heap.size w W ∧ (w.alloc (.cells MsgV.zero.cells.toArray 45)).there w.heap.size 0 11 ∧ W.rangeAt w.heap.size 0 e.cells ∧ w.heap.size < W.heap.size := by
  have hn := there_new w MsgV.zero.cells 45 11 rfl
  have hT : Tch (· = w.heap.size) (w.alloc (.cells MsgV.zero.cells.toArray 45)) ((w.alloc (.cells MsgV.zero.cells.toArray 45)).setCells w.heap.size 0 e.cells) := Tch.setCells (C := (· = w.heap.size)) (.inl rfl) _ _ (Tch.refl _ _)
  have hs := hT.size
  rw [World.size_alloc] at hs
  exact ⟨_, rfl, below_setCells (Nat.le_refl _) _ _ ((Below.refl _ w).alloc (Nat.le_refl _) _), hn, range_set e.cells (by rw [MsgV.len]; exact hn), by omega⟩

end Go.Proofs.YtnhainjdaafmiaaDoor
