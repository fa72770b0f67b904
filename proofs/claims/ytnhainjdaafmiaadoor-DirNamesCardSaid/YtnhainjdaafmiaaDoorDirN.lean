/- The directory: a line of it in memory, with what calls on it leave; a request is begun. Conditions: those stated in each theorem. -/
import Derived.Test.YtnhainjdaafmiaaDoorDirJ
import Derived.Test.YtnhainjdaafmiaaDoorDirM
import Derived.Deep.QuietTactic
import Derived.BigQuiet
namespace Go.Proofs.YtnhainjdaafmiaaDoor
open Go.RowKit Go.BigFrame

/-! ### Cells of a line, written in a row -/
def knownL (w : World) (L o : Nat) (cs : List Value) : Prop := w.rangeAt L o cs ∧ ∀ j, w.frozen? ⟨L, o + j, none⟩ = false
theorem known.list {w : World} {L o : Nat} {k : KnV} (h : known w L o k) : knownL w L o k.cells := h
theorem knownL.known {w : World} {L o : Nat} {k : KnV} (h : knownL w L o k.cells) : known w L o k := h
theorem knownL.set {w : World} {L o : Nat} {cs : List Value} (h : knownL w L o cs) (j : Nat) (v : Value) (hj : j < cs.length) : knownL (w.setCell ⟨L, o + j, none⟩ v) L o (cs.set j v) := by
  refine ⟨fun i u hu => ?_, fun i => by rw [World.frozen?_setCell]; exact h.2 i⟩
  by_cases hij : i = j
  · subst hij
    rw [List.getElem?_set_self hj] at hu
    cases hu
    exact World.cell?_setCell_same _ _ _ (h.1 i _ (List.getElem?_eq_getElem hj))
  · rw [List.getElem?_set_ne (Ne.symm hij)] at hu
    rw [World.cell?_setCell_other _ _ _ _ (by simp only [ne_eq, Addr.mk.injEq, not_and]; omega)]
    exact h.1 i u hu
theorem knownL.sets {L o : Nat} : ∀ (vs : List Value) (j : Nat) {w : World} {cs : List Value}, j + vs.length ≤ cs.length → knownL w L o cs → knownL (w.setCells L (o + j) vs) L o (splice cs j vs)
  | [], _, _, _, _, h => h
  | v :: r, j, w, cs, hl, h => by
    simp only [List.length_cons] at hl
    have := knownL.sets r (j + 1) (by rw [List.length_set]; omega) (h.set j v (by omega))
    exact this
theorem Only.sets {C : Nat → Prop} {L o : Nat} {a : World} : ∀ (vs : List Value) (j : Nat) {w : World}, j + vs.length ≤ 16 → Only C L o a w → Only C L o a (w.setCells L (o + j) vs)
  | [], _, _, _, h => h
  | v :: r, j, w, hl, h => by
    simp only [List.length_cons] at hl
    have := Only.sets r (j + 1) (by omega) (h.set j (by omega) v)
    exact this
theorem known.there {w : World} {L o : Nat} {k : KnV} (h : known w L o k) : w.there L (o + 2) 11 := fun j hj => by
  have hc := h.1 (2 + j) (k.cells[2 + j]'(by rw [KnV.len]; omega)) (List.getElem?_eq_getElem _)
  rw [← Nat.add_assoc] at hc
  refine ⟨by rw [hc]; rfl, by have := h.2 (2 + j); rwa [← Nat.add_assoc] at this⟩

/-! ### A line of a directory -/
def CB (b : Nat) (wv : Value) (j : Nat) : Prop := j = b ∨ wv.ownBlock = some j
structure DK (w : World) (lo p m b L o n : Nat) (xs : List Int) (l : LV) (wv : Value) : Prop where
  hp : w.cell? ⟨p, 0, none⟩ = some (.pointer (some ⟨m, 0, none⟩))
  mem : MemAt w m b n xs
  kn : known w L o (l.kn wv)
  tab : TabAt w
  wait : w.ownsRow lo 45 11 wv l.ms.length (l.ms.flatMap MsgV.cells)
  bL : b ≠ L
  mL : m ≠ L
  pL : p ≠ L
  pb : p ≠ b
  mb : m ≠ b
  gl : 1 < w.heap.size
  gL : 1 ≠ L
  gb : 1 ≠ b
  out : ∀ g, wv.ownBlock = some g → g ≠ p ∧ g ≠ m ∧ g ≠ b ∧ g ≠ L ∧ g ≠ 1
  lo_le : lo ≤ w.heap.size

theorem TabAt.block {w w' : World} (h : TabAt w) (hb : w'.heap[1]? = w.heap[1]?) : TabAt w' :=
  ⟨(World.cell?_of_block (a := ⟨1, 0, none⟩) hb).trans h.t0, (World.cell?_of_block (a := ⟨1, 1, none⟩) hb).trans h.t1, (World.cell?_of_block (a := ⟨1, 3, none⟩) hb).trans h.t3, (World.cell?_of_block (a := ⟨1, 7, none⟩) hb).trans h.t7⟩
theorem MemAt.same {w w' : World} {m b n : Nat} {xs : List Int} (h : MemAt w m b n xs) (hm : w'.heap[m]? = w.heap[m]?) (hb : w'.heap[b]? = w.heap[b]?) : MemAt w' m b n xs :=
  ⟨by rw [World.cell?_of_block (a := ⟨m, 0, none⟩) hm]; exact h.head, h.apart, h.len, by rw [hb]; exact h.row⟩

section
variable {w w' : World} {lo p m b L o n : Nat} {xs : List Int} {l l' : LV} {wv : Value}
/-- Behind a step that turned but the line. -/
theorem DK.step (h : DK w lo p m b L o n xs l wv) (hk : known w' L o (l'.kn wv)) (ho : Only (fun _ => False) L o w w') (hm : l'.ms = l.ms) : DK w' lo p m b L o n xs l' wv := by
  have hb : ∀ k, k < w.heap.size → k ≠ L → w'.heap[k]? = w.heap[k]? := fun k hk hL => ho.tch.block k hk (by rintro (h | h); exact h; exact hL h)
  have hml := World.block_lt_of_cell? _ _ h.mem.head
  have hbl := lt_of_block h.mem.row
  have hpl := World.block_lt_of_cell? _ _ h.hp
  refine ⟨by rw [World.cell?_of_block (a := ⟨p, 0, none⟩) (hb p hpl h.pL)]; exact h.hp, h.mem.same (hb m hml h.mL) (hb b hbl h.bL), hk, h.tab.block (hb _ h.gl h.gL), ?_, h.bL, h.mL, h.pL, h.pb, h.mb, Nat.lt_of_lt_of_le h.gl ho.tch.size, h.gL, h.gb, h.out, Nat.le_trans h.lo_le ho.tch.size⟩
  rw [hm]
  exact owns_same h.wait (fun g hg => hb g (owns_lt h.wait hg).2 (h.out g hg).2.2.2.1)
theorem DK.below (h : DK w lo p m b L o n xs l wv) (hb : Below w.heap.size w w') : DK w' lo p m b L o n xs l wv := h.step (h.kn.below hb (Nat.le_refl _)) (Only.of_below hb) rfl
theorem DK.lt (h : DK w lo p m b L o n xs l wv) : L < w.heap.size := World.block_lt_of_cell? _ _ h.kn.c0
end

/-- What a call on a line leaves. -/
def DPost (w : World) (lo p m b L o n : Nat) (wv : Value) (xs : List Int) (l : LV) (ms : List MsgV) (v : Value) (w' : World) : Prop :=
  ∃ wv', DOut w.heap.size w' v ms ∧ DK w' lo p m b L o n xs l wv' ∧ Only (CB b wv) L o w w' ∧ ∀ g, wv'.ownBlock = some g → wv.ownBlock = some g ∨ w.heap.size ≤ g

section
variable {w w' : World} {lo p m b L o n : Nat} {xs : List Int} {l l' : LV} {wv v : Value} {ms : List MsgV}
theorem DPost.of (h : DK w' lo p m b L o n xs l wv) (hv : DOut w.heap.size w' v ms) (ho : Only (fun _ => False) L o w w') : DPost w lo p m b L o n wv xs l ms v w' :=
  ⟨wv, hv, h, ho.mono (fun _ h => h.elim), fun _ h => .inl h⟩
/-- Behind steps that turned but the line. -/
theorem DPost.after {w1 : World} (ho : Only (fun _ => False) L o w w1) (h : DPost w1 lo p m b L o n wv xs l ms v w') : DPost w lo p m b L o n wv xs l ms v w' := by
  obtain ⟨wv', h1, h2, h3, h4⟩ := h
  exact ⟨wv', owns_mono h1 (fun g hg => Nat.le_trans ho.tch.size (owns_lt h1 hg).1), h2, (ho.mono (fun _ h => h.elim)).trans h3, fun g hg => (h4 g hg).imp_right (fun hl => Nat.le_trans ho.tch.size hl)⟩

theorem grant_any (h : DK w lo p m b L o n xs l wv) {i : Nat} (hw : LWf i l) (hu : ReqOk i l.under) (hi : i < n) (d : L8) (hd : lineD xs i = d) :
    Calls Tryd.prog 61 #[.pointer (some ⟨p, 0, none⟩), .pointer (some ⟨L, o, none⟩)] w fun e w' => e = .returned (.agg (l.grant d).2.cells.toArray) ∧ known w' L o ((l.grant d).1.kn wv) ∧ Only (fun _ => False) L o w w' := by
  have c0 := hu.core0
  have c4 := hu.core4
  obtain ⟨c, hc⟩ : ∃ c : Nat, l.under.core = c := ⟨l.under.core.toNat, by omega⟩
  unfold LV.grant
  by_cases hk : l.under.kind = 1
  · rw [if_pos hk]
    refine (grant_s p m b L o n i c xs (l.kn wv) d w h.hp h.mem h.kn h.bL h.mL h.pL hc (by omega) hw.sh hu.line hi hk hd).mono ?_
    rintro e w' ⟨rfl, h1, h2⟩
    refine ⟨by rw [hc, hu.line], ?_, h2⟩
    rw [hc]; exact h1
  · rw [if_neg hk]
    refine (grant_m p m b L o n i c xs (l.kn wv) d w h.hp h.mem h.kn h.bL h.mL h.pL hc hu.line hi (by simp only [LV.kn]; simpa using hk) hd).mono ?_
    rintro e w' ⟨rfl, h1, h2⟩
    refine ⟨by rw [hc, hu.line], ?_, h2⟩
    rw [hc]; exact h1
end

end Go.Proofs.YtnhainjdaafmiaaDoor
