/- SoftPoints: parts of its code, and what they keep. Conditions: those stated in each theorem. -/
import Derived.Test.YtgdfiggloifncaaSoftPq
import Derived.Deep.CutBlock
namespace Go.Proofs.Ytgdfiggloifncaa
open Go.RowKit Go.BigFrame Go.Maps Go.ChangeMaps

theorem Try.infoPt : ∃ z : Value, z.cells.size = 1 ∧ (Try.prog.info? 23).map (fun i => (i.zero, i.size, i.bytes)) = some (some z, 1, 8) := ⟨.pointer none, rfl, by kernel_rfl⟩
theorem info_partsQ {i : Option TypeInfo} {z : Option Value} {s b : Nat} (h : i.map (fun i => (i.zero, i.size, i.bytes)) = some (z, s, b)) : ∃ j, i = some j ∧ j.zero = z ∧ j.size = s ∧ j.bytes = b := by
  cases i with
  | none => cases h
  | some j => simp at h; exact ⟨j, rfl, h.1, h.2.1, h.2.2⟩
/-- A script that came in. -/
structure RowQ where
  a : Option Addr
  cap : Nat
  xs : List OpQ
def RowQ.cells (r : RowQ) : List Value := [.slice r.a r.xs.length r.cap]
def pcell (n : Int) : List Value := [.int .u8 n]
def ptV (p : Nat) : Value := .pointer (some ⟨p, 0, none⟩)
/-- The parts beside the paths. -/
def baseP (B : Nat) (mix : List Value) (bm cm : Nat) (m : Int → Int) (bs cs : Nat) (sh : Int → Int) (ba : Nat) (ats : List Int) (v : Value) (ps : List Nat) : List Part := [boxP B 65 mix, memP bm cm m, memP bs cs sh, boxP ba 3 (ats.map (Value.int .i64)), valP 23 v (ps.map ptV)]

theorem set_id {xs : List PV} {j : Nat} {x : PV} (h : xs[j]? = some x) : xs.set j x = xs := by
  apply List.ext_getElem?
  intro k
  rw [List.getElem?_set]
  by_cases e : j = k
  · subst e
    rw [if_pos rfl, if_pos (List.getElem?_eq_some_iff.1 h).1, h]
  · rw [if_neg e]
theorem mem_turn {w0 w w' : World} {l l' : List Part} {i b c c2 : Nat} {m m2 : Int → Int} (h : Aparts w0 w l) (hi : l[i]? = some (memP b c m)) (hm : MmAt w' b c2 m2) (ht : Tch (· = b) w w') (hl : l.set i (memP b c2 m2) = l') : Aparts w0 w' l' := by
  obtain ⟨T, h1, h2⟩ := h.turn hi hl
  exact h2 _ ⟨⟨.inl h1.1, hm⟩, ht.mono (fun k _ e => by subst e; exact h1.1)⟩
theorem putL_snoc : ∀ (l : List Pr) (m : Int → Int) (q : Pr), putL m (l ++ [q]) = upd (putL m l) q.a q.v
  | [], _, _ => rfl
  | _ :: l, m, q => putL_snoc l _ q
theorem box_set {w0 w : World} {l l' : List Part} {i b : Nat} {t : TypeId} {L : List Value} (h : Aparts w0 w l) (hi : l[i]? = some (boxP b t L)) (k : Nat) (v : Value) (hl : l.set i (boxP b t (L.set k v)) = l') : Aparts w0 (w.setCell ⟨b, k, none⟩ v) l' := by
  obtain ⟨T, h1, h2⟩ := h.turn hi hl
  exact h2 _ ⟨⟨.inl h1.1, h1.2.set k v⟩, (Tch.refl T w).setCell (p := ⟨b, k, none⟩) (.inl h1.1) v⟩

/-- What stands from region n on. -/
def fromReg (n : Nat) : Code → List Code
  | .seq (.region m ops d) b => if m == n then [.seq (.region m ops d) b] else fromReg n b
  | .seq a b => fromReg n a ++ fromReg n b
  | .loop c => fromReg n c
  | .block _ c => fromReg n c
  | .scope c => fromReg n c
  | .cond _ a b => fromReg n a ++ fromReg n b
  | _ => []
noncomputable def shCode : Code := (Try.f31.body).getD .skip
noncomputable def shEnd : Code := ((fromReg 39 shCode)[0]?).getD .skip
noncomputable def shMid : Code := ((fromReg 23 shCode)[0]?).getD .skip

/-! ### Sums of ones and zeros -/
theorem sum_few (f : PV → Int) (hf : ∀ x, 0 ≤ f x ∧ f x ≤ 1) : ∀ (xs : List PV), 0 ≤ (xs.map f).sum ∧ (xs.map f).sum ≤ xs.length
  | [] => by simp
  | x :: xs => by have := sum_few f hf xs; have := hf x; simp only [List.map_cons, List.sum_cons, List.length_cons]; omega
def PV.lv (x : PV) : Int := if x.live = true then 1 else 0
theorem lv_01 (x : PV) : 0 ≤ x.lv ∧ x.lv ≤ 1 := by unfold PV.lv; split <;> decide
theorem wr_01 (x : PV) : 0 ≤ x.wr ∧ x.wr ≤ 1 := by unfold PV.wr; split <;> decide
theorem any_take (f : PV → Bool) {xs : List PV} {k : Nat} {x : PV} (h : xs[k]? = some x) : (xs.take (k + 1)).any f = ((xs.take k).any f || f x) := by
  rw [List.take_add_one, h]; simp
theorem Inv.count' {xs : List PV} {m sh : Int → Int} (h : Inv xs m sh) (hb : xs.any PV.busy = false) : m 1 = (xs.map PV.lv).sum := by
  rw [h.count (fun x hx => by simpa using List.any_eq_false.1 hb x hx)]
  rfl

end Go.Proofs.Ytgdfiggloifncaa
