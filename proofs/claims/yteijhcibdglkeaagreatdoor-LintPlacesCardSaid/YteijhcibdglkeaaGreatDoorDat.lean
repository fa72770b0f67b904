/- Plain data that came in: which cells a struct, an array or a slice of them has, and of what kinds. No conditions. -/
import Derived.Test.YteijhcibdglkeaaGreatDoorRows
import Derived.WalkKit
import Derived.ProofKit
import Derived.OpenShut
import Derived.Deep.Slices
import Derived.Lib.Hide
namespace Go.Proofs.YteijhcibdglkeaaGreatDoor
open Go.ChangeShapes Go.WideShapes Go.ChangeAt Go.RowKit Go.Deep

/-- A cell's kind. -/
structure CK where
  tag : Nat
  k : IntKind

def CK.fits (c : CK) (v : Value) : Prop :=
  match c.tag with
  | 0 => ∃ n, v = .int c.k n ∧ (Lit.int c.k n).wf = true
  | 1 => ∃ b, v = .bool b
  | _ => ∃ s : ByteArray, v = .string s ∧ s.size ≤ maxLen

/-- The kinds of a struct's cells, one field behind the other. -/
def kindsF (rec : TypeId → Option (List CK)) : Nat → List Field → Option (List CK)
  | _, [] => some []
  | off, f :: fs => if f.offset = off then (rec f.type).bind fun ks => (kindsF rec (off + ks.length) fs).map (ks ++ ·) else none

/-- The kinds of a type's cells. -/
def kinds (P : Program) : Nat → TypeId → Option (List CK)
  | 0, _ => none
  | d + 1, t =>
    let r : Option (List CK) := match P.underlying t with
      | some (.int k) => some [⟨0, k⟩]
      | some .bool => some [⟨1, .i8⟩]
      | some .string => some [⟨2, .i8⟩]
      | some (.struct fs) => kindsF (kinds P d) 0 fs.toList
      | some (.array n e) => (kinds P d e).bind fun ks => some (List.replicate n ks).flatten
      | _ => none
    r.bind fun ks => if ks.length = P.cellsOf t then some ks else none

def Fit (ks : List CK) (cs : List Value) : Prop := ks.length = cs.length ∧ ∀ (i : Nat) (k : CK) (v : Value), ks[i]? = some k → cs[i]? = some v → k.fits v

theorem Fit.nil : Fit [] [] := ⟨rfl, by simp⟩

theorem Fit.app {a b : List CK} {x y : List Value} (h : Fit a x) (g : Fit b y) : Fit (a ++ b) (x ++ y) := by
  refine ⟨by simp [h.1, g.1], fun i k v hk hv => ?_⟩
  by_cases hi : i < a.length
  · rw [List.getElem?_append_left hi] at hk
    rw [List.getElem?_append_left (by rw [← h.1]; exact hi)] at hv
    exact h.2 i k v hk hv
  · rw [List.getElem?_append_right (by omega)] at hk
    rw [List.getElem?_append_right (by rw [← h.1]; omega)] at hv
    rw [h.1] at hk
    exact g.2 _ k v hk hv

theorem Fit.one {c : CK} {v : Value} (h : c.fits v) : Fit [c] [v] :=
  ⟨rfl, fun i k u hk hu => by
    match i with
    | 0 => simp at hk hu; subst hk; subst hu; exact h
    | i + 1 => simp at hk⟩

section
variable {H : Type} {enc : TypeId × Value → H} {P : Program} {w : World} {base : Nat} {spare : Nat → Bool} {held : Bool}

theorem fit_fields (d m : Nat) (cs : List Value) (ih : ∀ (m : Nat) (t : TypeId) (ks : List CK) (cs : List Value) (x : DataW H × List MemPlace), kinds P d t = some ks → DataW.trod enc P w base spare held m t cs = some x → Fit ks cs) :
    ∀ (fs : List Field) (off : Nat) (ks : List CK), kindsF (kinds P d) off fs = some ks → (∀ f ∈ fs, ∃ x, DataW.trod enc P w base spare held m f.type ((cs.drop f.offset).take (P.cellsOf f.type)) = some x) →
      Fit ks ((cs.drop off).take ks.length)
  | [], off, ks, h, _ => by simp [kindsF] at h; subst h; simpa using Fit.nil
  | f :: fs, off, ks, h, hf => by
    simp only [kindsF] at h
    split at h
    · rename_i ho
      rw [Option.bind_eq_some_iff] at h
      obtain ⟨k1, h1, h2⟩ := h
      rw [Option.map_eq_some_iff] at h2
      obtain ⟨k2, h2, rfl⟩ := h2
      obtain ⟨x, hx⟩ := hf f (by simp)
      have g1 := ih m _ _ _ _ h1 hx
      have g2 := fit_fields d m cs ih fs _ _ h2 (fun g hg => hf g (by simp [hg]))
      have hc : P.cellsOf f.type = k1.length ∨ (cs.drop f.offset).length < P.cellsOf f.type := by
        have := g1.1
        rw [List.length_take] at this
        omega
      have e1 : (cs.drop f.offset).take (P.cellsOf f.type) = (cs.drop off).take k1.length := by
        rw [ho] at g1 hc ⊢
        rcases hc with hc | hc
        · rw [hc]
        · have := g1.1
          rw [List.take_of_length_le (by omega)] at this ⊢
          rw [List.take_of_length_le (by omega)]
      rw [e1] at g1
      have e2 : (cs.drop off).take (k1 ++ k2).length = (cs.drop off).take k1.length ++ (cs.drop (off + k1.length)).take k2.length := by
        rw [List.length_append, List.take_add, List.drop_drop]
      rw [e2]
      exact g1.app g2
    · cases h

theorem fit_rows (cs : List Value) (ks : List CK) (c : Nat) (hc : ks.length = c) : ∀ (n : Nat), (∀ i, i < n → Fit ks ((cs.drop (i * c)).take c)) → Fit (List.replicate n ks).flatten (cs.take (n * c))
  | 0, _ => by simpa using Fit.nil
  | n + 1, h => by
    have g1 := fit_rows cs ks c hc n (fun i hi => h i (by omega))
    have g2 := h n (by omega)
    rw [List.replicate_succ', List.flatten_append, List.flatten_singleton, Nat.add_mul, Nat.one_mul, List.take_add]
    exact g1.app g2

theorem fit_of_trod (d : Nat) : ∀ (m : Nat) (t : TypeId) (ks : List CK) (cs : List Value) (x : DataW H × List MemPlace), kinds P d t = some ks → DataW.trod enc P w base spare held m t cs = some x → Fit ks cs := by
  induction d with
  | zero => intro m t ks cs x h; simp [kinds] at h
  | succ d ih =>
    intro m t ks cs x h hx
    simp only [kinds] at h
    rw [Option.bind_eq_some_iff] at h
    obtain ⟨k0, h0, h1⟩ := h
    split at h1
    · rename_i hl
      simp only [Option.some.injEq] at h1
      subst h1
      split at h0
      · rename_i k hu
        obtain ⟨n, rfl, _, hw⟩ := DataW.trod_int hu hx
        simp only [Option.some.injEq] at h0; subst h0
        exact Fit.one ⟨n, rfl, hw⟩
      · rename_i hu
        obtain ⟨b, rfl, _⟩ := DataW.trod_bool hu hx
        simp only [Option.some.injEq] at h0; subst h0
        exact Fit.one ⟨b, rfl⟩
      · rename_i hu
        obtain ⟨s, rfl, _, hs⟩ := DataW.trod_string hu hx
        simp only [Option.some.injEq] at h0; subst h0
        exact Fit.one ⟨s, rfl, hs⟩
      · rename_i fs hu
        obtain ⟨xs, n, _, _, hlen, hxs, hf⟩ := DataW.trod_struct hu hx
        have := fit_fields d n cs ih fs.toList 0 k0 h0 (fun f hfm => by
          obtain ⟨i, hi, he⟩ := List.mem_iff_getElem.1 hfm
          have hi' : i < fs.size := by simpa using hi
          have e1 := hf i f (by rw [Array.getElem?_eq_getElem hi']; simpa using he)
          rw [List.getElem?_eq_getElem (by omega)] at e1
          exact ⟨_, e1⟩)
        rw [List.drop_zero, List.take_of_length_le (by omega)] at this
        exact this
      · rename_i n e hu
        obtain ⟨xs, j, _, _, hlen, hxs, hf⟩ := DataW.trod_array hu hx
        rw [Option.bind_eq_some_iff] at h0
        obtain ⟨k1, hk1, h0⟩ := h0
        simp only [Option.some.injEq] at h0
        subst h0
        have hi : ∀ i, i < n → Fit k1 ((cs.drop (i * P.cellsOf e)).take (P.cellsOf e)) := fun i hi => by
          have e1 := hf i hi
          rw [List.getElem?_eq_getElem (by omega)] at e1
          exact ih j _ _ _ _ hk1 e1
        have hk2 : k1.length = P.cellsOf e := by
          cases d with
          | zero => simp [kinds] at hk1
          | succ d =>
            simp only [kinds] at hk1
            rw [Option.bind_eq_some_iff] at hk1
            obtain ⟨k9, _, h9⟩ := hk1
            split at h9
            · simp only [Option.some.injEq] at h9; subst h9; assumption
            · cases h9
        have := fit_rows cs k1 _ hk2 n hi
        rw [List.take_of_length_le] at this
        · exact this
        · rw [hlen, ← hl]; simp [hk2]
      · cases h0
    · cases h1

/-- A slice of plain things that came in: each cell of each element is there, and is of its kind. -/
theorem open_plain {t e : TypeId} {ks : List CK} {d fuel : Nat} {a : Option Addr} {len cap : Nat} {x : DataW H × List MemPlace} (ht : P.underlying t = some (.slice e)) (hk : kinds P d e = some ks) (hc : P.cellsOf e = ks.length)
    (h : DataW.trod enc P w base spare held fuel t [.slice a len cap] = some x) :
    len ≤ maxLen ∧ ∀ i, i < len → ∀ j c, ks[j]? = some c → ∃ b, a = some b ∧ ∃ v, w.cell? (b.add (i * ks.length + j)) = some v ∧ c.fits v := by
  rcases open_slice ht h with ⟨h0, _⟩ | ⟨b, l, c, m, n, D, Pl, hcs, _, hl, hm, hmm, _, hi⟩
  · simp only [List.cons.injEq, Value.slice.injEq, and_true] at h0
    obtain ⟨rfl, rfl, rfl⟩ := h0
    exact ⟨by unfold maxLen; omega, fun i hi => by omega⟩
  · simp only [List.cons.injEq, Value.slice.injEq, and_true] at hcs
    obtain ⟨rfl, rfl, rfl⟩ := hcs
    refine ⟨Nat.le_trans hl hm, fun i hi0 j k hj => ⟨b, rfl, ?_⟩⟩
    obtain ⟨cs', h1, h2⟩ := hi i (by rw [hmm]; split <;> omega)
    obtain ⟨_, h3, h4⟩ := World.cells?_some h1
    have hf := fit_of_trod d _ _ _ _ _ hk h2
    have hjl : j < ks.length := (List.getElem?_eq_some_iff.1 hj).1
    have h5 := h4 j (by omega)
    have h6 : cs'[j]? = some (cs'[j]'(by have := hf.1; omega)) := List.getElem?_eq_getElem _
    have h7 : w.cell? (b.add (i * ks.length + j)) = cs'[j]? := by rw [← hc, ← add_add]; exact h5
    exact ⟨_, h7.trans h6, hf.2 j k _ hj h6⟩

theorem i64_le {n : Int} (h : (Lit.int .i64 n).wf = true) : -9223372036854775808 ≤ n ∧ n ≤ 9223372036854775807 := by
  simp [Lit.wf, IntKind.min, IntKind.max, IntKind.signed, IntKind.bits] at h
  omega

theorem u64_le {n : Int} (h : (Lit.int .u64 n).wf = true) : 0 ≤ n ∧ n ≤ 18446744073709551615 := by
  simp [Lit.wf, IntKind.min, IntKind.max, IntKind.signed, IntKind.bits] at h
  omega

theorem okWide_arr {P : Program} {w : World} {r : Reach} {base : Nat} {t : TypeId} {v : Value} {n : Nat} {e : TypeId} (ht : P.underlying t = some (.array n e)) (h : Value.okWide P w r base t v) : ∃ cs, v = .agg cs ∧ cs.size = P.cellsOf t := by
  simp only [Value.okWide, ht] at h
  obtain ⟨cs, h1, h2, _⟩ := h
  exact ⟨cs, h1, h2⟩

/-- An address at which a cell lies has no spot. -/
theorem spot_of_cell {w : World} {a : Addr} {v : Value} (h : w.cell? a = some v) : a.spot = none := by
  unfold World.cell? at h
  split at h
  · split at h
    · cases h
    · rename_i hs; simpa using hs
  · cases h

theorem spot_of_add {w : World} {b o : Nat} {s : Option Nat} {n : Nat} {v : Value} (h : w.cell? ((⟨b, o, s⟩ : Addr).add n) = some v) : w.cell? ⟨b, o + n, none⟩ = some v := by
  unfold Addr.add at h
  split at h
  · rename_i hn
    have := spot_of_cell h
    simp only at this
    subst hn; subst this; exact h
  · exact h
end
end Go.Proofs.YteijhcibdglkeaaGreatDoor
