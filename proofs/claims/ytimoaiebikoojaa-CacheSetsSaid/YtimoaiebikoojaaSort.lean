/- slices.SortFunc at entries: they come by rising lines. Conditions: those stated in each theorem. -/
import Derived.Test.YtimoaiebikoojaaAllReg
import Derived.Test.YtimoaiebikoojaaShelf
namespace Go.Proofs.Ytimoaiebikoojaa
open Go.RowKit Go.Shelf Go.Lib Go.Sort

instance : Inhabited Ent := ⟨Ent.zero⟩

set_option maxHeartbeats 1000000 in
theorem lineCmp (x y : Ent) (W : World) : Calls Try.prog 36 #[.agg x.cells.toArray, .agg y.cells.toArray] W fun e w' => e = .returned (.int .i64 (compareInt x.line y.line)) ∧ ∃ q os', w' = grow (W.drewN q) os' := by
  have hcon := fun W' => AnyG.cmp_Compare_int Try.cmpI x.line y.line W'
  change ∀ W', Calls Try.prog 37 _ _ _ at hcon
  obtain ⟨xl, xs, xr, xw, xd, xo, xu⟩ := x
  obtain ⟨yl, ys, yr, yw, yd, yo, yu⟩ := y
  unfold Ent.cells
  dsimp only at hcon ⊢
  generalize compareInt xl yl = r at hcon ⊢
  go_enter Try.func36, Try.ntmps36
  go_wp2_with (go_at_call 37; refine (hcon _).mono ?_; rintro e w' ⟨rfl, rfl⟩)
  go_ret
  exact ⟨rfl, 0, _, by rw [alloc_eq_grow, alloc_eq_grow, grow_grow]; rfl⟩

def cfE (x y : Ent) : Int := compareInt x.line y.line
theorem ltE (x y : Ent) : ltOf cfE x y = decide (x.line < y.line) := by
  unfold ltOf cfE compareInt
  by_cases h1 : x.line < y.line
  · simp [h1]
  · by_cases h2 : y.line < x.line <;> simp [h1, h2]
theorem swoE : SWO (ltOf cfE) where
  irrefl x := by rw [ltE]; simp
  trans x y z h1 h2 := by rw [ltE] at *; simp at *; omega
  ntrans x y z h1 h2 := by rw [ltE] at *; simp at *; omega

theorem isAggE : ∀ w, (isAgg (Try.sortE_ren.t 24)).run Try.prog w = .ok true w := fun w => by kernel_rfl
theorem sizeOfE : ∀ w, (Go.sizeOf (Try.sortE_ren.t 24)).run Try.prog w = .ok 21 w := fun w => by kernel_rfl

/-- Block g holds the entries es. -/
def Ents (w : World) (g : Nat) (es : List Ent) : Prop := ∀ i e, es[i]? = some e → ∀ k v, e.cells[k]? = some v → w.cell? ⟨g, i * 21 + k, none⟩ = some v ∧ w.frozen? ⟨g, i * 21 + k, none⟩ = false

theorem ents_holdsK {w : World} {g : Nat} {es : List Ent} (h : Ents w g es) : HoldsK Ent.cells 21 w g 0 es.toArray := by
  intro t ht
  rw [size_flatK] at ht
  simp only [List.size_toArray] at ht
  rw [get_flatK _ _ _ _ (by simpa using ht)]
  have hi : t / 21 < es.length := by omega
  have hk : t % 21 < 21 := Nat.mod_lt _ (by omega)
  have := h (t / 21) es[t / 21] (List.getElem?_eq_getElem hi) (t % 21) ((es[t / 21]).cells[t % 21]'hk) (List.getElem?_eq_getElem _)
  rw [show t / 21 * 21 + t % 21 = 0 + t from by omega] at this
  have e1 : es.toArray[t / 21]! = es[t / 21] := by simp [hi]
  have e2 : ((es[t / 21]).cells)[t % 21]! = (es[t / 21]).cells[t % 21]'hk := getElem!_pos (es[t / 21]).cells (t % 21) hk
  rw [e1, e2]
  exact this
theorem holdsK_ents {w : World} {g : Nat} {d : Array Ent} (h : HoldsK Ent.cells 21 w g 0 d) : Ents w g d.toList := by
  intro i e he k v hk
  have hi : i < d.size := by simpa using (List.getElem?_eq_some_iff.1 he).1
  have hk21 : k < 21 := (List.getElem?_eq_some_iff.1 hk).1
  have := h (i * 21 + k) (by rw [size_flatK]; omega)
  rw [get_flatK _ _ _ _ (by omega), Nat.zero_add, show (i * 21 + k) / 21 = i from by omega, show (i * 21 + k) % 21 = k from by omega] at this
  have e1 : d[i]! = e := by
    rw [getElem!_pos d i hi]; simpa [hi] using he
  have e2 : e.cells[k]! = v := (getElem!_pos e.cells k hk21).trans (List.getElem?_eq_some_iff.1 hk).2
  rw [e1, e2] at this
  exact this

theorem tch_sortWorld (w : World) (g n : Nat) (d : Array Ent) (os : Array Obj) : Tch (· = g) w (sortWorldK Ent.cells 21 w g 0 n d os) := by
  refine ⟨rfl, rfl, rfl, ?_, ?_⟩
  · simp [sortWorldK, grow, putRowK, putRow, mapBlock, Go.Sort.ahead]
  · intro k hk hc
    have hk' : k < (putRowK Ent.cells 21 (Go.Sort.ahead w n) g 0 d).heap.size := by simpa [putRowK, putRow, mapBlock, Go.Sort.ahead] using hk
    show ((putRowK Ent.cells 21 (Go.Sort.ahead w n) g 0 d).heap ++ os)[k]? = _
    rw [Array.getElem?_append_left hk']
    simp only [putRowK, putRow, mapBlock, Go.Sort.ahead]
    rw [Array.getElem?_modify, if_neg (fun e => hc e.symm)]

theorem sort_any (g cap : Nat) (es : List Ent) (w : World) (h : Ents w g es) (hg : g < w.heap.size) (hn : es.length ≤ 1000) :
    Calls Try.prog 35 #[.slice (some ⟨g, 0, none⟩) es.length cap, .func (.func 36) #[] #[]] w fun e w' =>
      e = .returned (.tuple #[]) ∧ (∃ es' : List Ent, es'.Perm es ∧ es'.Pairwise (fun a b => a.line ≤ b.line) ∧ Ents w' g es') ∧ Tch (· = g) w w' := by
  have eg : ∀ args w, (callFunc 36 args).run Try.prog w = .ok (.enter 36 args) w := enters_of Try.func36 (by kernel_rfl) rfl
  have hcon := AnyQ.slices_SortFunc Try.sortE 21 isAggE sizeOfE Ent.cells Ent.len (fun x v hv => by
    simp only [Ent.cells, List.mem_cons, List.not_mem_nil, or_false] at hv; rcases hv with rfl | rfl | rfl | rfl | rfl | rfl | rfl | rfl | rfl | rfl | rfl | rfl | rfl | rfl | rfl | rfl | rfl | rfl | rfl | rfl | rfl <;> rfl) cfE swoE 36 #[] g 0 cap es.toArray w eg
    (fun _ _ _ _ x y => lineCmp x y _) (ents_holdsK h) hg (by simp; omega)
  refine hcon.mono ?_
  rintro e w' ⟨rfl, d', n, os, hp, hs, rfl⟩
  refine ⟨rfl, ⟨d'.toList, ?_, ?_, ?_⟩, tch_sortWorld _ _ _ _ _⟩
  · have := hp.2.2
    have e1 : d'.extract 0 es.toArray.size = d' := by rw [← hp.1]; simp
    have e2 : es.toArray.extract 0 es.toArray.size = es.toArray := by simp
    rw [e1, e2] at this
    simpa using this
  · rw [List.pairwise_iff_getElem]
    intro i j hi hj hij
    have := hs i j (Nat.zero_le _) hij (by rw [← hp.1]; simpa using hj)
    rw [ltE] at this
    simp only [Array.length_toList] at hi hj
    rw [getElem!_pos d' i hi, getElem!_pos d' j hj] at this
    simp at this ⊢
    omega
  · exact holdsK_ents (holdsK_sortWorldK Ent.cells 21 w g 0 n es.toArray d' os hg (ents_holdsK h) hp.1)

end Go.Proofs.Ytimoaiebikoojaa
