/- A node: hearPutAck, fill. Conditions: those stated in each theorem. -/
import Derived.Test.YtddajnpichchfaaNodeF
namespace Go.Proofs.Ytddajnpichchfaa
open Go.RowKit Go.BigFrame Go.Sort

section
variable {w w' : World} {lo a p S : Nat} {bs : List Nat} {ways : Nat} {bv : Value} {n : Nd}

theorem delI_any (h : NodeAt w lo a p S bs ways bv n) (k : Int) (B : Nat) (hB : B < w.heap.size) (hc : w.cell? ⟨B, 0, none⟩ = some (.int .i64 k)) (hne : bv.ownBlock ≠ some B) (hg : n.gave k = true) (hl : n.backs.length < 100000) :
    Calls Try.prog 110 #[bv, .func (.func 118) #[] #[.pointer (some ⟨B, 0, none⟩)]] w fun e w' => ∃ g m cap, e = .returned (.slice (some ⟨g, 0, none⟩) m cap) ∧ w'.ownsRow lo 3 1 (.slice (some ⟨g, 0, none⟩) m cap) (n.hearPA k).backs.length ((n.hearPA k).backs.map (Value.int .i64)) ∧ Tch (fun i => bv.ownBlock = some i) w w' ∧ bv.ownBlock = some g := by
  rcases owns_form h.own with ⟨rfl, h0, hx⟩ | ⟨g, cap, rfl, hgo⟩
  · have : n.backs = [] := List.eq_nil_of_length_eq_zero h0
    simp [Nd.gave, this] at hg
  · have hgB : B ≠ g := fun e => hne (by rw [e]; rfl)
    have hcap : n.backs.toArray.size ≤ cap := by
      rcases h.own.2 with ⟨h1, _⟩ | ⟨g', cap', cur, hv, _, _, h3, _⟩
      · cases h1
      · simp only [Value.slice.injEq, Option.some.injEq, Addr.mk.injEq, and_true, true_and] at hv
        obtain ⟨_, rfl⟩ := hv
        simpa using h3
    have hcon := AnyE.slices_DeleteFunc Try.delI (Value.int .i64) (fun _ => rfl) (fun x => x == k) 118 #[.pointer (some ⟨B, 0, none⟩)] is_enters 0 Try.zeroValue3 g 0 cap n.backs.toArray w
      (is_pred k B w hB hc) (fun m os dk x _ => is_fn k B _ x (by
        unfold sortWorld
        rw [cell?_grow _ _ _ (by show B < (putRow _ _ _ _ _).heap.size; rw [size_putRow]; exact hB), cell?_putRow_other _ _ g 0 _ _ (Or.inl hgB)]
        exact hc)) (fun j hj => by
        have hj' : j < n.backs.length := by simpa using hj
        rw [Nat.zero_add, show n.backs.toArray[j]! = n.backs[j] from by rw [getElem!_pos n.backs.toArray j hj]; simp]
        exact owns_cell h.own rfl (by rw [List.getElem?_map, List.getElem?_eq_getElem hj']; rfl)) (by simp; omega) hcap
    change Calls Try.prog 110 _ _ _ at hcon
    refine hcon.mono ?_
    rintro e w' ⟨rfl, q, rfl⟩
    have hfl := List.length_filter_le (fun x => !(x == k)) n.backs
    have ho := owns_put h.own ((n.backs.filter fun x => !(x == k)) ++ List.replicate (n.backs.length - (n.backs.filter fun x => !(x == k)).length) 0) (by simp; omega) (n.backs.filter fun x => !(x == k)).length hfl #[] q
    have hT := tch_put w g q ((n.backs.filter fun x => !(x == k)) ++ List.replicate (n.backs.length - (n.backs.filter fun x => !(x == k)).length) 0).toArray #[]
    rw [grow_empty] at ho hT
    rw [List.take_left'] at ho
    · exact ⟨_, _, _, rfl, ho, hT.mono (fun i _ e => by subst e; rfl), rfl⟩
    · rfl

set_option maxRecDepth 100000 in
set_option maxHeartbeats 2000000 in
theorem hearPA_any (h : NodeAt w lo a p S bs ways bv n) (k : Int) (hg : n.gave k = true) (hl : n.backs.length < 100000) :
    Calls Try.prog 90 #[.pointer (some ⟨a, 0, none⟩), .int .i64 k] w fun e w' => ∃ v, e = .returned v ∧ NOut w lo a p S bs ways bv (n.hearPA k) [] v w' := by
  have c14 := h.c 14 rfl
  have hlt := h.head.lt
  have hbl : ∀ g, bv.ownBlock = some g → g < w.heap.size := fun g e => (owns_lt h.own e).2
  have hb1 : Below w.heap.size w (w.alloc (.cells #[.int .i64 k] 3)).drew := drew_below ((Below.refl _ w).alloc (Nat.le_refl _) _)
  have hd := h.below hb1 (Nat.le_refl _)
  have hcon := delI_any hd k w.heap.size (by show w.heap.size < (w.alloc _).heap.size; simp) (by show (w.alloc _).cell? _ = _; simp) (fun e => by have := hbl _ e; omega) hg hl
  have Hc := Lib.hid hcon
  have hc2 : (w.alloc (.cells #[.int .i64 k] 3)).drew.cell? ⟨a, 14, none⟩ = some bv := hd.c 14 rfl
  have ag : bv.ownBlock ≠ some a := fun e => by have := h.loose a e; simp at this
  have HK : Hid (∀ w3, Tch (fun i => bv.ownBlock = some i) (w.alloc (.cells #[.int .i64 k] 3)).drew w3 → (∃ v, w3.cell? ⟨a, 14, none⟩ = some v) ∧ w3.frozen? ⟨a, 14, none⟩ = false) := Lib.hid (fun w3 hT => by
    have hb := hT.holds ag hd.head
    exact ⟨⟨_, hb.cell (i := 14) rfl⟩, hb.free 14⟩)
  have HD := Lib.hid hd
  have Hb1 := Lib.hid hb1
  clear h hd hcon hb1
  go_enter Try.func90, Try.ntmps90
  go_wp2
  go_region_law (first | (go_simp; go_at_call 107; (with_reducible refine (is_any k _).mono ?_); rintro e w' ⟨rfl, rfl⟩) | (go_simp; go_at_call 110; (with_reducible refine Hc.out.mono ?_); rintro e w3 ⟨g, m, cap, rfl, ho, hT, hbo⟩; obtain ⟨⟨v14, k14⟩, f14⟩ := HK.out w3 hT))
  all_goals
    have h3 := HD.out.backs (bv' := .slice (some ⟨g, 0, none⟩) m cap) (l := (n.hearPA k).backs) hT ho (fun g' e => .inl (by rw [hbo]; exact e))
    have hT3 : Tch (Own a p bs bv) w (w3.setCell ⟨a, 14, none⟩ (.slice (some ⟨g, 0, none⟩) m cap)) := ((below_own Hb1.out).trans (hT.mono (fun _ _ e => .inr (.inr e)))).setCell (p := ⟨a, 14, none⟩) (.inl (.inl rfl)) _
    have HR : Hid (NOut w lo a p S bs ways bv (n.hearPA k) [] (.slice none 0 0) (w3.setCell ⟨a, 14, none⟩ (.slice (some ⟨g, 0, none⟩) m cap))) := Lib.hid ⟨_, outAt_none _ _ _, h3, hT3, fun g' e => .inl (by rw [hbo]; exact e)⟩
    clear h3 hT3 ho hT hbo k14 f14
    go_wp2
    go_ret
    exact ⟨_, rfl, HR.out⟩
end

end Go.Proofs.Ytddajnpichchfaa
