/- Decode beside the document's own: the law's walk. Conditions: the bytes that came in. -/
import Derived.Test.YtlppmjbfgclkgaaDecE
import Derived.Test.YtlppmjbfgclkgaaEncF
namespace Go.Proofs.Ytlppmjbfgclkgaa
open Go.RowKit Go.BigFrame

set_option maxRecDepth 100000 in
set_option maxHeartbeats 2000000 in
theorem rdecode_few {a : Option Addr} {n cap : Nat} (w : World) (h8 : n < 8) : Calls Try.prog 5 #[.slice a n cap] w fun e w' => e = .returned (.slice none 0 0) ∧ w = w' := by
  have h81 : ¬ (0 : Int) + 8 ≤ n := by omega
  have h82 : ¬ (8 : Int) ≤ n := by omega
  go_enter Try.func5, Try.ntmps5
  go_wp2_with fail
  go_loopw [3, 4] (fun v i wr => v = .slice none 0 0 ∧ i = .int .i64 0 ∧ wr = w) (fun _ _ _ => 0)
  case atStart => exact ⟨rfl, rfl, rfl⟩
  case round =>
    obtain ⟨rfl, rfl, rfl⟩ := hrel
    go_wp2
    go_ret
    exact ⟨rfl, rfl⟩

theorem rdecode_any {a : Option Addr} {cap : Nat} {bs : List UInt8} (w : World) (hr : RowsIn w a 1 cell1 bs) (hcap : bs.length ≤ cap) (hln : bs.length ≤ 1000000) :
    Calls Try.prog 5 #[.slice a bs.length cap] w fun e w' => ∃ v, e = .returned v ∧ w'.ownsRow w.heap.size 27 5 v (decP bs).length (flatI (decP bs)) ∧ Below w.heap.size w w' := by
  by_cases h8 : bs.length < 8
  · rw [decAll_few h8]
    exact (rdecode_few w h8).mono fun e w' h => ⟨_, h.1, by rw [← h.2]; exact World.ownsRow_nil _ _ _ _, by rw [← h.2]; exact Below.refl _ _⟩
  · rcases hr with rfl | ⟨q, c, rfl, hq, hr⟩
    · simp at h8
    · exact rdecode_some w hq hr hcap hln

theorem bcells_at (bs : List UInt8) (k : Nat) : (Lib.byteCells bs)[k]? = bs[k]?.map fun x => (.int .u8 (x.toNat : Int)) := by simp [Lib.byteCells]
theorem rows_newsB {w : World} {a : Option Addr} {bs : List UInt8} (h : RowsIn w a 1 cell1 bs) (ad : Addr) (ha : a = some ad) : ∀ j u, (Lib.byteCells bs)[j]? = some u → w.cell? (ad.add j) = some u := by
  intro j u hj
  rw [bcells_at, Option.map_eq_some_iff] at hj
  obtain ⟨x, hx, rfl⟩ := hj
  obtain ⟨q, c, e, hq, hr⟩ := h.row hx
  rw [ha] at e
  cases e
  have := hr 0 _ rfl
  rw [show c + j * 1 + 0 = c + j by omega] at this
  unfold Addr.add
  split
  · rename_i h0; subst h0; exact this
  · exact this
theorem bytes_one (bs : List UInt8) : ∀ u ∈ Lib.byteCells bs, u.oneCell' = true := by
  intro u hu
  simp only [Lib.byteCells, List.mem_map] at hu
  obtain ⟨x, _, rfl⟩ := hu
  rfl
/-- The first ones of an own row of bytes. -/
theorem rowsB_own {w : World} {lo g n cap : Nat} {bs : List UInt8} {more : List Value} (h : w.ownsRow lo 5 1 (.slice (some ⟨g, 0, none⟩) n cap) n (Lib.byteCells bs ++ more)) : RowsIn w (some ⟨g, 0, none⟩) 1 cell1 bs := by
  refine .inr ⟨g, 0, rfl, (owns_lt h rfl).2, fun k x hx j v hj => ?_⟩
  have hj0 : j = 0 := by have := (List.getElem?_eq_some_iff.1 hj).1; simp [cell1] at this; exact this
  subst hj0
  rw [Nat.zero_add, Nat.mul_one, Nat.add_zero]
  refine (owns_cell h (g := g) rfl ?_).1
  have hlt : k < (Lib.byteCells bs).length := by simp [Lib.byteCells]; exact (List.getElem?_eq_some_iff.1 hx).1
  rw [List.getElem?_append_left hlt, bcells_at, hx]
  exact hj
/-- string(b) of bytes that came in. -/
theorem conv_in {V : World} {ad : Addr} {cap : Nat} {bs : List UInt8} (h : RowsIn V (some ad) 1 cell1 bs) : (convert 22 9 (.slice (some ad) bs.length cap)).run Try.prog V = .ok (.string ⟨bs.toArray⟩) V := by
  exact run_convert_bytes_back (P := Try.prog) V 22 9 5 ad cap bs Try.underlying22 Try.underlying5 Try.underlying9 (fun j hj => rows_newsB h ad rfl j _ (by rw [bcells_at, List.getElem?_eq_getElem hj]; rfl))
/-- One cell of an own row of instructions. -/
theorem flatI_set : ∀ (l : List In) (k : Nat) (x : In) (z : Int), l[k]? = some x → (flatI l).set (k * 5) (.int .i64 z) = flatI (l.set k { x with op := z })
  | [], k, x, z, h => by simp at h
  | y :: r, 0, x, z, h => by
    simp at h; subst h
    simp [flatI, In.cells]
  | y :: r, k + 1, x, z, h => by
    have := flatI_set r k x z (by simpa using h)
    unfold flatI at this ⊢
    rw [List.flatMap_cons, List.set_append_right _ _ (by simp [In.cells]; omega), List.set_cons_succ, List.flatMap_cons, ← this]
    congr 2
    simp [In.cells]; omega
theorem owns_put5 {w : World} {lo : Nat} {e : TypeId} {g n cap : Nat} {xs : List Value} (h : w.ownsRow lo e 5 (.slice (some ⟨g, 0, none⟩) n cap) n xs) (k : Nat) (u : Value) :
    (w.setCell ⟨g, k, none⟩ u).ownsRow lo e 5 (.slice (some ⟨g, 0, none⟩) n cap) n (xs.set k u) := by
  obtain ⟨h1, h2⟩ := h
  refine ⟨by rw [List.length_set]; exact h1, ?_⟩
  rcases h2 with ⟨h, _⟩ | ⟨g', cap', cur, hv, h3, h4, h5, h6, h7, h8⟩
  · cases h
  · cases hv
    refine .inr ⟨g, cap, cur.setIfInBounds k u, rfl, h3, ?_, h5, h6, by simpa using h7, ?_⟩
    · simp only [World.setCell, Array.getElem?_modify, if_true, h4, Option.map_some]
      simp
    · rw [← h8, Array.toList_setIfInBounds, List.take_set]

end Go.Proofs.Ytlppmjbfgclkgaa
