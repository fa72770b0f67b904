/- The document's Same; rows of instructions; a row of bytes as a string. Conditions: those stated in each theorem. -/
import Derived.Test.YtndmlnoddnaafaaDoorAsmK
import Derived.Test.YtndmlnoddnaafaaDoorCame
import Derived.Laws.IdiomStrings
import Derived.Laws.BytesArg
namespace Go.Proofs.YtndmlnoddnaafaaDoor
open Go.RowKit Go.BigFrame Go.Maps

attribute [local go_sem ↓ high] same_inv
theorem flatA_at : ∀ (l : List In) (k : Nat) (x : In), l[k]? = some x → ∀ (j : Nat) (v : Value), x.cells[j]? = some v → (flatA l)[k * 5 + j]? = some v
  | [], k, x, h, _, _, _ => by simp at h
  | y :: r, 0, x, h, j, v, hj => by
    simp at h; subst h
    have hlt : j < y.cells.length := (List.getElem?_eq_some_iff.1 hj).1
    unfold flatA
    rw [List.flatMap_cons, Nat.zero_mul, Nat.zero_add, List.getElem?_append_left hlt]; exact hj
  | y :: r, k + 1, x, h, j, v, hj => by
    have := flatA_at r k x (by simpa using h) j v hj
    unfold flatA at this ⊢
    rw [List.flatMap_cons, List.getElem?_append_right (by simp [In.cells]; omega)]
    rw [← this]; congr 1; simp [In.cells]; omega
theorem rows_all {w : World} {lo n cap : Nat} {ad : Option Addr} {l : List In} (h : w.ownsRow lo 44 5 (.slice ad cap n) l.length (flatA l)) : RowsIn w ad 5 In.cells l := by
  rcases owns_form h with ⟨_, h0, _⟩ | ⟨g, cap', e, _⟩
  · exact .inl (List.eq_nil_of_length_eq_zero h0)
  · cases e
    refine .inr ⟨g, 0, rfl, (owns_lt h rfl).2, fun k x hx j v hj => ?_⟩
    rw [Nat.zero_add]
    exact (owns_cell h (g := g) rfl (flatA_at l k x hx j v hj)).1

set_option maxRecDepth 100000 in
set_option maxHeartbeats 1000000 in
theorem same_yes (a b : Option Addr) (ca cb : Nat) (l : List In) (w : World) (ha : RowsIn w a 5 In.cells l) (hb : RowsIn w b 5 In.cells l) (hl : l.length ≤ 1000000) :
    Calls Tryd.prog 8 #[.slice a l.length ca, .slice b l.length cb] w fun e w' => e = .returned (.bool true) ∧ Below w.heap.size w w' := by
  have Ha := Lib.hid ha; clear ha
  have Hb := Lib.hid hb; clear hb
  go_enter Tryd.func8, Tryd.ntmps8
  go_wp2_with fail
  go_loopw [5] (fun i wr => ∃ k : Nat, k ≤ l.length ∧ i = .int .i64 k ∧ Below w.heap.size w wr) (fun i _ => l.length - (intOf i).toNat)
  case atStart => exact ⟨0, by omega, by simp, Below.refl _ _⟩
  case round =>
    obtain ⟨k, hk, rfl, hbw⟩ := hrel
    have Hbw := Lib.hid hbw; clear hbw
    by_cases hlt : k < l.length
    · obtain ⟨x, hx⟩ : ∃ x, l[k]? = some x := ⟨l[k], List.getElem?_eq_getElem hlt⟩
      obtain ⟨q, c, rfl, hq, hr1⟩ := (Ha.out.below Hbw.out).row hx
      obtain ⟨p, d, rfl, hp, hr2⟩ := (Hb.out.below Hbw.out).row hx
      obtain ⟨op, xa, xb, xc, imm⟩ := x
      have hbk : (0 : Int) ≤ k ∧ (k : Int) < l.length := by omega
      have r0 : wr.cell? ⟨q, c + k * 5, none⟩ = some (.int .i64 op) := hr1 0 _ rfl
      have r1 : wr.cell? ⟨q, c + k * 5 + 1, none⟩ = some (.int .i64 xa) := hr1 1 _ rfl
      have r2 : wr.cell? ⟨q, c + k * 5 + 2, none⟩ = some (.int .i64 xb) := hr1 2 _ rfl
      have r3 : wr.cell? ⟨q, c + k * 5 + 3, none⟩ = some (.int .i64 xc) := hr1 3 _ rfl
      have r4 : wr.cell? ⟨q, c + k * 5 + 4, none⟩ = some (.int .i64 imm) := hr1 4 _ rfl
      have s0 : wr.cell? ⟨p, d + k * 5, none⟩ = some (.int .i64 op) := hr2 0 _ rfl
      have s1 : wr.cell? ⟨p, d + k * 5 + 1, none⟩ = some (.int .i64 xa) := hr2 1 _ rfl
      have s2 : wr.cell? ⟨p, d + k * 5 + 2, none⟩ = some (.int .i64 xb) := hr2 2 _ rfl
      have s3 : wr.cell? ⟨p, d + k * 5 + 3, none⟩ = some (.int .i64 xc) := hr2 3 _ rfl
      have s4 : wr.cell? ⟨p, d + k * 5 + 4, none⟩ = some (.int .i64 imm) := hr2 4 _ rfl
      clear hr1 hr2 hx
      go_wp2_with fail
      go_quiet (fail)
      go_wp2
      go_roundw
      case rel => exact ⟨k + 1, by omega, by simp, below_drewN Hbw.out _⟩
      case measure => simp [intOf]; omega
    · obtain rfl : k = l.length := by omega
      go_wp2
      go_ret
      exact ⟨rfl, Hbw.out⟩

/-- string(b) of a row of bytes that the call owns. -/
theorem conv_own {V : World} {lo : Nat} {v : Value} {bs : List UInt8} (h : V.ownsRow lo 5 1 v bs.length (Lib.byteCells bs)) : (convert 31 9 v).run Tryd.prog V = .ok (.string ⟨bs.toArray⟩) V := by
  rcases owns_form h with ⟨rfl, h0, -⟩ | ⟨g, cap, rfl, -⟩
  · obtain rfl : bs = [] := List.eq_nil_of_length_eq_zero h0
    exact run_convert_bytes_nil V 31 5 Tryd.underlying31 Tryd.underlying5 0 0 9 Tryd.underlying9
  · exact run_convert_bytes_back (P := Tryd.prog) V 31 9 5 ⟨g, 0, none⟩ cap bs Tryd.underlying31 Tryd.underlying5 Tryd.underlying9 (fun j hj => h.cells (g := g) rfl j _ (by simp [Lib.byteCells, hj]))

end Go.Proofs.YtndmlnoddnaafaaDoor
