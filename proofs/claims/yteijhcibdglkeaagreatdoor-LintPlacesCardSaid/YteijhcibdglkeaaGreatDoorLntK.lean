/- What is told of a text's program; the chapter's first two examples. Conditions: those stated in each theorem. -/
import Derived.Test.YteijhcibdglkeaaGreatDoorLntH
import Derived.Test.YteijhcibdglkeaaGreatDoorLntI
import Derived.Test.YteijhcibdglkeaaGreatDoorLntK0
import Derived.Test.YteijhcibdglkeaaGreatDoorAsmK0
namespace Go.Proofs.YteijhcibdglkeaaGreatDoor
open Go.RowKit Go.BigFrame Go.Shelf Go.Maps

structure StdN (w : World) : Prop where
  std : Std w
  names : NamesAt w
theorem StdN.below {w w' : World} (h : StdN w) (hb : Below w.heap.size w w') : StdN w' := ⟨h.std.below hb, h.names.below hb⟩
theorem StdN.line {w : World} (h : StdN w) : StdL w := ⟨h.names, h.std.tab⟩

theorem flatA_atL : ∀ (l : List In) (k : Nat) (x : In), l[k]? = some x → ∀ (j : Nat) (v : Value), x.cells[j]? = some v → (flatA l)[k * 5 + j]? = some v
  | [], _, _, h, _, _, _ => by simp at h
  | y :: r, 0, x, h, j, v, hj => by
    simp at h; subst h
    have hlt : j < y.cells.length := (List.getElem?_eq_some_iff.1 hj).1
    unfold flatA
    rw [List.flatMap_cons, Nat.zero_mul, Nat.zero_add, List.getElem?_append_left hlt]; exact hj
  | y :: r, k + 1, x, h, j, v, hj => by
    have := flatA_atL r k x (by simpa using h) j v hj
    unfold flatA at this ⊢
    rw [List.flatMap_cons, List.getElem?_append_right (by simp [In.cells]; omega)]
    rw [← this]; congr 1; simp [In.cells]; omega
theorem rows_own {w : World} {lo n cap : Nat} {ad : Option Addr} {l : List In} (h : w.ownsRow lo 43 5 (.slice ad n cap) l.length (flatA l)) : RowsIn w ad 5 In.cells l := by
  rcases owns_form h with ⟨_, h0, _⟩ | ⟨g, cap', e, _⟩
  · exact .inl (List.eq_nil_of_length_eq_zero h0)
  · cases e
    refine .inr ⟨g, 0, rfl, (owns_lt h rfl).2, fun k x hx j v hj => ?_⟩
    rw [Nat.zero_add]
    exact (owns_cell h (g := g) rfl (flatA_atL l k x hx j v hj)).1
theorem flatF_at : ∀ (L : List (Nat × Nat)) (k : Nat) (x : Nat × Nat), L[k]? = some x → (flatF L)[k * 2]? = some (.int .i64 (x.1 : Nat)) ∧ (flatF L)[k * 2 + 1]? = some (.int .i64 (x.2 : Nat))
  | [], _, _, h => by simp at h
  | y :: r, 0, x, h => by
    simp at h; subst h
    exact ⟨rfl, rfl⟩
  | y :: r, k + 1, x, h => by
    have := flatF_at r k x (by simpa using h)
    unfold flatF at this ⊢
    rw [List.flatMap_cons, List.getElem?_append_right (by simp; omega), List.getElem?_append_right (by simp; omega)]
    constructor
    · rw [← this.1]; congr 1; simp; omega
    · rw [← this.2]; congr 1; simp; omega
def fdN (x : Nat × Nat) : Int × Int := ((x.1 : Nat), (x.2 : Nat))
theorem found_rows {w : World} {lo n cap : Nat} {ad : Option Addr} {L : List (Nat × Nat)} (h : w.ownsRow lo 25 2 (.slice ad n cap) L.length (flatF L)) : RowsIn w ad 2 fdC (L.map fdN) := by
  rcases owns_form h with ⟨_, h0, _⟩ | ⟨g, cap', e, _⟩
  · exact .inl (by rw [List.eq_nil_of_length_eq_zero h0]; rfl)
  · cases e
    refine .inr ⟨g, 0, rfl, (owns_lt h rfl).2, fun k x hx j v hj => ?_⟩
    rw [List.getElem?_map, Option.map_eq_some_iff] at hx
    obtain ⟨y, hy, rfl⟩ := hx
    have ha := flatF_at L k y hy
    rw [Nat.zero_add]
    match j, hj with
    | 0, hj => cases hj; exact (owns_cell h (g := g) rfl (j := k * 2) ha.1).1
    | 1, hj => cases hj; exact (owns_cell h (g := g) rfl (j := k * 2 + 1) ha.2).1
    | j + 2, hj => simp [fdC] at hj

/-- The lines wanted, in memory. -/
def WantAt (w : World) (a : Option Addr) (L : List (Nat × Nat)) : Prop := L = [] ∨ ∃ g, a = some ⟨g, 0, none⟩ ∧ g < w.heap.size ∧ ∀ k x, L[k]? = some x → w.cell? ⟨g, k, none⟩ = some (.string ⟨(textF (x.1 : Nat) (x.2 : Nat)).toArray⟩)
theorem WantAt.below {w w' : World} {a : Option Addr} {L : List (Nat × Nat)} (h : WantAt w a L) (hb : Below w.heap.size w w') : WantAt w' a L := by
  rcases h with h | ⟨g, e, hg, h⟩
  · exact .inl h
  · exact .inr ⟨g, e, Nat.lt_of_lt_of_le hg hb.size, fun k x hx => (World.cell?_of_block (a := ⟨g, k, none⟩) (hb.block g hg)).trans (h k x hx)⟩

set_option maxRecDepth 100000 in
set_option maxHeartbeats 2000000 in
theorem told_any (tx : By) (htx : tx.length ≤ 1000) (code : List In) (L : List (Nat × Nat)) (hread : (readP tx).2 = 0 ∧ (readP tx).1.code = code) (hn : code.length ≤ 1024) (hL : ∀ f, MetOf code f → lookB code f = L) (hit : L.length ≤ 10000 ∧ ∀ x ∈ L, (Lib.itoa (x.2 : Nat)).length ≤ 100 ∧ x.2 ≤ 2000)
    (a : Option Addr) (cap : Nat) {w : World} (h : StdN w) (hw : WantAt w a L) : Calls Tryz.prog 8 #[.string ⟨tx.toArray⟩, .slice a L.length cap] w fun e w' => e = .returned (.bool true) ∧ Below w.heap.size w w' := by
  have HA := Lib.hid (asm_any tx (by omega) h.std)
  have H := Lib.hid (And.intro h (And.intro hw (And.intro hread (And.intro hn (And.intro hL hit))))); clear h hw hread hn hL hit htx
  go_enter Tryz.func8, Tryz.ntmps8
  go_wp2_with fail
  refine HA.out.mono ?_
  rintro e w2 ⟨v2, ⟨rfl, hr2⟩, hb⟩
  unfold asmC at hr2
  unfold asmE
  rw [H.out.2.2.1.1, if_pos rfl, H.out.2.2.1.2] at hr2
  rw [H.out.2.2.1.1, if_pos rfl]
  obtain ⟨ac, cc, rfl, hac⟩ := owns_slice hr2
  have hlk := look_any ac cc code w2 H.out.2.2.2.1 (H.out.1.std.forms.below hb) (rows_own hr2)
  have HL := Lib.hid hlk
  have HB := Lib.hid hb; clear hr2 hac hb hlk HA
  go_wp2_with fail
  refine HL.out.mono ?_
  rintro e w3 ⟨v, f, rfl, hmet, hown, hb3⟩
  rw [H.out.2.2.2.2.1 f hmet] at hown
  obtain ⟨va, vc, rfl, hva⟩ := owns_slice hown
  have HW := Lib.hid (And.intro hown (And.intro hva (HB.out.trans (hb3.mono HB.out.size)))); clear hown hva hb3 hmet HL
  have e0 : ((L.length : Int) != (L.length : Int)) = false := by simp
  go_wp2_with fail
  go_loopg [38] (L.length + 1) (fun gg s38 wr => ∃ k : Nat, k ≤ L.length ∧ L.length + 1 - k ≤ gg ∧ s38 = .int .i64 k ∧ Below w3.heap.size w3 wr)
  case atStart => exact ⟨0, by omega, by omega, rfl, Below.refl _ _⟩
  case round =>
    obtain ⟨k, hk, hgg, rfl, hb⟩ := hrel
    have hbw := HW.out.2.2.trans (hb.mono HW.out.2.2.size)
    by_cases hkn : k < L.length
    · obtain ⟨x, hx⟩ : ∃ x, L[k]? = some x := ⟨_, List.getElem?_eq_getElem hkn⟩
      obtain ⟨g, rfl⟩ : ∃ g, va = some ⟨g, 0, none⟩ := by
        rcases owns_form HW.out.1 with ⟨_, h0, _⟩ | ⟨g, cap', e, _⟩
        · omega
        · cases e; exact ⟨g, rfl⟩
      obtain ⟨q, o, e, -, hrow⟩ := ((found_rows HW.out.1).below hb).row (k := k) (x := fdN x) (by rw [List.getElem?_map, hx]; rfl)
      cases e
      have hki : (0 : Int) ≤ k ∧ (k : Int) < L.length := by omega
      have hkk : IntKind.i64.wrap ((k : Int) + 1) = (k : Int) + 1 := by
        have := H.out.2.2.2.2.2.1
        rw [IntKind.wrap_i64]; omega
      have r0 : wr.cell? ⟨g, k * 2, none⟩ = some (.int .i64 (x.1 : Nat)) := by have := hrow 0 _ rfl; rw [Nat.zero_add, Nat.add_zero] at this; exact this
      have r1 : wr.cell? ⟨g, k * 2 + 1, none⟩ = some (.int .i64 (x.2 : Nat)) := by have := hrow 1 _ rfl; rw [Nat.zero_add] at this; exact this
      have hxx := H.out.2.2.2.2.2.2 x (List.mem_of_getElem? hx)
      have HT := Lib.hid (text_lint (x.1 : Nat) (x.2 : Nat) ⟨by omega, by omega⟩ hxx.1 wr ((H.out.1.below hbw).line))
      obtain ⟨q, rfl, hq, hcell⟩ : ∃ q, a = some ⟨q, 0, none⟩ ∧ q < w.heap.size ∧ w.cell? ⟨q, k, none⟩ = some (.string ⟨(textF (x.1 : Nat) (x.2 : Nat)).toArray⟩) := by
        rcases H.out.2.1 with h | ⟨q, e, hq, h⟩
        · rw [h] at hx; simp at hx
        · exact ⟨q, e, hq, h k x hx⟩
      have c0 : wr.cell? ⟨q, k, none⟩ = some (.string ⟨(textF (x.1 : Nat) (x.2 : Nat)).toArray⟩) := (World.cell?_of_block (a := ⟨q, k, none⟩) (hbw.block q hq)).trans hcell
      generalize textF (x.1 : Nat) (x.2 : Nat) = tt at *
      have HX := Lib.hid (And.intro hb (And.intro hkn (And.intro hgg (And.intro hk (And.intro hbw (And.intro hq hcell))))))
      clear hb hkn hgg hk hx hrow hxx hq hbw
      go_wp2_with fail
      refine HT.out.mono ?_
      rintro e w4 ⟨rfl, hb4⟩
      have c1 : w4.cell? ⟨q, k, none⟩ = some (.string ⟨tt.toArray⟩) := (World.cell?_of_block (a := ⟨q, k, none⟩) (hb4.block q (Nat.lt_of_lt_of_le HX.out.2.2.2.2.2.1 HX.out.2.2.2.2.1.size))).trans c0
      have HB4 := Lib.hid (HX.out.1.trans (hb4.mono HX.out.1.size)); clear hb4 hcell
      go_wp2_with fail
      go_roundg (L.length - k)
      case rel => exact ⟨k + 1, by have := HX.out.2.1; omega, by have := HX.out.2.1; omega, by simp, HB4.out⟩
      case measure => have := HX.out.2; omega
    · obtain rfl : k = L.length := by omega
      have HX := Lib.hid (And.intro hb hbw); clear hb hkn hk hgg hbw
      go_wp2_with fail
      go_ret
      exact ⟨rfl, HX.out.2⟩
end Go.Proofs.YteijhcibdglkeaaGreatDoor
