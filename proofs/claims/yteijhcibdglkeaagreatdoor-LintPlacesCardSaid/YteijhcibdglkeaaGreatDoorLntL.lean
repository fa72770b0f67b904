/- The chapter's first two examples. Conditions: those stated in each theorem. -/
import Derived.Test.YteijhcibdglkeaaGreatDoorLntK
namespace Go.Proofs.YteijhcibdglkeaaGreatDoor
open Go.RowKit Go.BigFrame Go.Shelf Go.Maps

/-- What is wanted, reckoned. -/
def Fine (tx : By) (code : List In) (L : List (Nat × Nat)) : Prop := tx.length ≤ 1000 ∧ ((readP tx).2 = 0 ∧ (readP tx).1.code = code) ∧ code.length ≤ 1024 ∧ (chkC code = true ∧ lookB code (fC code) = L) ∧ L.length ≤ 10000 ∧ ∀ x ∈ L, (Lib.itoa (x.2 : Nat)).length ≤ 100 ∧ x.2 ≤ 2000
instance (tx : By) (code : List In) (L : List (Nat × Nat)) : Decidable (Fine tx code L) := by unfold Fine; infer_instance
theorem told_fine {tx : By} {code : List In} {L : List (Nat × Nat)} (hf : Fine tx code L) (a : Option Addr) (cap : Nat) {w : World} (h : StdN w) (hw : WantAt w a L) : Calls Tryz.prog 8 #[.string ⟨tx.toArray⟩, .slice a L.length cap] w fun e w' => e = .returned (.bool true) ∧ Below w.heap.size w w' :=
  told_any tx hf.1 code L hf.2.1 hf.2.2.1 (fun f hm => look_closed hf.2.2.2.1 hm) hf.2.2.2.2 a cap h hw
theorem want_new (w : World) (ty : TypeId) (L : List (Nat × Nat)) (cs : Array Value) (hcs : cs.toList = L.map fun x => Value.string ⟨(textF (x.1 : Nat) (x.2 : Nat)).toArray⟩) : WantAt (w.alloc (.cells cs ty)) (some ⟨w.heap.size, 0, none⟩) L := by
  refine .inr ⟨_, rfl, by simp [World.size_alloc], fun k x hx => ?_⟩
  have := (Holds.new w ty cs.toList).cell (i := k) (v := .string ⟨(textF (x.1 : Nat) (x.2 : Nat)).toArray⟩) (by rw [hcs, List.getElem?_map, hx]; rfl)
  simpa using this
theorem told_new {tx : By} {code : List In} {L : List (Nat × Nat)} (hf : Fine tx code L) {w : World} (h : StdN w) (ty : TypeId) (cap : Nat) (cs : Array Value) (ss : List By) (hss : (L.map fun x => textF (x.1 : Nat) (x.2 : Nat)) = ss) (hcs : cs.toList = ss.map fun s => Value.string ⟨s.toArray⟩) :
    Calls Tryz.prog 8 #[.string ⟨tx.toArray⟩, .slice (some ⟨w.heap.size, 0, none⟩) L.length cap] (w.alloc (.cells cs ty)) fun e w' => e = .returned (.bool true) ∧ Below w.heap.size w w' :=
  (told_fine hf _ cap (h.below ((Below.refl _ w).alloc (Nat.le_refl _) _)) (want_new w ty L cs (by rw [hcs, ← hss, List.map_map]; rfl))).mono fun e w' ⟨he, hb⟩ =>
    ⟨he, ((Below.refl _ w).alloc (Nat.le_refl _) _).trans (hb.mono (by simp [World.size_alloc]))⟩

def al1 : By := [115, 101, 116, 32, 49, 32, 53, 10, 115, 116, 111, 114, 101, 32, 49, 32, 48, 32, 49, 10, 104, 97, 108, 116]
def al2 : By := [98, 101, 103, 105, 110, 10, 98, 101, 103, 105, 110, 10, 101, 110, 100]
theorem fine1 : Fine al1 [⟨2, 1, 0, 0, 5⟩, ⟨12, 1, 0, 0, 1⟩, ⟨1, 0, 0, 0, 0⟩] [(7, 1)] := by decide +kernel
theorem fine2 : Fine al2 [⟨17, 0, 0, 0, 0⟩, ⟨17, 0, 0, 0, 0⟩, ⟨18, 0, 0, 0, 0⟩] [(3, 1), (8, 2)] := by decide +kernel
set_option maxRecDepth 100000 in
set_option maxHeartbeats 2000000 in
theorem alive_lint {w : World} (h : StdN w) : Calls Tryz.prog 12 #[] w fun e w' => e = .returned (.bool true) ∧ Below w.heap.size w w' := by
  have h1 := told_new fine1 h 9 1 #[.string ⟨#[117, 110, 115, 101, 116, 32, 97, 116, 32, 49]⟩] [[117, 110, 115, 101, 116, 32, 97, 116, 32, 49]] (by decide +kernel) rfl
  have h2 : ∀ V : World, Below w.heap.size w V → _ := fun V hb => told_new fine2 (h.below hb) 9 2 #[.string ⟨#[98, 101, 103, 105, 110, 32, 97, 116, 32, 49]⟩, .string ⟨#[110, 101, 118, 101, 114, 32, 97, 116, 32, 50]⟩] [[98, 101, 103, 105, 110, 32, 97, 116, 32, 49], [110, 101, 118, 101, 114, 32, 97, 116, 32, 50]] (by decide +kernel) rfl
  have H1 := Lib.hid h1
  have H2 := Lib.hid h2; clear h1 h2 h
  go_enter Tryz.func12, Tryz.ntmps12
  go_wp2_with fail
  refine H1.out.mono ?_
  rintro e w2 ⟨rfl, hb⟩
  have HB := Lib.hid hb; clear hb H1
  go_wp2_with fail
  refine (H2.out _ HB.out).mono ?_
  rintro e w3 ⟨rfl, hb⟩
  have HC := Lib.hid (HB.out.trans (hb.mono HB.out.size)); clear hb H2 HB
  go_wp2_with fail
  go_ret
  exact ⟨rfl, HC.out⟩
end Go.Proofs.YteijhcibdglkeaaGreatDoor
