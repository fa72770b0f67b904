/- Reached. Conditions: those stated in each theorem. -/
import Derived.Test.YtehnailokgoekaaDoorFlwH
namespace Go.Proofs.YtehnailokgoekaaDoor
open Go.RowKit Go.BigFrame Go.Shelf

theorem parts_nx2 (c : List In) : ∀ p ∈ partsP c, p.nx.length ≤ 2 := fun p hp => by
  unfold partsP at hp
  obtain ⟨x, _, rfl⟩ := List.mem_map.1 hp
  exact next_len c x.2

set_option maxRecDepth 100000 in
theorem reach_any (a : Option Addr) (cap : Nat) (c : List In) (hn : c.length ≤ 1024) (hi : ∀ i ∈ c, I64 i.imm) (w : World) (hF : FormsAt w) (hr : RowsIn w a 5 In.cells c) :
    Calls Tryd.prog 10 #[.slice a c.length cap] w fun e w' => ∃ gi l, e = .returned (.tuple #[.slice (some ⟨gi, 0, none⟩) (partsP c).length (partsP c).length, .int .i64 0]) ∧ w.heap.size ≤ gi ∧ IsRch (partsP c) (-1) l ∧ Holds w' gi 4 (cellsB l) ∧ Below w.heap.size w w' := by
  have HP := Lib.hid (parts_any a cap c hn hi w hF hr)
  have Hn := Lib.hid hn; clear hn hi hF hr
  go_enter Tryd.func10, Tryd.ntmps10
  go_wp2_with fail
  refine HP.out.mono ?_
  rintro e w2 ⟨v, rfl, h1, h2⟩
  have HR := Lib.hid (reached_any (partsP c) (-1) w.heap.size v w2 h1 (parts_nxok c) (parts_nx2 c) (by rw [parts_len]; exact Nat.le_trans (begs_le c) Hn.out))
  have H2 := Lib.hid h2; clear h1 h2 HP
  go_wp2_with fail
  refine HR.out.mono ?_
  rintro e w3 ⟨l, rfl, hl, hh, hb⟩
  have HL := Lib.hid (And.intro hl (And.intro hh hb)); clear hl hh hb
  go_wp2
  exact bodyPost_ret (v := .tuple #[.slice (some ⟨w2.heap.size, 0, none⟩) (partsP c).length (partsP c).length, .int .i64 0]) (by simp [results, Tryd.results10, go_sem]) rfl ⟨_, l, rfl, H2.out.size, HL.out.1, HL.out.2.1, H2.out.trans (HL.out.2.2.mono H2.out.size)⟩

end Go.Proofs.YtehnailokgoekaaDoor
