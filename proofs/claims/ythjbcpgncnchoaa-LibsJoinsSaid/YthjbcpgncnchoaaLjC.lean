/- Join beside the document's own, of whatever lists came in. Conditions: the lists that came in. -/
import Derived.Test.YthjbcpgncnchoaaLjB
import Derived.Test.YthjbcpgncnchoaaCame2
namespace Go.Proofs.Ythjbcpgncnchoaa
open Go.ChangeShapes Go.WideShapes Go.ChangeAt Go.RowKit Go.Deep

def inKinds : List CK := [⟨0, .i64⟩, ⟨0, .i64⟩, ⟨0, .i64⟩, ⟨0, .i64⟩, ⟨0, .i64⟩]
theorem in_mk (vs : List Value) (h : Fit inKinds vs) : ∃ x : In, x.cells = vs ∧ True := by
  have h1 := h.1
  have h2 := h.2
  match vs, h1 with
  | [c0, c1, c2, c3, c4], _ =>
    obtain ⟨x0, rfl, _⟩ := h2 0 _ _ rfl rfl
    obtain ⟨x1, rfl, _⟩ := h2 1 _ _ rfl rfl
    obtain ⟨x2, rfl, _⟩ := h2 2 _ _ rfl rfl
    obtain ⟨x3, rfl, _⟩ := h2 3 _ _ rfl rfl
    obtain ⟨x4, rfl, _⟩ := h2 4 _ _ rfl rfl
    exact ⟨⟨x0, x1, x2, x3, x4⟩, rfl, trivial⟩
/-- A list, as it lies somewhere. -/
structure Ly where
  ad : Option Addr
  cap : Nat
  l : List In
def Ly.cells (x : Ly) : List Value := [.slice x.ad x.l.length x.cap]
def Ly.ok (w : World) (x : Ly) : Prop := RowsIn w x.ad 5 In.cells x.l ∧ (x.ad = none → x.l = [] ∧ x.cap = 0)
section
variable {H : Type} {enc : TypeId × Value → H} {W : World} {base : Nat} {spare : Nat → Bool} {held : Bool}
theorem ly_in {fuel : Nat} {cs : List Value} {r : DataW H × List MemPlace} (hf : DataW.trod enc Try.prog W base spare held fuel 32 cs = some r) : ∃ x : Ly, x.cells = cs ∧ x.ok W := by
  rcases open_slice Try.underlying32 hf with ⟨h0, _⟩ | ⟨b, l, c, _, _, _, _, hcs, _⟩
  · subst h0
    exact ⟨⟨none, 0, []⟩, rfl, .inl rfl, fun _ => ⟨rfl, rfl⟩⟩
  · subst hcs
    obtain ⟨_, hc⟩ := open_plain (ks := inKinds) (d := 6) Try.underlying32 (by kernel_rfl) (by kernel_rfl) hf
    obtain ⟨xs, hl, hr, _⟩ := rows_in (Pr := fun _ => True) hc (by simp [inKinds]) in_mk
    subst hl
    exact ⟨⟨some b, c, xs⟩, rfl, hr, fun h => by cases h⟩
theorem parts_in {fuel : Nat} {a : Option Addr} {len cap : Nat} {z : DataW H × List MemPlace} (h : DataW.trod enc Try.prog W base spare held fuel 38 [.slice a len cap] = some z) : ∃ ls : List (List In), ls.length = len ∧ PartsC W a ls := by
  obtain ⟨_, xs, h1, h2, h3⟩ := rows_deep (N := 1) (cells := Ly.cells) (Pp := Ly.ok W) Try.underlying38 (by kernel_rfl) (by omega) (fun n cs y hy hl => ly_in hy) h
  refine ⟨xs.map Ly.l, by simp [h1], fun k l hl => ?_⟩
  rw [List.getElem?_map, Option.map_eq_some_iff] at hl
  obtain ⟨x, hx, rfl⟩ := hl
  obtain ⟨q, c, rfl, _, hr⟩ := h2.row hx
  have hok := h3 x (List.mem_of_getElem? hx)
  refine ⟨q, c, x.ad, x.cap, rfl, ?_, hok.1, hok.2⟩
  have := hr 0 _ rfl
  rwa [Nat.mul_one, Nat.add_zero] at this
end

theorem ljoins_many (a : Option Addr) (len cap : Nat) (w : World) (h : 20 < len) : Calls Try.prog 4 #[.slice a len cap] w fun e w' => e = .returned (.bool true) ∧ Below w.heap.size w w' := by
  have h1 : (20 : Int) < len := by omega
  go_enter Try.func4, Try.ntmps4
  go_wp2
  go_ret
  exact ⟨rfl, Below.refl _ _⟩
theorem ljoins_any (a : Option Addr) (len cap : Nat) (w : World) (h : ∃ ls : List (List In), ls.length = len ∧ PartsC w a ls) :
    Calls Try.prog 4 #[.slice a len cap] w fun e w' => e = .returned (.bool true) ∧ Below w.heap.size w w' := by
  obtain ⟨ls, rfl, hp⟩ := h
  by_cases hl : 20 < ls.length
  · exact ljoins_many a ls.length cap w hl
  · exact ljoins_dev a cap ls w hp (by omega)

end Go.Proofs.Ythjbcpgncnchoaa
