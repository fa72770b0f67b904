/- A number of a line, read: the call. Conditions: those stated in each theorem. -/
import Derived.Test.YteijhcibdglkeaaGreatDoorTxtP
import Derived.Test.YteijhcibdglkeaaGreatDoorShelf
import Derived.Lib.IndexBytes
import Derived.Lib.SmallJoins
import Derived.WalkSpells
import Derived.OwnWalk
namespace Go.Proofs.YteijhcibdglkeaaGreatDoor
open Go.RowKit Go.BigFrame

/-- What 'number' answers. -/
def numVal : Option (Int × List UInt8) → Value
  | some (v, r) => .tuple #[.int .i64 v, .string ⟨r.toArray⟩, .bool true]
  | none => .tuple #[.int .i64 0, .string ⟨#[]⟩, .bool false]
theorem index_lt : ∀ (t : List UInt8), Lib.indexByte t 32 < 0 ∨ ∃ e : Nat, Lib.indexByte t 32 = e ∧ e < t.length
  | [] => .inl (by decide)
  | b :: r => by
    rw [Lib.indexByte]
    split
    · exact .inr ⟨0, rfl, by simp⟩
    · split
      · exact .inl (by decide)
      · rename_i h1 h2
        rcases index_lt r with h | ⟨e, h, hl⟩
        · exfalso
          apply h2
          have := index_ge r
          simp only [beq_iff_eq]; omega
        · exact .inr ⟨e + 1, by rw [h]; simp, by simp; omega⟩
where index_ge : ∀ (t : List UInt8), -1 ≤ Lib.indexByte t 32
  | [] => by decide
  | b :: r => by
    have := index_ge r
    rw [Lib.indexByte]
    split
    · decide
    · split
      · decide
      · omega
theorem ext_to (S : ByteArray) (e : Nat) (he : e ≤ S.size) : (S.extract 0 e).data.toList = S.data.toList.take e := by
  simp [ByteArray.data_extract, Array.toList_extract, List.extract]
theorem ext_from (S : ByteArray) (e : Nat) : S.extract e S.size = ⟨(S.data.toList.drop e).toArray⟩ := by
  apply ByteArray.ext
  apply Array.ext'
  exact Lib.extract_to_end S e
/-- strconv's two errors, in memory. -/
def ErrsAt (w : World) : Prop := (∃ tp p, w.var? Tryz.prog "strconv.ErrSyntax" = some #[.iface tp p]) ∧ ∃ tp p, w.var? Tryz.prog "strconv.ErrRange" = some #[.iface tp p]
/-- Atoi, as this program calls it. -/
theorem atoi_any (s : ByteArray) (hl : s.size ≤ 281474976710656) (w : World) (hE : ErrsAt w) : Calls Tryz.prog 110 #[.string s] w fun e w' => Below w.heap.size w w' ∧
    match Lib.atoiAll s.data.toList with
    | .ok v => e = .returned (.tuple #[.int .i64 v, .nilIface])
    | _ => ∃ v N, e = .returned (.tuple #[.int .i64 v, .iface 186 (.pointer (some ⟨N, 0, none⟩))]) := by
  obtain ⟨⟨tp, p, h1⟩, tq, q, h2⟩ := hE
  cases h : Lib.atoiAll s.data.toList with
  | ok v =>
    refine (Tryz.strconv_Atoi_ok s (by omega) v h w).mono ?_
    rintro e w' ⟨rfl, hw⟩
    refine ⟨?_, rfl⟩
    rcases hw with rfl | ⟨t, rfl⟩
    · exact Below.refl _ _
    · exact Go.Joins.below_bytesWorld _ _ _ _ (Nat.le_refl _)
  | «syntax» =>
    refine (Tryz.strconv_Atoi_syntax_var s hl h tp p w h1).mono ?_
    rintro e w' ⟨N, rfl, _, _, hb⟩
    exact ⟨hb, _, _, rfl⟩
  | range =>
    refine (Tryz.strconv_Atoi_range_var s hl h tq q w h2).mono ?_
    rintro e w' ⟨N, rfl, _, _, hb⟩
    exact ⟨hb, _, _, rfl⟩

end Go.Proofs.YteijhcibdglkeaaGreatDoor
