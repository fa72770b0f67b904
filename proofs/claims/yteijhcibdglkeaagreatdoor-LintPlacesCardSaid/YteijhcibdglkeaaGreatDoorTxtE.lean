/- A number of a line, read: the call. Conditions: those stated in each theorem. -/
import Derived.Test.YteijhcibdglkeaaGreatDoorTxtD
import Derived.Test.YteijhcibdglkeaaGreatDoorTxtB
namespace Go.Proofs.YteijhcibdglkeaaGreatDoor
open Go.RowKit Go.BigFrame

def AtoiE (o : Option Int) (e : Ending) : Prop := match o with
  | some v => e = .returned (.tuple #[.int .i64 v, .nilIface])
  | none => ∃ v N, e = .returned (.tuple #[.int .i64 v, .iface 186 (.pointer (some ⟨N, 0, none⟩))])
def numE (R : ByteArray) : Option Int → Value
  | some v => .tuple #[.int .i64 v, .string R, .bool true]
  | none => .tuple #[.int .i64 0, .string ⟨#[]⟩, .bool false]

set_option maxRecDepth 100000 in
set_option maxHeartbeats 2000000 in
theorem number_walk (l S P R : ByteArray) (ix : Int) (E : Nat) (w : World)
    (hcp : ∀ W, Calls Tryz.prog 94 #[.string l, .string ⟨#[32]⟩] W fun e w' => e = .returned (.tuple #[.string S, .bool true]) ∧ w' = W)
    (hix : ∀ W, Calls Tryz.prog 109 #[.string S, .int .u8 32] W fun e w' => e = .returned (.int .i64 ix) ∧ w' = W)
    (hE : (ix < 0 ∧ S.size = E) ∨ (¬ ix < 0 ∧ ix = E))
    (hs1 : ∀ W, (Instr.sliceAt 9 (.string S) none (some (.int .i64 E)) none).run Tryz.prog W = .ok (.string P) W)
    (hs2 : ∀ W, (Instr.sliceAt 9 (.string S) (some (.int .i64 E)) none none).run Tryz.prog W = .ok (.string R) W)
    (o : Option Int)
    (hat : Calls Tryz.prog 110 #[.string P] w fun e w' => Below w.heap.size w w' ∧ AtoiE o e) :
    Calls Tryz.prog 95 #[.string l] w fun e w' => Below w.heap.size w w' ∧ e = .returned (numE R o) := by
  have Hcp := Lib.hid hcp; clear hcp
  have Hix := Lib.hid hix; clear hix
  cases o with
  | some v =>
    simp only [AtoiE] at hat
    have Hat := Lib.hid hat; clear hat
    rcases hE with ⟨h1, h2⟩ | ⟨h1, h2⟩
    · go_enter Tryz.func95, Tryz.ntmps95
      go_wp2_with (first | (go_at_call 94; refine (Hcp.out _).mono ?_; rintro e w2 ⟨rfl, rfl⟩) | (go_at_call 109; refine (Hix.out _).mono ?_; rintro e w2 ⟨rfl, rfl⟩) | (go_at_call 110; refine Hat.out.mono ?_; rintro e w2 ⟨hb, rfl⟩))
      go_region
      go_wp2
      go_ret3
      exact ⟨below_drew1 hb, rfl⟩
    · subst h2
      go_enter Tryz.func95, Tryz.ntmps95
      go_wp2_with (first | (go_at_call 94; refine (Hcp.out _).mono ?_; rintro e w2 ⟨rfl, rfl⟩) | (go_at_call 109; refine (Hix.out _).mono ?_; rintro e w2 ⟨rfl, rfl⟩) | (go_at_call 110; refine Hat.out.mono ?_; rintro e w2 ⟨hb, rfl⟩))
      go_region
      go_wp2
      go_ret3
      exact ⟨below_drew1 hb, rfl⟩
  | none =>
    simp only [AtoiE] at hat
    have Hat := Lib.hid hat; clear hat
    rcases hE with ⟨h1, h2⟩ | ⟨h1, h2⟩
    · go_enter Tryz.func95, Tryz.ntmps95
      go_wp2_with (first | (go_at_call 94; refine (Hcp.out _).mono ?_; rintro e w2 ⟨rfl, rfl⟩) | (go_at_call 109; refine (Hix.out _).mono ?_; rintro e w2 ⟨rfl, rfl⟩) | (go_at_call 110; refine Hat.out.mono ?_; rintro e w2 ⟨hb, v, N, rfl⟩))
      go_ret3
      exact ⟨hb, rfl⟩
    · subst h2
      go_enter Tryz.func95, Tryz.ntmps95
      go_wp2_with (first | (go_at_call 94; refine (Hcp.out _).mono ?_; rintro e w2 ⟨rfl, rfl⟩) | (go_at_call 109; refine (Hix.out _).mono ?_; rintro e w2 ⟨rfl, rfl⟩) | (go_at_call 110; refine Hat.out.mono ?_; rintro e w2 ⟨hb, v, N, rfl⟩))
      go_ret3
      exact ⟨hb, rfl⟩

/-- A number of a line, read. -/
theorem number_any (l : List UInt8) (hl : l.length ≤ 1000000) (w : World) (hE : ErrsAt w) : Calls Tryz.prog 95 #[.string ⟨l.toArray⟩] w fun e w' => e = .returned (numVal (numberP l)) ∧ Below w.heap.size w w' := by
  have hcp := Tryz.strings_CutPrefix ⟨l.toArray⟩ ⟨#[32]⟩
  simp only at hcp
  cases hp : Lib.hasPrefix l [32] with
  | false =>
    have hn : numberP l = none := by unfold numberP; rw [hp]; rfl
    rw [hn]
    rw [show Lib.hasPrefix l (#[32] : Array UInt8).toList = false from hp] at hcp
    have Hcp := Lib.hid hcp; clear hcp
    clear hp hn
    go_enter Tryz.func95, Tryz.ntmps95
    go_wp2_with (go_at_call 94; refine (Hcp.out _).mono ?_; rintro e w2 ⟨rfl, rfl⟩)
    go_ret3
    exact ⟨rfl, Below.refl _ _⟩
  | true =>
    have hlt : (Lib.trimPrefix l [32]).length ≤ 1000000 := by unfold Lib.trimPrefix; split <;> simp <;> omega
    have hn : numberP l = match Lib.atoiAll ((Lib.trimPrefix l [32]).take (endP (Lib.trimPrefix l [32]))) with
      | .ok v => some (v, (Lib.trimPrefix l [32]).drop (endP (Lib.trimPrefix l [32])))
      | _ => none := by unfold numberP; rw [hp]; rfl
    have hcp2 : ∀ W, Calls Tryz.prog 94 #[.string ⟨l.toArray⟩, .string ⟨#[32]⟩] W fun e w' => e = .returned (.tuple #[.string ⟨(Lib.trimPrefix l [32]).toArray⟩, .bool true]) ∧ w' = W := fun W => by
      rw [show Lib.hasPrefix l (#[32] : Array UInt8).toList = true from hp] at hcp
      exact hcp W
    clear hcp
    generalize Lib.trimPrefix l [32] = t at *
    have hsz : (⟨t.toArray⟩ : ByteArray).size = t.length := rfl
    have hix : ∀ W, Calls Tryz.prog 109 #[.string ⟨t.toArray⟩, .int .u8 32] W fun e w' => e = .returned (.int .i64 (Lib.indexByte t 32)) ∧ w' = W := fun W => Tryz.strings_IndexByte ⟨t.toArray⟩ 32 W
    have hEe : (Lib.indexByte t 32 < 0 ∧ (⟨t.toArray⟩ : ByteArray).size = endP t) ∨ (¬ Lib.indexByte t 32 < 0 ∧ Lib.indexByte t 32 = endP t) := by
      unfold endP
      rcases index_lt t with h | ⟨e, h, hel⟩
      · exact .inl ⟨h, by rw [if_pos h, hsz]⟩
      · refine .inr ⟨by omega, ?_⟩
        rw [if_neg (by omega), h]; rfl
    have hEl : endP t ≤ t.length := by
      unfold endP
      rcases index_lt t with h | ⟨e, h, hel⟩
      · rw [if_pos h]; omega
      · rw [if_neg (by omega), h]; simp; omega
    have hs1 : ∀ W, (Instr.sliceAt 9 (.string ⟨t.toArray⟩) none (some (.int .i64 (endP t))) none).run Tryz.prog W = .ok (.string ⟨(t.take (endP t)).toArray⟩) W := fun W => by
      have hp : (⟨(t.take (endP t)).toArray⟩ : ByteArray) = (⟨t.toArray⟩ : ByteArray).extract 0 (endP t) := by
        apply ByteArray.ext
        apply Array.ext'
        rw [ext_to _ _ (by rw [hsz]; exact hEl)]
      rw [hp, run_sliceAt_string W 9 _ _ _ _ Tryz.underlying9, run_slice_string_h W 9 ⟨t.toArray⟩ Tryz.underlying9 .i64 (endP t) (by omega) (by rw [hsz]; omega)]
      simp
    have hs2 : ∀ W, (Instr.sliceAt 9 (.string ⟨t.toArray⟩) (some (.int .i64 (endP t))) none none).run Tryz.prog W = .ok (.string ⟨(t.drop (endP t)).toArray⟩) W := fun W => by
      rw [run_sliceAt_string W 9 _ _ _ _ Tryz.underlying9, run_slice_string_l W 9 ⟨t.toArray⟩ Tryz.underlying9 .i64 (endP t) (by omega) (by rw [hsz]; omega)]
      simp [ext_from]
    have hat := atoi_any ⟨(t.take (endP t)).toArray⟩ (by have : (⟨(t.take (endP t)).toArray⟩ : ByteArray).size = (t.take (endP t)).length := rfl; rw [this, List.length_take]; omega) w hE
    have hll : ∀ x : List UInt8, (⟨x.toArray⟩ : ByteArray).data.toList = x := fun _ => rfl
    rw [hll] at hat
    rw [hn]
    refine (number_walk _ _ _ _ _ _ w hcp2 hix hEe hs1 hs2 (match Lib.atoiAll (t.take (endP t)) with | .ok v => some v | _ => none) (hat.mono (fun e w' h => ⟨h.1, ?_⟩))).mono (fun e w' h => ⟨?_, h.1⟩)
    · have := h.2
      cases hc : Lib.atoiAll (t.take (endP t)) <;> rw [hc] at this <;> exact this
    · rw [h.2]
      cases hc : Lib.atoiAll (t.take (endP t)) <;> rfl

end Go.Proofs.YteijhcibdglkeaaGreatDoor
