/- The directory: what is refused. Conditions: those stated in each theorem. -/
import Derived.Test.YtnhainjdaafmiaaDoorDirB
import Derived.Test.YtnhainjdaafmiaaDoorStill
namespace Go.Proofs.YtnhainjdaafmiaaDoor
open Go.RowKit

theorem known.below {w w' : World} {L o : Nat} {k : KnV} (h : known w L o k) {B : Nat} (hb : Below B w w') (hB : w.heap.size ≤ B) : known w' L o k := by
  have hl : L < B := Nat.lt_of_lt_of_le (World.block_lt_of_cell? _ _ h.c0) hB
  exact ⟨fun j v hv => by rw [hb.cell (p := ⟨L, o + j, none⟩) hl]; exact h.1 j v hv, fun j => by rw [hb.frozen (p := ⟨L, o + j, none⟩) hl]; exact h.2 j⟩

def refReqL (k : KnV) (ms : List MsgV) (core : Int) : Bool := waitsL core ms || (runsL k core && k.phase != 4) || (k.owner == core && k.phase != 1)

set_option maxHeartbeats 1000000 in
theorem refReq_any (L o : Nat) (k : KnV) (core : Int) (ms : List MsgV) (w : World) (h : known w L o k) (hv : MsgsAt w k.wv ms) (hl : ms.length < 1000000) :
    Calls Tryd.prog 46 #[.pointer (some ⟨L, o, none⟩), .int .i64 core] w fun e w' => e = .returned (.bool (refReqL k ms core)) ∧ Below w.heap.size w w' := by
  have H := Lib.hid h; clear h
  have HV := Lib.hid hv; clear hv
  go_enter Tryd.func46, Tryd.ntmps46
  go_wp2_with fail
  refine (waits_any L o k core ms w H.out HV.out hl).mono ?_
  rintro e w1 ⟨rfl, hb⟩
  have H1 := Lib.hid (H.out.below hb (Nat.le_refl _)); clear H HV
  have Hb := Lib.hid hb; clear hb
  have hdef : refReqL k ms core = (waitsL core ms || (runsL k core && k.phase != 4) || (k.owner == core && k.phase != 1)) := rfl
  generalize waitsL core ms = wt at *
  cases wt
  · have hr := Lib.hid hdef; clear hdef
    go_wp2_with fail
    refine (runs_any L o k core w1 H1.out).mono ?_
    rintro e w' ⟨rfl, rfl⟩
    have c13 := H1.out.c13
    have c0 := H1.out.c0
    generalize runsL k core = rn at *
    cases rn
    · by_cases hown : (k.owner == core) = true
      · have hr := Lib.hid (show refReqL k ms core = (k.phase != 1) by rw [hr.out, hown]; simp)
        go_wp2
        go_ret
        exact ⟨congrArg Ending.returned (congrArg Value.bool hr.out.symm), Hb.out⟩
      · have hown : (k.owner == core) = false := by simpa using hown
        have hr := Lib.hid (show refReqL k ms core = false by rw [hr.out, hown]; simp)
        go_wp2
        go_ret
        exact ⟨congrArg Ending.returned (congrArg Value.bool hr.out.symm), Hb.out⟩
    · by_cases hph : (k.phase != 4) = true
      · have hr := Lib.hid (show refReqL k ms core = true by rw [hr.out, hph]; simp)
        go_wp2
        go_ret
        exact ⟨congrArg Ending.returned (congrArg Value.bool hr.out.symm), Hb.out⟩
      · have hph : (k.phase != 4) = false := by simpa using hph
        have hp4 : k.phase = 4 := by simpa using hph
        by_cases hown : (k.owner == core) = true
        · have hr := Lib.hid (show refReqL k ms core = (k.phase != 1) by rw [hr.out, hown, hph]; simp)
          rw [hp4] at c13 hr
          clear hp4 hph
          go_wp2
          go_ret
          exact ⟨congrArg Ending.returned (congrArg Value.bool hr.out.symm), Hb.out⟩
        · have hown : (k.owner == core) = false := by simpa using hown
          have hr := Lib.hid (show refReqL k ms core = false by rw [hr.out, hown, hph]; simp)
          rw [hp4] at c13
          clear hp4 hph
          go_wp2
          go_ret
          exact ⟨congrArg Ending.returned (congrArg Value.bool hr.out.symm), Hb.out⟩
  · have hr := Lib.hid (show refReqL k ms core = true by rw [hdef]; simp)
    clear hdef
    go_wp2
    go_ret
    exact ⟨congrArg Ending.returned (congrArg Value.bool hr.out.symm), Hb.out⟩

end Go.Proofs.YtnhainjdaafmiaaDoor
