/- The directory: who waits, what is refused. Conditions: those stated in each theorem. -/
import Derived.Test.YtnhainjdaafmiaaDoorDirA
namespace Go.Proofs.YtnhainjdaafmiaaDoor
open Go.RowKit

theorem Tryd.sizeM : (Tryd.prog.info? 45).map (·.size) = some 11 := by kernel_rfl

set_option maxHeartbeats 400000 in
theorem waits1_any (m : MsgV) (B : Nat) (core : Int) (w : World) (h : w.cell? ⟨B, 0, none⟩ = some (.int .i64 core)) :
    Calls Tryd.prog 68 #[.agg m.cells.toArray, .pointer (some ⟨B, 0, none⟩)] w fun e w' => e = .returned (.bool (m.core == core)) ∧ Below w.heap.size w w' := by
  have hlt := World.block_lt_of_cell? _ _ h
  have h1 : (w.alloc (.cells m.cells.toArray 45)).cell? ⟨B, 0, none⟩ = some (.int .i64 core) := by
    rw [World.cell?_alloc_lt w _ ⟨B, 0, none⟩ hlt]; exact h
  have hb : Below w.heap.size w (w.alloc (.cells m.cells.toArray 45)) := (Below.refl _ w).alloc (Nat.le_refl _) _
  have Hb := Lib.hid hb; clear hb
  simp only [MsgV.cells] at *
  go_enter Tryd.func68, Tryd.ntmps68
  go_wp2
  go_ret
  exact ⟨rfl, Hb.out⟩

/-- Messages in a row. -/
def MsgsAt (w : World) (v : Value) (ms : List MsgV) : Prop := (ms = [] ∧ ∃ a cap, v = .slice a 0 cap) ∨ ∃ g cap, v = .slice (some ⟨g, 0, none⟩) ms.length cap ∧ g < w.heap.size ∧ ∀ i m, ms[i]? = some m → w.rangeAt g (i * 11) m.cells

def indexL (core : Int) (ms : List MsgV) : Int := match ms.findIdx? (fun m => m.core == core) with | some i => i | none => -1

set_option maxRecDepth 100000 in
set_option maxHeartbeats 1000000 in
theorem indexFunc_any (g cap B : Nat) (core : Int) (ms : List MsgV) (w : World) (hg : g < w.heap.size) (hm : ∀ i m, ms[i]? = some m → w.rangeAt g (i * 11) m.cells) (hB : w.cell? ⟨B, 0, none⟩ = some (.int .i64 core)) (hl : ms.length < 1000000) :
    Calls Tryd.prog 71 #[.slice (some ⟨g, 0, none⟩) ms.length cap, .func (.func 68) #[] #[.pointer (some ⟨B, 0, none⟩)]] w fun e w' => e = .returned (.int .i64 (indexL core ms)) ∧ Below w.heap.size w w' := by
  have hBl := World.block_lt_of_cell? _ _ hB
  have HM := Lib.hid hm; clear hm
  have HB := Lib.hid hB; clear hB
  go_enter Tryd.func71, Tryd.ntmps71
  go_wp2
  go_loopw [8] (fun i wr => ∃ k : Nat, k ≤ ms.length ∧ i = .int .i64 k ∧ Below w.heap.size w wr ∧ ∀ m ∈ ms.take k, (m.core == core) = false) (fun i _ => ms.length - (intOf i).toNat)
  case atStart => exact ⟨0, by omega, rfl, Below.refl _ _, by simp⟩
  case round =>
    obtain ⟨k, hk, rfl, hb, hno⟩ := hrel
    have Hb := Lib.hid hb; clear hb
    have Hno := Lib.hid hno; clear hno
    by_cases hlt : k < ms.length
    · obtain ⟨m, hm⟩ : ∃ m, ms[k]? = some m := ⟨ms[k], List.getElem?_eq_getElem hlt⟩
      have hr : wr.rangeAt g (k * 11) m.cells := fun i v hi => by rw [Hb.out.cell (p := ⟨g, k * 11 + i, none⟩) hg]; exact HM.out k m hm i v hi
      have hc : wr.cell? ⟨B, 0, none⟩ = some (.int .i64 core) := by rw [Hb.out.cell (p := ⟨B, 0, none⟩) hBl]; exact HB.out
      have Hr := Lib.hid hr; clear hr
      have Hc := Lib.hid hc; clear hc
      have Hm := Lib.hid hm; clear hm
      go_wp2_with (refine wpList_load_mid rfl 45 (.tmp 14) rfl g (k * 11) rfl m.cells _ ?_ Tryd.underlying45 rfl Tryd.sizeM ?_; exact Hr.out)
      refine (waits1_any m B core wr Hc.out).mono ?_
      rintro e wv ⟨rfl, hb1⟩
      have Hb1 := Lib.hid (Hb.out.trans (hb1.mono Hb.out.size)); clear hb1
      by_cases hcore : (m.core == core) = true
      · rw [hcore]
        go_wp2
        go_ret
        have hidx : ms.findIdx? (fun m => m.core == core) = some k := by
          rw [List.findIdx?_eq_some_iff_getElem]
          obtain ⟨h1, h2⟩ := List.getElem?_eq_some_iff.1 Hm.out
          refine ⟨hlt, by rw [h2]; exact hcore, fun j hj => ?_⟩
          have := Hno.out (ms[j]'(by omega)) (List.mem_of_getElem? (i := j) (by rw [List.getElem?_take, if_pos hj]; exact List.getElem?_eq_getElem _))
          simp [this]
        have e1 : indexL core ms = (k : Int) := by unfold indexL; rw [hidx]
        exact ⟨congrArg Ending.returned (congrArg (Value.int .i64) e1.symm), Hb1.out⟩
      · have hcf : (m.core == core) = false := by simpa using hcore
        have Hcf := Lib.hid hcf
        rw [hcf]
        clear hcore hcf
        go_wp2
        go_roundw
        case rel => exact ⟨k + 1, by omega, by go_num, Hb1.out, fun x hx => by
          rw [List.take_add_one, Hm.out, List.mem_append] at hx
          rcases hx with hx | hx
          · exact Hno.out x hx
          · simp only [Option.toList_some, List.mem_singleton] at hx; rw [hx]; exact Hcf.out⟩
        case measure => simp [intOf]; omega
    · have hke : k = ms.length := by omega
      subst hke
      have hidx : ms.findIdx? (fun m => m.core == core) = none := by
        rw [List.findIdx?_eq_none_iff]
        intro x hx
        exact Hno.out x (by rw [List.take_length]; exact hx)
      have Hidx := Lib.hid hidx; clear hidx
      go_wp2
      go_ret
      have e1 : indexL core ms = -1 := by unfold indexL; rw [Hidx.out]
      exact ⟨congrArg Ending.returned (congrArg (Value.int .i64) e1.symm), Hb.out⟩

theorem MsgsAt.below {w w' : World} {v : Value} {ms : List MsgV} (h : MsgsAt w v ms) {B : Nat} (hb : Below B w w') (hB : w.heap.size ≤ B) : MsgsAt w' v ms := by
  rcases h with ⟨h1, h2⟩ | ⟨g, cap, h1, h2, h3⟩
  · exact .inl ⟨h1, h2⟩
  · exact .inr ⟨g, cap, h1, Nat.lt_of_lt_of_le h2 hb.size, fun i m hm j v hv => by rw [hb.cell (p := ⟨g, i * 11 + j, none⟩) (Nat.lt_of_lt_of_le h2 hB)]; exact h3 i m hm j v hv⟩

set_option maxHeartbeats 400000 in
theorem indexFunc_none (a : Option Addr) (cap B : Nat) (w : World) :
    Calls Tryd.prog 71 #[.slice a 0 cap, .func (.func 68) #[] #[.pointer (some ⟨B, 0, none⟩)]] w fun e w' => e = .returned (.int .i64 (-1)) ∧ w = w' := by
  go_enter Tryd.func71, Tryd.ntmps71
  go_wp2
  refine wp_loop_rounds 1 ?_
  rw [rounds_succ]
  go_wp2
  go_ret
  exact ⟨rfl, rfl⟩

def waitsL (core : Int) (ms : List MsgV) : Bool := ms.any (fun m => m.core == core)
theorem indexL_ge (core : Int) (ms : List MsgV) : decide (0 ≤ indexL core ms) = waitsL core ms := by
  unfold indexL waitsL
  cases h : ms.findIdx? (fun m => m.core == core) with
  | none =>
    rw [List.findIdx?_eq_none_iff] at h
    have : ms.any (fun m => m.core == core) = false := by rw [List.any_eq_false]; intro x hx; rw [h x hx]; exact Bool.false_ne_true
    rw [this]; rfl
  | some i =>
    rw [List.findIdx?_eq_some_iff_getElem] at h
    obtain ⟨h1, h2, _⟩ := h
    have : ms.any (fun m => m.core == core) = true := List.any_eq_true.2 ⟨_, List.getElem_mem h1, h2⟩
    rw [this]; simp

set_option maxHeartbeats 400000 in
theorem contains_any (v : Value) (B : Nat) (core : Int) (ms : List MsgV) (w : World) (hv : MsgsAt w v ms) (hB : w.cell? ⟨B, 0, none⟩ = some (.int .i64 core)) (hl : ms.length < 1000000) :
    Calls Tryd.prog 67 #[v, .func (.func 68) #[] #[.pointer (some ⟨B, 0, none⟩)]] w fun e w' => e = .returned (.bool (waitsL core ms)) ∧ Below w.heap.size w w' := by
  have hge := Lib.hid (indexL_ge core ms)
  have HB := Lib.hid hB; clear hB
  rcases hv with ⟨rfl, a, cap, rfl⟩ | ⟨g, cap, rfl, hg, hm⟩
  · go_enter Tryd.func67, Tryd.ntmps67
    go_wp2_with fail
    refine (indexFunc_none a cap B w).mono ?_
    rintro e w' ⟨rfl, rfl⟩
    go_wp2
    go_ret
    exact ⟨rfl, Below.refl _ _⟩
  · have HM := Lib.hid hm; clear hm
    go_enter Tryd.func67, Tryd.ntmps67
    go_wp2_with fail
    refine (indexFunc_any g cap B core ms w hg HM.out HB.out hl).mono ?_
    rintro e w' ⟨rfl, hb⟩
    generalize indexL core ms = ix at *
    have Hb := Lib.hid hb; clear hb
    go_wp2
    go_ret
    exact ⟨congrArg Ending.returned (congrArg Value.bool hge.out), Hb.out⟩

set_option maxHeartbeats 400000 in
theorem waits_any (L o : Nat) (k : KnV) (core : Int) (ms : List MsgV) (w : World) (h : known w L o k) (hv : MsgsAt w k.wv ms) (hl : ms.length < 1000000) :
    Calls Tryd.prog 58 #[.pointer (some ⟨L, o, none⟩), .int .i64 core] w fun e w' => e = .returned (.bool (waitsL core ms)) ∧ Below w.heap.size w w' := by
  have c15 := h.c15
  have hlt := World.block_lt_of_cell? _ _ c15
  have c15' : (w.alloc (.cells #[.int .i64 core] 3)).cell? ⟨L, o + 15, none⟩ = some k.wv := by rw [World.cell?_alloc_lt w _ ⟨L, o + 15, none⟩ hlt]; exact c15
  have hb : Below w.heap.size w (w.alloc (.cells #[.int .i64 core] 3)) := (Below.refl _ w).alloc (Nat.le_refl _) _
  have HV := Lib.hid (hv.below hb (Nat.le_refl _)); clear hv
  have hB : (w.alloc (.cells #[.int .i64 core] 3)).cell? ⟨w.heap.size, 0, none⟩ = some (.int .i64 core) := by simp
  have HB := Lib.hid hB; clear hB
  have Hb := Lib.hid hb; clear hb
  clear c15 h
  go_enter Tryd.func58, Tryd.ntmps58
  go_wp2_with fail
  refine (contains_any k.wv w.heap.size core ms _ HV.out HB.out hl).mono ?_
  rintro e w' ⟨rfl, hb⟩
  have Hb1 := Lib.hid (Hb.out.trans (hb.mono (by simp))); clear hb
  go_wp2
  go_ret
  exact ⟨rfl, Hb1.out⟩

end Go.Proofs.YtnhainjdaafmiaaDoor
