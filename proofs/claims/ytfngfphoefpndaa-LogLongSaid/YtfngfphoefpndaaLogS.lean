/- The document's own log: Broken. Conditions: those stated in each theorem. -/
import Derived.Test.YtfngfphoefpndaaLogR
namespace Go.Proofs.Ytfngfphoefpndaa
open Go.RowKit Go.BigFrame Go.Maps

theorem off_val {now : List Pr} {x : Pr} : offL now x = (hasL now x.a && (valL now x.a != x.v)) := by
  unfold offL hasL valL
  cases h : posL now x.a with
  | none => simp
  | some i => simp

set_option maxHeartbeats 2000000 in
theorem rbroken_any {w : World} {q : Nat} {rv wv : Value} {f : Lg} (h : RfAt w q rv wv f) (hl : f.r.length ≤ 128) (ad : Option Addr) (cap : Nat) (now : List Pr) (hnow : RowsIn w ad 2 Pr.cells now) (hln : now.length ≤ 100000) :
    Calls Try.prog 30 #[.pointer (some ⟨q, 0, none⟩), .slice ad now.length cap] w fun e w' => e = .returned (BrkAns f.r now) ∧ w = w' := by
  obtain ⟨rd, rcap, rfl, hr, hs⟩ := h.r.spot
  have c0 := h.head.cell (i := 0) rfl
  have HR := Lib.hid hr; clear hr
  have HV := Lib.hid (fun i => rvalue_any w ad cap now hnow hln i)
  clear h hnow hs
  go_enter Try.func30, Try.ntmps30
  go_wp2
  go_loopw [6] (fun i wr => wr = w ∧ ∃ k : Nat, k ≤ f.r.length ∧ i = .int .i64 k ∧ ∀ j y, j < k → f.r[j]? = some y → offL now y = false) (fun i _ => f.r.length - (intOf i).toNat)
  case atStart => exact ⟨rfl, 0, by omega, rfl, fun j y h => by omega⟩
  case round =>
    obtain ⟨rfl, k, hk, rfl, hn⟩ := hrel
    have Hn := Lib.hid hn; clear hn
    by_cases hlt : k < f.r.length
    · obtain ⟨x, hxk⟩ : ∃ x, f.r[k]? = some x := ⟨_, List.getElem?_eq_getElem hlt⟩
      obtain ⟨q0, c, rfl⟩ := rows_some HR.out (by omega)
      obtain ⟨p0, p1⟩ := rows_cells HR.out hxk
      have Hxk := Lib.hid hxk; clear hxk
      have HV1 := Lib.hid (HV.out x.a)
      by_cases ho : offL now x = true
      · have hp : brokenL f.r now = some k := broken_at Hxk.out ho Hn.out
        rw [off_val, Bool.and_eq_true] at ho
        obtain ⟨o1, o2⟩ := ho
        rw [o1] at HV1
        have o3 : decide (valL now x.a = x.v) = false := by simpa using o2
        have Hp := Lib.hid hp; clear hp o1
        go_wp2_with (go_at_call 27; refine HV1.out.mono ?_; rintro e w' ⟨rfl, rfl⟩)
        go_ret2
        exact ⟨by unfold BrkAns; rw [Hp.out]; rfl, rfl⟩
      · have ho : offL now x = false := by simpa using ho
        have Ho := Lib.hid ho
        rw [off_val] at ho
        by_cases o1 : hasL now x.a = true
        · have o2 : (valL now x.a != x.v) = false := by rw [o1] at ho; simpa using ho
          rw [o1] at HV1
          clear ho
          go_wp2_with (go_at_call 27; refine HV1.out.mono ?_; rintro e w' ⟨rfl, rfl⟩)
          go_roundw
          case rel => exact ⟨trivial, k + 1, by omega, by go_num, grow_k (p := fun y => offL now y = false) Hn.out Hxk.out Ho.out⟩
          case measure => simp [intOf]; omega
        · have o1 : hasL now x.a = false := by simpa using o1
          rw [o1] at HV1
          clear ho
          go_wp2_with (go_at_call 27; refine HV1.out.mono ?_; rintro e w' ⟨rfl, rfl⟩)
          go_roundw
          case rel => exact ⟨trivial, k + 1, by omega, by go_num, grow_k (p := fun y => offL now y = false) Hn.out Hxk.out Ho.out⟩
          case measure => simp [intOf]; omega
    · have : k = f.r.length := by omega
      subst this
      have hp : brokenL f.r now = none := broken_none Hn.out
      have Hp := Lib.hid hp; clear hp
      go_wp2
      go_ret2
      exact ⟨by unfold BrkAns; rw [Hp.out]; rfl, rfl⟩

end Go.Proofs.Ytfngfphoefpndaa
