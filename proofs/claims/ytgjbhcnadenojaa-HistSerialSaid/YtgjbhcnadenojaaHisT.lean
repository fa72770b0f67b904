/- hist: memory: word, has. Conditions: those stated in each theorem. -/
import Derived.Test.YtgjbhcnadenojaaHisR
import Derived.BigQuiet
namespace Go.Proofs.Ytgjbhcnadenojaa
open Go.RowKit Go.BigFrame Go.Maps

def ucell (v : Int) : List Value := [.int .u64 v]
/-- Memory's words in memory. -/
structure WmAt (w : World) (mp ml n : Nat) (fv : Value) (m : Wd) : Prop where
  head : Holds w mp 113 [fv, .map (some ml)]
  map : MpAt w 46 .u64 ml n m.later
  first : ∃ a cap, fv = .slice a m.first.length cap ∧ RowsIn w a 1 ucell m.first
section
variable {w w' : World} {mp ml n : Nat} {fv : Value} {m : Wd}
theorem rows_same {α : Type} {w w' : World} {a : Option Addr} {n : Nat} {cells : α → List Value} {xs : List α} (h : RowsIn w a n cells xs) (hs : w.heap.size ≤ w'.heap.size) (hb : ∀ q c, a = some ⟨q, c, none⟩ → w'.heap[q]? = w.heap[q]?) : RowsIn w' a n cells xs := by
  rcases h with h | ⟨q, c, rfl, hq, h⟩
  · exact .inl h
  · exact .inr ⟨q, c, rfl, Nat.lt_of_lt_of_le hq hs, fun k x hx i v hi => by
      rw [World.cell?_of_block (a := ⟨q, c + k * n + i, none⟩) (hb q c rfl)]
      exact h k x hx i v hi⟩
theorem WmAt.below (h : WmAt w mp ml n fv m) (hb : Below w.heap.size w w') : WmAt w' mp ml n fv m := by
  obtain ⟨h1, h2, a, cap, h3, h4⟩ := h
  exact ⟨h1.below hb, h2.same (hb.block _ h2.lt), a, cap, h3, h4.below hb⟩

set_option maxHeartbeats 1000000 in
theorem word_any (h : WmAt w mp ml n fv m) (a : Int) (ha : 0 ≤ a) (hw : (Lit.int .i64 a).wf = true) :
    Calls Try.prog 38 #[.pointer (some ⟨mp, 0, none⟩), .int .i64 a] w fun z w' => z = .returned (.int .u64 (m.word a)) ∧ w = w' := by
  have c0 := h.head.cell (i := 0) rfl
  have c1 := h.head.cell (i := 1) rfl
  obtain ⟨ad, cap, rfl, hrow⟩ := h.first
  have R1 := h.map.run_ok Try.underlying111 Try.underlying46 Try.zeroU hw
  unfold Wd.word
  cases hl : m.later a with
  | some v =>
    rw [hl] at R1
    simp only [Option.getD_some, Option.isSome_some] at R1
    clear h hrow hl hw
    go_enter Try.func38, Try.ntmps38
    go_wp2
    go_ret
    exact ⟨rfl, rfl⟩
  | none =>
    rw [hl] at R1
    simp only [Option.getD_none, Option.isSome_none] at R1
    by_cases hlt : a < (m.first.length : Nat)
    · obtain ⟨k, rfl⟩ : ∃ k : Nat, a = (k : Int) := ⟨a.toNat, by omega⟩
      obtain ⟨v, hv⟩ : ∃ v, m.first[k]? = some v := ⟨_, List.getElem?_eq_getElem (by omega)⟩
      obtain ⟨q, o, rfl, hq, hr⟩ := hrow.row hv
      have cv := hr 0 _ rfl
      have hg : m.first.getD k 0 = v := by simp [List.getD, hv]
      simp only [Int.toNat_natCast, hg]
      rw [if_pos hlt]
      rw [Nat.mul_one, Nat.add_zero] at cv
      have hkl : (0 : Int) ≤ (k : Int) ∧ (k : Int) < (m.first.length : Int) := by omega
      have d1 : decide ((k : Int) < (m.first.length : Int)) = true := by simpa using hlt
      clear h hl hw hr hg hv ha
      go_enter Try.func38, Try.ntmps38
      go_wp2
      go_ret
      exact ⟨rfl, rfl⟩
    · rw [if_neg hlt]
      have d1 : decide (a < (m.first.length : Int)) = false := by simpa using hlt
      clear h hl hw hrow
      go_enter Try.func38, Try.ntmps38
      go_wp2
      go_ret
      exact ⟨rfl, rfl⟩

set_option maxRecDepth 100000 in
set_option maxHeartbeats 2000000 in
theorem mhas_any {lv : Value} {l : List Pr} (h : WmAt w mp ml n fv m) (hr : w.ownsRow 0 48 2 lv l.length (flatP l)) (hl : l.length ≤ 1000) (hf : FitL l) (h0 : ∀ p ∈ l, 0 ≤ p.a) :
    Calls Try.prog 48 #[.pointer (some ⟨mp, 0, none⟩), lv] w fun z w' => z = .returned (.bool (m.has l)) ∧ Below w.heap.size w w' := by
  obtain ⟨ad, cap, hlv⟩ : ∃ ad cap, lv = .slice ad l.length cap := by
    rcases owns_form hr with ⟨h1, h2, _⟩ | ⟨g, cap, h1, _⟩
    · exact ⟨none, 0, by rw [h1, h2]⟩
    · exact ⟨_, _, h1⟩
  subst hlv
  have H := Lib.hid h; clear h
  have HR := Lib.hid hr; clear hr
  have HF := Lib.hid hf; clear hf
  have H0 := Lib.hid h0; clear h0
  go_enter Try.func48, Try.ntmps48
  go_wp2
  go_loopw [6, 9] (fun _ i wr => ∃ k : Nat, k ≤ l.length ∧ i = .int .i64 k ∧ (l.take k).all (fun p => m.word p.a == p.v) = true ∧ Below w.heap.size w wr) (fun _ i _ => l.length - (intOf i).toNat)
  case atStart => exact ⟨0, by omega, rfl, by simp, Below.refl _ _⟩
  case round =>
    obtain ⟨k, hk, rfl, hall, hbw⟩ := hrel
    have Hall := Lib.hid hall; clear hall
    have Hbw := Lib.hid hbw; clear hbw
    by_cases hlt : k < l.length
    · obtain ⟨x, hx⟩ : ∃ x, l[k]? = some x := ⟨_, List.getElem?_eq_getElem hlt⟩
      have hrr := owns_same HR.out (w' := wr) (fun g e => Hbw.out.block g (owns_lt HR.out e).2)
      obtain ⟨g, cap', e, -, -⟩ := hrr.form (by omega)
      simp only [Value.slice.injEq] at e
      obtain ⟨rfl, -, rfl⟩ := e
      have q0 := (owns_cell hrr (g := g) rfl (j := k * 2) (u := .int .i64 x.a) (by rw [Nat.mul_comm]; exact flatP_a hx)).1
      have q1 := (owns_cell hrr (g := g) rfl (j := k * 2 + 1) (u := .int .u64 x.v) (by rw [Nat.mul_comm]; exact flatP_v hx)).1
      have hfx := HF.out x (List.mem_of_getElem? hx)
      have h0x := H0.out x (List.mem_of_getElem? hx)
      have hb2 : Below w.heap.size w (wr.alloc (.cells #[.int .i64 x.a, .int .u64 x.v] 48)) := Hbw.out.alloc Hbw.out.size _
      have HB2 := Lib.hid hb2
      have HW : Hid (∀ V, Below w.heap.size w V → Calls Try.prog 38 #[.pointer (some ⟨mp, 0, none⟩), .int .i64 x.a] V fun z w' => z = .returned (.int .u64 (m.word x.a)) ∧ V = w') := Lib.hid (fun V hV => word_any (H.out.below hV) x.a h0x hfx.1)
      have HX := Lib.hid hx; clear hx
      clear hrr hfx h0x hb2
      go_wp2_with fail
      have hc0 : (wr.alloc (.cells #[.int .i64 x.a, .int .u64 x.v] 48)).cell? ⟨wr.heap.size, 0, none⟩ = some (.int .i64 x.a) := (Holds.new wr 48 [.int .i64 x.a, .int .u64 x.v]).cell (i := 0) rfl
      have hc1 : (wr.alloc (.cells #[.int .i64 x.a, .int .u64 x.v] 48)).cell? ⟨wr.heap.size, 1, none⟩ = some (.int .u64 x.v) := (Holds.new wr 48 [.int .i64 x.a, .int .u64 x.v]).cell (i := 1) rfl
      clear q0 q1
      generalize wr.alloc (.cells #[.int .i64 x.a, .int .u64 x.v] 48) = W1 at *
      go_quiet ((go_at_call 38; exact Calls.quiet_of_same ((HW.out _ (below_drewN HB2.out _)).mono (fun _ _ h => ⟨h.1, h.2.symm⟩))))
      have HB3 := Lib.hid (below_drewN HB2.out nq)
      clear hc0 hc1
      generalize W1.drewN nq = W2 at *
      cases hv : (m.word x.a == x.v) with
      | true =>
        have b : (m.word x.a != x.v) = false := by simpa using hv
        have hv' := Lib.hid hv; clear hv
        go_wp2
        go_roundw
        case rel => exact ⟨k + 1, by omega, by go_num, by rw [List.take_add_one, List.all_append, Hall.out, HX.out]; simpa using hv'.out, HB3.out⟩
        case measure => simp [intOf]; omega
      | false =>
        have b : (m.word x.a != x.v) = true := by simpa using hv
        have hno : m.has l = false := by
          unfold Wd.has
          rw [List.all_eq_false]
          exact ⟨x, List.mem_of_getElem? HX.out, by simpa using hv⟩
        clear hv
        go_wp2
        go_ret
        exact ⟨by rw [hno]; rfl, HB3.out⟩
    · obtain rfl : k = l.length := by omega
      have hyes : m.has l = true := by have := Hall.out; rwa [List.take_length] at this
      go_wp2
      go_ret
      exact ⟨by rw [hyes]; rfl, Hbw.out⟩
end

end Go.Proofs.Ytgjbhcnadenojaa
