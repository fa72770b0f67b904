/- The chapter's examples that are closed: what each call answers. Conditions: those stated in each theorem. -/
import Derived.Test.YtpjgiecljjfdiaaDoorAlx
import Derived.Test.YtpjgiecljjfdiaaDoorDecD
import Derived.Test.YtpjgiecljjfdiaaDoorBackF
namespace Go.Proofs.YtpjgiecljjfdiaaDoor
open Go.RowKit Go.BigFrame

def rawA : In := ⟨3, 1, 2, 3, 0⟩
def rawB : In := ⟨3, 8, 0, 0, 0⟩
theorem rawA_ok : rawA.Ok := ⟨⟨by simp [rawA], by simp [rawA]⟩, ⟨by simp [rawA], by simp [rawA]⟩, ⟨by simp [rawA], by simp [rawA]⟩, ⟨by simp [rawA], by simp [rawA]⟩, ⟨by simp [rawA], by simp [rawA]⟩⟩
theorem rawB_ok : rawB.Ok := ⟨⟨by simp [rawB], by simp [rawB]⟩, ⟨by simp [rawB], by simp [rawB]⟩, ⟨by simp [rawB], by simp [rawB]⟩, ⟨by simp [rawB], by simp [rawB]⟩, ⟨by simp [rawB], by simp [rawB]⟩⟩
theorem it0 : Lib.itoa 0 = [48] := by rw [Lib.itoa, if_neg (by omega), Lib.decDigits]; rfl
theorem it1 : Lib.itoa 1 = [49] := by rw [Lib.itoa, if_neg (by omega), Lib.decDigits]; rfl
theorem it2 : Lib.itoa 2 = [50] := by rw [Lib.itoa, if_neg (by omega), Lib.decDigits]; rfl
theorem it3 : Lib.itoa 3 = [51] := by rw [Lib.itoa, if_neg (by omega), Lib.decDigits]; rfl
theorem it8 : Lib.itoa 8 = [56] := by rw [Lib.itoa, if_neg (by omega), Lib.decDigits]; rfl
theorem text_rawA : textP rawA = [114, 97, 119, 32, 51, 32, 49, 32, 50, 32, 51, 32, 48] := by
  have hf : formP rawA = 0 := by decide
  have hp : placesP (mask 0) = [0, 1, 2, 3, 4] := by decide
  unfold textP
  rw [hf, hp]
  simp only [textNums, List.flatMap_cons, List.flatMap_nil, rawA, In.get, it0, it1, it2, it3]
  rfl
theorem text_rawB : textP rawB = [114, 97, 119, 32, 51, 32, 56, 32, 48, 32, 48, 32, 48] := by
  have hf : formP rawB = 0 := by decide
  have hp : placesP (mask 0) = [0, 1, 2, 3, 4] := by decide
  unfold textP
  rw [hf, hp]
  simp only [textNums, List.flatMap_cons, List.flatMap_nil, rawB, In.get, it0, it3, it8]
  rfl
def bads : List (List UInt8) := ["mov 8 0", "mov 1 2 0", "raw 3 1 2 0 0", "set 1 01", "", "mov 1  2", "halt ", "raw 1 2 3 4", "add 1 2"].map fun s => s.toUTF8.toList
def badL : List (List UInt8) := [[109, 111, 118, 32, 56, 32, 48], [109, 111, 118, 32, 49, 32, 50, 32, 48], [114, 97, 119, 32, 51, 32, 49, 32, 50, 32, 48, 32, 48], [115, 101, 116, 32, 49, 32, 48, 49], [], [109, 111, 118, 32, 49, 32, 32, 50], [104, 97, 108, 116, 32], [114, 97, 119, 32, 49, 32, 50, 32, 51, 32, 52], [97, 100, 100, 32, 49, 32, 50]]
set_option maxRecDepth 100000 in
theorem bad_none : ∀ s ∈ badL, parseP s = none := by decide +kernel
theorem enc_bad : encP [⟨256, 0, 0, 0, 0⟩] = none := by decide
theorem dec_ten : decP [2, 3, 0, 0, 255, 255, 255, 254, 1, 1] = [⟨2, 3, 0, 0, -2⟩] := by decide
theorem e0 : (doP ⟨5, 0, 3, 1, 0⟩ regs3 3).value = .agg #[.int .i64 1, .int .i64 4, .int .i64 0, .int .u64 18446744073709551611, .int .u64 0] := by rw [show doP ⟨5, 0, 3, 1, 0⟩ regs3 3 = ⟨1, 4, 0, 18446744073709551611, 0⟩ by decide +kernel]; rfl
theorem e1 : (doP ⟨2, 3, 0, 0, -1⟩ regs3 3).value = .agg #[.int .i64 1, .int .i64 4, .int .i64 3, .int .u64 18446744073709551615, .int .u64 0] := by rw [show doP ⟨2, 3, 0, 0, -1⟩ regs3 3 = ⟨1, 4, 3, 18446744073709551615, 0⟩ by decide +kernel]; rfl
theorem e2 : (doP ⟨9, 0, 1, 2, 0⟩ regs3 3).value = .agg #[.int .i64 1, .int .i64 4, .int .i64 0, .int .u64 9223372036854775808, .int .u64 0] := by rw [show doP ⟨9, 0, 1, 2, 0⟩ regs3 3 = ⟨1, 4, 0, 9223372036854775808, 0⟩ by decide +kernel]; rfl
theorem e3 : (doP ⟨10, 0, 2, 1, 0⟩ regs3 3).value = .agg #[.int .i64 1, .int .i64 4, .int .i64 0, .int .u64 576460752303423487, .int .u64 0] := by rw [show doP ⟨10, 0, 2, 1, 0⟩ regs3 3 = ⟨1, 4, 0, 576460752303423487, 0⟩ by decide +kernel]; rfl
theorem e4 : (doP ⟨11, 4, 1, 0, -2⟩ regs3 3).value = .agg #[.int .i64 3, .int .i64 4, .int .i64 4, .int .u64 0, .int .u64 3] := by rw [show doP ⟨11, 4, 1, 0, -2⟩ regs3 3 = ⟨3, 4, 4, 0, 3⟩ by decide +kernel]; rfl
theorem e5 : (doP ⟨12, 2, 0, 0, 9⟩ regs3 3).value = .agg #[.int .i64 4, .int .i64 4, .int .i64 0, .int .u64 18446744073709551615, .int .u64 9] := by rw [show doP ⟨12, 2, 0, 0, 9⟩ regs3 3 = ⟨4, 4, 0, 18446744073709551615, 9⟩ by decide +kernel]; rfl
theorem e6 : (doP ⟨16, 1, 2, 0, 0⟩ regs3 3).value = .agg #[.int .i64 2, .int .i64 0, .int .i64 0, .int .u64 0, .int .u64 0] := by rw [show doP ⟨16, 1, 2, 0, 0⟩ regs3 3 = ⟨2, 0, 0, 0, 0⟩ by decide +kernel]; rfl
theorem e7 : (doP ⟨16, 2, 1, 0, 0⟩ regs3 3).value = .agg #[.int .i64 2, .int .i64 4, .int .i64 0, .int .u64 0, .int .u64 0] := by rw [show doP ⟨16, 2, 1, 0, 0⟩ regs3 3 = ⟨2, 4, 0, 0, 0⟩ by decide +kernel]; rfl
theorem e8 : (doP ⟨13, 0, 0, 0, 1024⟩ regs3 3).value = .agg #[.int .i64 2, .int .i64 1024, .int .i64 0, .int .u64 0, .int .u64 0] := by rw [show doP ⟨13, 0, 0, 0, 1024⟩ regs3 3 = ⟨2, 1024, 0, 0, 0⟩ by decide +kernel]; rfl
theorem e9 : (doP ⟨13, 0, 0, 0, 1025⟩ regs3 3).value = .agg #[.int .i64 0, .int .i64 0, .int .i64 0, .int .u64 0, .int .u64 0] := by rw [show doP ⟨13, 0, 0, 0, 1025⟩ regs3 3 = ⟨0, 0, 0, 0, 0⟩ by decide +kernel]; rfl
theorem e10 : (doP ⟨14, 0, 1, 0, -1⟩ regs3 3).value = .agg #[.int .i64 2, .int .i64 4, .int .i64 0, .int .u64 0, .int .u64 0] := by rw [show doP ⟨14, 0, 1, 0, -1⟩ regs3 3 = ⟨2, 4, 0, 0, 0⟩ by decide +kernel]; rfl
theorem e11 : (doP ⟨3, 8, 0, 0, 0⟩ regs3 3).value = .agg #[.int .i64 0, .int .i64 0, .int .i64 0, .int .u64 0, .int .u64 0] := by rw [show doP ⟨3, 8, 0, 0, 0⟩ regs3 3 = ⟨0, 0, 0, 0, 0⟩ by decide +kernel]; rfl
theorem e12 : (doP ⟨19, 0, 0, 0, 0⟩ regs3 3).value = .agg #[.int .i64 0, .int .i64 0, .int .i64 0, .int .u64 0, .int .u64 0] := by rw [show doP ⟨19, 0, 0, 0, 0⟩ regs3 3 = ⟨0, 0, 0, 0, 0⟩ by decide +kernel]; rfl
theorem e13 : (doP ⟨1, 9, 9, 9, 9⟩ regs3 3).value = .agg #[.int .i64 7, .int .i64 4, .int .i64 0, .int .u64 0, .int .u64 0] := by rw [show doP ⟨1, 9, 9, 9, 9⟩ regs3 3 = ⟨7, 4, 0, 0, 0⟩ by decide +kernel]; rfl
theorem e14 : (doP ⟨17, 0, 0, 0, 0⟩ regs3 3).value = .agg #[.int .i64 5, .int .i64 4, .int .i64 0, .int .u64 0, .int .u64 0] := by rw [show doP ⟨17, 0, 0, 0, 0⟩ regs3 3 = ⟨5, 4, 0, 0, 0⟩ by decide +kernel]; rfl
theorem e15 : (doP ⟨18, 0, 0, 0, 0⟩ regs3 3).value = .agg #[.int .i64 6, .int .i64 4, .int .i64 0, .int .u64 0, .int .u64 0] := by rw [show doP ⟨18, 0, 0, 0, 0⟩ regs3 3 = ⟨6, 4, 0, 0, 0⟩ by decide +kernel]; rfl
theorem x0 : (doP ⟨1, 0, 0, 0, 0⟩ regs3 1024).value = .agg #[.int .i64 0, .int .i64 0, .int .i64 0, .int .u64 0, .int .u64 0] := by rw [show doP ⟨1, 0, 0, 0, 0⟩ regs3 1024 = ⟨0, 0, 0, 0, 0⟩ by decide +kernel]; rfl
theorem x1 : (doP ⟨1, 0, 0, 0, 0⟩ regs3 (-1)).value = .agg #[.int .i64 0, .int .i64 0, .int .i64 0, .int .u64 0, .int .u64 0] := by rw [show doP ⟨1, 0, 0, 0, 0⟩ regs3 (-1) = ⟨0, 0, 0, 0, 0⟩ by decide +kernel]; rfl
theorem x2 : (doP ⟨1, 0, 0, 0, 0⟩ regs3 1023).value = .agg #[.int .i64 7, .int .i64 1024, .int .i64 0, .int .u64 0, .int .u64 0] := by rw [show doP ⟨1, 0, 0, 0, 0⟩ regs3 1023 = ⟨7, 1024, 0, 0, 0⟩ by decide +kernel]; rfl

theorem do_at (i : In) (pc : Int) {v : Value} (hv : (doP i regs3 pc).value = v) {w : World} (h : Std w) : Calls Tryd.prog 10 #[.agg #[.int .i64 i.op, .int .i64 i.a, .int .i64 i.b, .int .i64 i.c, .int .i64 i.imm], .agg #[.int .u64 0, .int .u64 5, .int .u64 18446744073709551615, .int .u64 0, .int .u64 0, .int .u64 0, .int .u64 0, .int .u64 0], .int .i64 pc] w fun e w' => e = .returned v ∧ Below w.heap.size w w' := by
  have := do_any i regs3 pc w h.forms regs3_ok
  rw [hv] at this
  exact this

set_option maxRecDepth 100000 in
set_option maxHeartbeats 1000000 in
theorem ask_any {op a b c m : Int} {k1 k2 k3 k4 k5 : Int} (hv : (doP ⟨op, a, b, c, m⟩ regs3 3).value = .agg #[.int .i64 k1, .int .i64 k2, .int .i64 k3, .int .u64 k4, .int .u64 k5]) {n : Nat} {w : World} (hs : Std w) (hn : Holds w n 25 [.int .u64 0, .int .u64 5, .int .u64 18446744073709551615, .int .u64 0, .int .u64 0, .int .u64 0, .int .u64 0, .int .u64 0]) :
    Calls Tryd.prog 18 #[.int .i64 op, .int .i64 a, .int .i64 b, .int .i64 c, .int .i64 m, .pointer (some ⟨n, 0, none⟩)] w fun e w' => e = .returned (.agg #[.int .i64 k1, .int .i64 k2, .int .i64 k3, .int .u64 k4, .int .u64 k5]) ∧ Below w.heap.size w w' := by
  have hd := do_at ⟨op, a, b, c, m⟩ 3 hv (hs.below ((Below.refl _ w).alloc (Nat.le_refl _) (.cells #[.int .i64 0, .int .i64 0, .int .i64 0, .int .u64 0, .int .u64 0] 27)))
  have hn1 := hn.alloc (.cells #[.int .i64 0, .int .i64 0, .int .i64 0, .int .u64 0, .int .u64 0] 27)
  have hb1 := (Below.refl _ w).alloc (Nat.le_refl _) (.cells #[.int .i64 0, .int .i64 0, .int .i64 0, .int .u64 0, .int .u64 0] 27)
  have hr1 := Holds.new w 27 [.int .i64 0, .int .i64 0, .int .i64 0, .int .u64 0, .int .u64 0]
  have c0 := hn1.cell (i := 0) rfl
  have c1 := hn1.cell (i := 1) rfl
  have c2 := hn1.cell (i := 2) rfl
  have c3 := hn1.cell (i := 3) rfl
  have c4 := hn1.cell (i := 4) rfl
  have c5 := hn1.cell (i := 5) rfl
  have c6 := hn1.cell (i := 6) rfl
  have c7 := hn1.cell (i := 7) rfl
  have Hd := Lib.hid hd; clear hd hv hn hs hn1
  have HB := Lib.hid hb1; clear hb1
  have HR := Lib.hid hr1; clear hr1
  go_enter Tryd.func18, Tryd.ntmps18
  go_wp2_with (go_at_call 10; with_reducible refine Hd.out.mono ?_; rintro e w2 ⟨rfl, hb2⟩; have hr := HR.out.below hb2; have r0 := hr.cell (i := 0) rfl; have r1 := hr.cell (i := 1) rfl; have r2 := hr.cell (i := 2) rfl; have r3 := hr.cell (i := 3) rfl; have r4 := hr.cell (i := 4) rfl; have f0 := hr.free 0; have f1 := hr.free 1; have f2 := hr.free 2; have f3 := hr.free 3; have f4 := hr.free 4; have HR2 := Lib.hid hr; have HB2 := Lib.hid (HB.out.trans (hb2.mono HB.out.size)); clear hr hb2)
  have hf : Holds (w2.setCells w.heap.size 0 [.int .i64 k1, .int .i64 k2, .int .i64 k3, .int .u64 k4, .int .u64 k5]) w.heap.size 27 [.int .i64 k1, .int .i64 k2, .int .i64 k3, .int .u64 k4, .int .u64 k5] := HR2.out.sets [.int .i64 k1, .int .i64 k2, .int .i64 k3, .int .u64 k4, .int .u64 k5] 0
  exact bodyPost_ret (results_c rfl rfl (run_loadVar_mid (w2.setCells w.heap.size 0 [.int .i64 k1, .int .i64 k2, .int .i64 k3, .int .u64 k4, .int .u64 k5]) _ 0 27 [.int .i64 k1, .int .i64 k2, .int .i64 k3, .int .u64 k4, .int .u64 k5] _ hf.full Tryd.underlying27 rfl (by kernel_rfl))) rfl ⟨rfl, below_cells (Nat.le_refl _) [.int .i64 k1, .int .i64 k2, .int .i64 k3, .int .u64 k4, .int .u64 k5] 0 w2 HB2.out⟩

theorem a_textA {w : World} (h : Std w) : Calls Tryd.prog 16 #[.agg #[.int .i64 3, .int .i64 1, .int .i64 2, .int .i64 3, .int .i64 0]] w fun e w' => e = .returned (.string ⟨#[114, 97, 119, 32, 51, 32, 49, 32, 50, 32, 51, 32, 48]⟩) ∧ Below w.heap.size w w' := by
  have := text_std rawA rawA_ok h
  rw [text_rawA] at this
  exact this
theorem a_textB {w : World} (h : Std w) : Calls Tryd.prog 16 #[.agg #[.int .i64 3, .int .i64 8, .int .i64 0, .int .i64 0, .int .i64 0]] w fun e w' => e = .returned (.string ⟨#[114, 97, 119, 32, 51, 32, 56, 32, 48, 32, 48, 32, 48]⟩) ∧ Below w.heap.size w w' := by
  have := text_std rawB rawB_ok h
  rw [text_rawB] at this
  exact this
theorem a_bad {s : List UInt8} (hs : s ∈ badL) {w : World} (h : Std w) : Calls Tryd.prog 14 #[.string ⟨s.toArray⟩] w fun e w' => e = .returned (.tuple #[.agg #[.int .i64 0, .int .i64 0, .int .i64 0, .int .i64 0, .int .i64 0], .int .i64 2]) ∧ Below w.heap.size w w' := by
  have := parse_std s (by revert s; decide) h
  rw [bad_none s hs] at this
  exact this

theorem a_dec {W : World} {q : Nat} (hq : Holds W q 5 [.int .u8 2, .int .u8 3, .int .u8 0, .int .u8 0, .int .u8 255, .int .u8 255, .int .u8 255, .int .u8 254, .int .u8 1, .int .u8 1]) :
    Calls Tryd.prog 19 #[.slice (some ⟨q, 0, none⟩) 10 10] W fun e w' => ∃ g c cap, e = .returned (.slice (some ⟨g, c, none⟩) 1 cap) ∧
      (∀ V, Below w'.heap.size w' V → V.cell? ⟨g, c, none⟩ = some (.int .i64 2) ∧ V.cell? ⟨g, c + 1, none⟩ = some (.int .i64 3) ∧ V.cell? ⟨g, c + 2, none⟩ = some (.int .i64 0) ∧ V.cell? ⟨g, c + 3, none⟩ = some (.int .i64 0) ∧ V.cell? ⟨g, c + 4, none⟩ = some (.int .i64 (-2))) ∧ Below W.heap.size W w' := by
  refine (dec_rows (a := some ⟨q, 0, none⟩) (cap := 10) (bs := [2, 3, 0, 0, 255, 255, 255, 254, 1, 1]) W (.inr ⟨q, 0, rfl, hq.lt, fun k x hk => ?_⟩) (by simp) (by simp)).mono ?_
  · rw [Nat.zero_add, Nat.mul_one]
    refine hq.range (fun i v hi => ?_)
    match i, hi with
    | 0, hi =>
      simp only [cell1, List.getElem?_cons_zero, Option.some.injEq] at hi
      subst hi
      have : k < 10 := (List.getElem?_eq_some_iff.1 hk).1
      match k, this, hk with
      | 0, _, hk | 1, _, hk | 2, _, hk | 3, _, hk | 4, _, hk | 5, _, hk | 6, _, hk | 7, _, hk | 8, _, hk | 9, _, hk => cases hk; rfl
    | i + 1, hi => simp [cell1] at hi
  · intro e w' h
    obtain ⟨a', cap', rfl, h1, h2⟩ := h
    rw [dec_ten] at h1 ⊢
    rcases h1 with h1 | ⟨g, c, rfl, hg, h1⟩
    · cases h1
    · refine ⟨g, c, cap', rfl, fun V hV => ?_, h2⟩
      have hc : ∀ i v, (In.cells ⟨2, 3, 0, 0, -2⟩)[i]? = some v → V.cell? ⟨g, c + i, none⟩ = some v := fun i v hi => by
        rw [World.cell?_of_block (a := ⟨g, c + i, none⟩) (hV.block g hg)]
        have := h1 0 _ rfl i v hi
        simpa using this
      exact ⟨hc 0 _ rfl, hc 1 _ rfl, hc 2 _ rfl, hc 3 _ rfl, hc 4 _ rfl⟩
theorem a_encbad {W : World} {q : Nat} (hq : Holds W q 23 [.int .i64 256, .int .i64 0, .int .i64 0, .int .i64 0, .int .i64 0]) : Calls Tryd.prog 20 #[.slice (some ⟨q, 0, none⟩) 1 1] W fun e w' => e = .returned (.tuple #[.slice none 0 0, .int .i64 2]) ∧ Below W.heap.size W w' := by
  refine (encode_any (some ⟨q, 0, none⟩) 1 [⟨256, 0, 0, 0, 0⟩] W (.inr ⟨q, 0, rfl, hq.lt, fun k x hk => ?_⟩) (by simp)).mono ?_
  · match k, hk with
    | 0, hk => simp only [List.getElem?_cons_zero, Option.some.injEq] at hk; subst hk; exact hq.full
  · intro e w' h
    rw [enc_bad] at h
    exact h

end Go.Proofs.YtpjgiecljjfdiaaDoor
