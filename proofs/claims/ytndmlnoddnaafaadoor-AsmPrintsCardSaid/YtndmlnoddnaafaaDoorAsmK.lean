/- Assemble, Labels; the chapter's first example. Conditions: those stated in each theorem. -/
import Derived.Test.YtndmlnoddnaafaaDoorAsmJ
namespace Go.Proofs.YtndmlnoddnaafaaDoor
open Go.RowKit Go.BigFrame Go.Shelf Go.Maps

/-- What Assemble and Labels answer. -/
def asmC (tx : By) : List In := if (readP tx).2 = 0 then (readP tx).1.code else []
def asmB (tx : By) : List (By × Nat) := if (readP tx).2 = 0 then (readP tx).1.labels else []
def asmE (tx : By) : Nat := if (readP tx).2 = 0 then 0 else 150
def AsmO (tx : By) (w : World) (e : Ending) (w' : World) : Prop := ∃ v, (e = .returned (.tuple #[v, .int .i64 (readP tx).2, .int .i64 (asmE tx)]) ∧ w'.ownsRow w.heap.size 44 5 v (asmC tx).length (flatA (asmC tx))) ∧ Below w.heap.size w w'
def LabO (tx : By) (w : World) (e : Ending) (w' : World) : Prop := ∃ v, (e = .returned (.tuple #[v, .int .i64 (readP tx).2, .int .i64 (asmE tx)]) ∧ w'.ownsRow w.heap.size 39 2 v (asmB tx).length (flatB (asmB tx))) ∧ Below w.heap.size w w'
theorem owns_none (w : World) (lo : Nat) (e : TypeId) (size : Nat) : w.ownsRow lo e size (.slice none 0 0) 0 [] := ⟨by simp, .inl ⟨rfl, rfl⟩⟩

set_option maxRecDepth 100000 in
set_option maxHeartbeats 2000000 in
theorem asm_any (tx : By) (htx : tx.length ≤ 800000) {w : World} (h : Std w) : Calls Tryd.prog 10 #[.string ⟨tx.toArray⟩] w (AsmO tx w) := by
  have hr := read_any tx htx h
  have Hr := Lib.hid hr; clear hr
  clear h
  go_enter Tryd.func10, Tryd.ntmps10
  go_wp2_with fail
  refine Hr.out.mono ?_
  rintro e w2 ⟨b, mb, ⟨rfl, hrd⟩, hb⟩
  obtain ⟨cv, lv, hrd⟩ := hrd
  have c1 := hrd.head.cell (i := 1) rfl
  have Hrd := Lib.hid hrd; clear hrd
  have Hb := Lib.hid hb; clear hb
  by_cases h0 : (readP tx).2 = 0
  · have H0 := Lib.hid h0
    rw [h0]
    clear h0
    go_wp2_with fail
    refine bodyPost_ret (results_tmp3 rfl _ _ _) rfl ⟨cv, ⟨?_, ?_⟩, Hb.out⟩
    · unfold asmE; rw [if_pos H0.out, H0.out]; rfl
    · unfold asmC; rw [if_pos H0.out]; exact Hrd.out.code
  · have e1 : (((readP tx).2 : Int) == 0) = false := by rw [beq_eq_false_iff_ne]; omega
    have H0 := Lib.hid h0; clear h0
    obtain ⟨k, hk⟩ : ∃ k, (readP tx).2 = k := ⟨_, rfl⟩
    rw [hk] at e1 ⊢
    have HK := Lib.hid hk; clear hk
    go_wp2_with fail
    refine bodyPost_ret (results_tmp3 rfl _ _ _) rfl ⟨.slice none 0 0, ⟨?_, ?_⟩, Hb.out⟩
    · unfold asmE; rw [if_neg H0.out, HK.out]; rfl
    · unfold asmC; rw [if_neg H0.out]; exact owns_none _ _ _ _

set_option maxRecDepth 100000 in
set_option maxHeartbeats 2000000 in
theorem labels_any (tx : By) (htx : tx.length ≤ 800000) {w : World} (h : Std w) : Calls Tryd.prog 11 #[.string ⟨tx.toArray⟩] w (LabO tx w) := by
  have hr := read_any tx htx h
  have Hr := Lib.hid hr; clear hr
  clear h
  go_enter Tryd.func11, Tryd.ntmps11
  go_wp2_with fail
  refine Hr.out.mono ?_
  rintro e w2 ⟨b, mb, ⟨rfl, hrd⟩, hb⟩
  obtain ⟨cv, lv, hrd⟩ := hrd
  have c1 := hrd.head.cell (i := 2) rfl
  have Hrd := Lib.hid hrd; clear hrd
  have Hb := Lib.hid hb; clear hb
  by_cases h0 : (readP tx).2 = 0
  · have H0 := Lib.hid h0
    rw [h0]
    clear h0
    go_wp2_with fail
    refine bodyPost_ret (results_tmp3 rfl _ _ _) rfl ⟨lv, ⟨?_, ?_⟩, Hb.out⟩
    · unfold asmE; rw [if_pos H0.out, H0.out]; rfl
    · unfold asmB; rw [if_pos H0.out]; exact Hrd.out.labs
  · have e1 : (((readP tx).2 : Int) == 0) = false := by rw [beq_eq_false_iff_ne]; omega
    have H0 := Lib.hid h0; clear h0
    obtain ⟨k, hk⟩ : ∃ k, (readP tx).2 = k := ⟨_, rfl⟩
    rw [hk] at e1 ⊢
    have HK := Lib.hid hk; clear hk
    go_wp2_with fail
    refine bodyPost_ret (results_tmp3 rfl _ _ _) rfl ⟨.slice none 0 0, ⟨?_, ?_⟩, Hb.out⟩
    · unfold asmE; rw [if_neg H0.out, HK.out]; rfl
    · unfold asmB; rw [if_neg H0.out]; exact owns_none _ _ _ _

/-! ### The first example -/
def exAlive : By := [108, 111, 111, 112, 58, 10, 32, 108, 111, 97, 100, 32, 49, 32, 48, 32, 56, 10, 32, 101, 113, 32, 49, 32, 48, 32, 108, 111, 111, 112, 32, 59, 32, 97, 103, 97, 105, 110, 10, 104, 97, 108, 116]
theorem alive_read : (readP exAlive).2 = 0 ∧ (readP exAlive).1.code = [⟨11, 1, 0, 0, 8⟩, ⟨14, 1, 0, 0, 0⟩, ⟨1, 0, 0, 0, 0⟩] := by decide +kernel
theorem eqf_step (d : Nat) (f : Field) (fs : List Field) (xs ys : Array Value) (a b : Value) (r : Bool) (w : World) (hn : f.name ≠ "_") (h1 : (part f.type xs f.offset).run Tryd.prog w = .ok a w) (h2 : (part f.type ys f.offset).run Tryd.prog w = .ok b w) (h3 : (Op.equalIn d f.type a b).run Tryd.prog w = .ok r w) :
    (Op.eqFields d xs ys (f :: fs)).run Tryd.prog w = if r then (Op.eqFields d xs ys fs).run Tryd.prog w else .ok false w := by
  simp only [Op.eqFields, if_pos hn, Sem.run_bind, h1, h2, h3, Result.andThen_ok]
  cases r <;> simp
set_option maxRecDepth 100000 in
theorem same_in' (a b c e f a' b' c' e' f' : Int) (d : Nat) (w : World) : (Op.equalIn (d + 3) 44 (.agg #[.int .i64 a, .int .i64 b, .int .i64 c, .int .i64 e, .int .i64 f]) (.agg #[.int .i64 a', .int .i64 b', .int .i64 c', .int .i64 e', .int .i64 f'])).run Tryd.prog w = .ok (a == a' && (b == b' && (c == c' && (e == e' && f == f')))) w := by
  rw [run_equalIn_agg w (d + 2) 44 _ _ (by kernel_rfl) Tryd.stoodInHeld44]
  rw [show (Tryd.prog.fieldsOf 44).toList = [{ name := "Op", type := 3, offset := 0, embedded := false, tag := "", pkgPath := "", byteOffset := 0 }, { name := "A", type := 3, offset := 1, embedded := false, tag := "", pkgPath := "", byteOffset := 8 }, { name := "B", type := 3, offset := 2, embedded := false, tag := "", pkgPath := "", byteOffset := 16 },
        { name := "C", type := 3, offset := 3, embedded := false, tag := "", pkgPath := "", byteOffset := 24 }, { name := "Imm", type := 3, offset := 4, embedded := false, tag := "", pkgPath := "", byteOffset := 32 }] from by kernel_rfl]
  rw [eqf_step (d + 2) _ _ _ _ (.int .i64 a) (.int .i64 a') (a == a') w (by simp) (by kernel_rfl) (by kernel_rfl) (run_equalIn_int w (d + 1) 3 .i64 .i64 a a' Tryd.underlying3),
    eqf_step (d + 2) _ _ _ _ (.int .i64 b) (.int .i64 b') (b == b') w (by simp) (by kernel_rfl) (by kernel_rfl) (run_equalIn_int w (d + 1) 3 .i64 .i64 b b' Tryd.underlying3),
    eqf_step (d + 2) _ _ _ _ (.int .i64 c) (.int .i64 c') (c == c') w (by simp) (by kernel_rfl) (by kernel_rfl) (run_equalIn_int w (d + 1) 3 .i64 .i64 c c' Tryd.underlying3),
    eqf_step (d + 2) _ _ _ _ (.int .i64 e) (.int .i64 e') (e == e') w (by simp) (by kernel_rfl) (by kernel_rfl) (run_equalIn_int w (d + 1) 3 .i64 .i64 e e' Tryd.underlying3),
    eqf_step (d + 2) _ _ _ _ (.int .i64 f) (.int .i64 f') (f == f') w (by simp) (by kernel_rfl) (by kernel_rfl) (run_equalIn_int w (d + 1) 3 .i64 .i64 f f' Tryd.underlying3)]
  cases a == a' <;> cases b == b' <;> cases c == c' <;> cases e == e' <;> cases f == f' <;> simp [Op.eqFields]
theorem same_in (i j : In) (w : World) : (Op.equalIn 10000 44 (.agg #[.int .i64 i.op, .int .i64 i.a, .int .i64 i.b, .int .i64 i.c, .int .i64 i.imm]) (.agg #[.int .i64 j.op, .int .i64 j.a, .int .i64 j.b, .int .i64 j.c, .int .i64 j.imm])).run Tryd.prog w = .ok (decide (i = j)) w := by
  obtain ⟨a, b, c, e, f⟩ := i
  obtain ⟨a', b', c', e', f'⟩ := j
  rw [show (10000 : Nat) = 9997 + 3 from rfl, same_in']
  congr 1
  by_cases h1 : a = a' <;> by_cases h2 : b = b' <;> by_cases h3 : c = c' <;> by_cases h4 : e = e' <;> by_cases h5 : f = f' <;> simp [h1, h2, h3, h4, h5]
@[local go_sem ↓ high] theorem same_inv (a b c e f : Int) (w : World) : (Op.equalIn 10000 44 (.agg #[.int .i64 a, .int .i64 b, .int .i64 c, .int .i64 e, .int .i64 f]) (.agg #[.int .i64 a, .int .i64 b, .int .i64 c, .int .i64 e, .int .i64 f])).run Tryd.prog w = .ok true w := by
  rw [same_in ⟨a, b, c, e, f⟩ ⟨a, b, c, e, f⟩]; simp

set_option maxRecDepth 100000 in
set_option maxHeartbeats 2000000 in
theorem alive_any {w : World} (h : Std w) : Calls Tryd.prog 9 #[] w fun e w' => e = .returned (.bool true) ∧ Below w.heap.size w w' := by
  have ha := asm_any exAlive (by decide) h
  have hx : (⟨exAlive.toArray⟩ : ByteArray) = ⟨#[108, 111, 111, 112, 58, 10, 32, 108, 111, 97, 100, 32, 49, 32, 48, 32, 56, 10, 32, 101, 113, 32, 49, 32, 48, 32, 108, 111, 111, 112, 32, 59, 32, 97, 103, 97, 105, 110, 10, 104, 97, 108, 116]⟩ := rfl
  rw [hx] at ha
  have Ha := Lib.hid ha; clear ha hx h
  go_enter Tryd.func9, Tryd.ntmps9
  go_wp2_with fail
  refine Ha.out.mono ?_
  rintro e w2 ⟨v, ⟨rfl, hrow⟩, hb⟩
  unfold asmC at hrow
  unfold asmE
  rw [alive_read.1, if_pos rfl, alive_read.2] at hrow
  rw [alive_read.1, if_pos rfl]
  rcases owns_form hrow with ⟨_, h0, _⟩ | ⟨g, cap, rfl, hg⟩
  · cases h0
  have x5 := (owns_cell hrow hg (j := 5) (u := .int .i64 14) rfl).1
  have x6 := (owns_cell hrow hg (j := 6) (u := .int .i64 1) rfl).1
  have x7 := (owns_cell hrow hg (j := 7) (u := .int .i64 0) rfl).1
  have x8 := (owns_cell hrow hg (j := 8) (u := .int .i64 0) rfl).1
  have x9 := (owns_cell hrow hg (j := 9) (u := .int .i64 0) rfl).1
  have x10 := (owns_cell hrow hg (j := 10) (u := .int .i64 1) rfl).1
  have Hb := Lib.hid hb; clear hb
  clear hrow hg
  go_wp2_with fail
  exact bodyPost_ret (results_tmp rfl _ _ _) rfl ⟨rfl, Hb.out⟩

end Go.Proofs.YtndmlnoddnaafaaDoor
