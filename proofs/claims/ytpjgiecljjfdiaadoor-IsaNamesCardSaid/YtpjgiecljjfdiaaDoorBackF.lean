/- The law's own fits; Encode and Decode over rows. Conditions: those stated in each theorem. -/
import Derived.Test.YtpjgiecljjfdiaaDoorBackP2
import Derived.Test.YtpjgiecljjfdiaaDoorTxtM
namespace Go.Proofs.YtpjgiecljjfdiaaDoor
open Go.RowKit Go.BigFrame

set_option maxRecDepth 100000 in
set_option maxHeartbeats 1000000 in
theorem lfits_any (i : In) (w : World) : Calls Tryd.prog 22 #[i.val] w fun e w' => e = .returned (.bool (fitsP i)) ∧ Below w.heap.size w w' := by
  obtain ⟨op, a, b, c, imm⟩ := i
  have hbw : Below w.heap.size w ((w.alloc (.cells #[.int .i64 op, .int .i64 a, .int .i64 b, .int .i64 c, .int .i64 imm] 23)).alloc (.cells #[.int .i64 op, .int .i64 a, .int .i64 b, .int .i64 c] 3)) := ((Below.refl _ w).alloc (Nat.le_refl _) _).alloc (by simp) _
  have Hbw := Lib.hid hbw; clear hbw
  go_enter Tryd.func22, Tryd.ntmps22
  unfold In.val
  go_wp2_with fail
  go_loopw [15] (fun i wr => ∃ k : Nat, k ≤ 4 ∧ i = .int .i64 k ∧ (∀ j, j < k → byteR ((In.mk op a b c imm).get j) = true) ∧ wr = ((w.alloc (.cells #[.int .i64 op, .int .i64 a, .int .i64 b, .int .i64 c, .int .i64 imm] 23)).alloc (.cells #[.int .i64 op, .int .i64 a, .int .i64 b, .int .i64 c] 3)))
    (fun i _ => 4 - (intOf i).toNat)
  case atStart => exact ⟨0, by omega, rfl, fun j h => by omega, rfl⟩
  case round =>
    obtain ⟨k, hk, rfl, hall, rfl⟩ := hrel
    have Hall := Lib.hid hall; clear hall
    rcases (by omega : k = 0 ∨ k = 1 ∨ k = 2 ∨ k = 3 ∨ k = 4) with rfl | rfl | rfl | rfl | rfl
    · have hz : ∀ h : ¬ (0 ≤ op ∧ op ≤ 255), byteR op = false := fun h => by simp [byteR]; omega
      by_cases h0 : 0 ≤ op
      · by_cases h1 : op ≤ 255
        · clear hz
          go_wp2
          go_roundw
          case rel => exact ⟨1, by omega, rfl, fun j h => (by
            by_cases hj : j < 0
            · exact Hall.out j hj
            · have e : j = 0 := by omega
              subst e; simp [byteR, In.get, h0, h1]), trivial⟩
          case measure => simp [intOf]
        · have HZ := Lib.hid (hz (fun h => h1 h.2)); clear hz
          go_wp2
          have hf : fitsP ⟨op, a, b, c, imm⟩ = false := by simp [fitsP, HZ.out]
          refine bodyPost_ret (results_tmp rfl _ _ _) rfl ⟨by rw [hf]; rfl, Hbw.out⟩
      · have HZ := Lib.hid (hz (fun h => h0 h.1)); clear hz
        go_wp2
        have hf : fitsP ⟨op, a, b, c, imm⟩ = false := by simp [fitsP, HZ.out]
        refine bodyPost_ret (results_tmp rfl _ _ _) rfl ⟨by rw [hf]; rfl, Hbw.out⟩
    · have hz : ∀ h : ¬ (0 ≤ a ∧ a ≤ 255), byteR a = false := fun h => by simp [byteR]; omega
      by_cases h0 : 0 ≤ a
      · by_cases h1 : a ≤ 255
        · clear hz
          go_wp2
          go_roundw
          case rel => exact ⟨2, by omega, rfl, fun j h => (by
            by_cases hj : j < 1
            · exact Hall.out j hj
            · have e : j = 1 := by omega
              subst e; simp [byteR, In.get, h0, h1]), trivial⟩
          case measure => simp [intOf]
        · have HZ := Lib.hid (hz (fun h => h1 h.2)); clear hz
          go_wp2
          have hf : fitsP ⟨op, a, b, c, imm⟩ = false := by simp [fitsP, HZ.out]
          refine bodyPost_ret (results_tmp rfl _ _ _) rfl ⟨by rw [hf]; rfl, Hbw.out⟩
      · have HZ := Lib.hid (hz (fun h => h0 h.1)); clear hz
        go_wp2
        have hf : fitsP ⟨op, a, b, c, imm⟩ = false := by simp [fitsP, HZ.out]
        refine bodyPost_ret (results_tmp rfl _ _ _) rfl ⟨by rw [hf]; rfl, Hbw.out⟩
    · have hz : ∀ h : ¬ (0 ≤ b ∧ b ≤ 255), byteR b = false := fun h => by simp [byteR]; omega
      by_cases h0 : 0 ≤ b
      · by_cases h1 : b ≤ 255
        · clear hz
          go_wp2
          go_roundw
          case rel => exact ⟨3, by omega, rfl, fun j h => (by
            by_cases hj : j < 2
            · exact Hall.out j hj
            · have e : j = 2 := by omega
              subst e; simp [byteR, In.get, h0, h1]), trivial⟩
          case measure => simp [intOf]
        · have HZ := Lib.hid (hz (fun h => h1 h.2)); clear hz
          go_wp2
          have hf : fitsP ⟨op, a, b, c, imm⟩ = false := by simp [fitsP, HZ.out]
          refine bodyPost_ret (results_tmp rfl _ _ _) rfl ⟨by rw [hf]; rfl, Hbw.out⟩
      · have HZ := Lib.hid (hz (fun h => h0 h.1)); clear hz
        go_wp2
        have hf : fitsP ⟨op, a, b, c, imm⟩ = false := by simp [fitsP, HZ.out]
        refine bodyPost_ret (results_tmp rfl _ _ _) rfl ⟨by rw [hf]; rfl, Hbw.out⟩
    · have hz : ∀ h : ¬ (0 ≤ c ∧ c ≤ 255), byteR c = false := fun h => by simp [byteR]; omega
      by_cases h0 : 0 ≤ c
      · by_cases h1 : c ≤ 255
        · clear hz
          go_wp2
          go_roundw
          case rel => exact ⟨4, by omega, rfl, fun j h => (by
            by_cases hj : j < 3
            · exact Hall.out j hj
            · have e : j = 3 := by omega
              subst e; simp [byteR, In.get, h0, h1]), trivial⟩
          case measure => simp [intOf]
        · have HZ := Lib.hid (hz (fun h => h1 h.2)); clear hz
          go_wp2
          have hf : fitsP ⟨op, a, b, c, imm⟩ = false := by simp [fitsP, HZ.out]
          refine bodyPost_ret (results_tmp rfl _ _ _) rfl ⟨by rw [hf]; rfl, Hbw.out⟩
      · have HZ := Lib.hid (hz (fun h => h0 h.1)); clear hz
        go_wp2
        have hf : fitsP ⟨op, a, b, c, imm⟩ = false := by simp [fitsP, HZ.out]
        refine bodyPost_ret (results_tmp rfl _ _ _) rfl ⟨by rw [hf]; rfl, Hbw.out⟩
    · have g0 := Hall.out 0 (by omega)
      have g1 := Hall.out 1 (by omega)
      have g2 := Hall.out 2 (by omega)
      have g3 := Hall.out 3 (by omega)
      simp only [In.get] at g0 g1 g2 g3
      have hf : fitsP ⟨op, a, b, c, imm⟩ = immR imm := by simp [fitsP, g0, g1, g2, g3]
      have Hf := Lib.hid hf
      clear hf g0 g1 g2 g3
      by_cases h0 : -2147483648 ≤ imm
      · by_cases h1 : imm < 2147483648
        · go_wp2
          refine bodyPost_ret (results_tmp rfl _ _ _) rfl ⟨by rw [Hf.out]; have : immR imm = true := (by simp [immR]; omega); rw [this]; rfl, Hbw.out⟩
        · go_wp2
          refine bodyPost_ret (results_tmp rfl _ _ _) rfl ⟨by rw [Hf.out]; have : immR imm = false := (by simp [immR]; omega); rw [this]; rfl, Hbw.out⟩
      · go_wp2
        refine bodyPost_ret (results_tmp rfl _ _ _) rfl ⟨by rw [Hf.out]; have : immR imm = false := (by simp [immR]; omega); rw [this]; rfl, Hbw.out⟩

/-- What Encode answers, as rows. -/
def EncRow (w : World) (o : Option (List UInt8)) (e : Ending) (w' : World) : Prop :=
  match o with
  | none => e = .returned (.tuple #[.slice none 0 0, .int .i64 2]) ∧ Below w.heap.size w w'
  | some bs => ∃ a cap, e = .returned (.tuple #[.slice a bs.length cap, .int .i64 0]) ∧ RowsIn w' a 1 cell1 bs ∧ bs.length ≤ cap ∧ (a = none → cap = 0) ∧ Below w.heap.size w w'
theorem bytes_own {w : World} {lo : Nat} {v : Value} {bs : List UInt8} (h : w.ownsRow lo 5 1 v bs.length (Lib.byteCells bs)) : ∃ a cap, v = .slice a bs.length cap ∧ RowsIn w a 1 cell1 bs ∧ bs.length ≤ cap ∧ (a = none → cap = 0) := by
  obtain ⟨h0, ⟨rfl, h1⟩ | ⟨g, cap, cur, rfl, h2, h3, h4, h5, h6, h7⟩⟩ := h
  · have : bs = [] := List.eq_nil_of_length_eq_zero h1
    subst this
    exact ⟨none, 0, rfl, .inl rfl, Nat.le_refl _, fun _ => rfl⟩
  · refine ⟨some ⟨g, 0, none⟩, cap, rfl, .inr ⟨g, 0, rfl, (Array.getElem?_eq_some_iff.1 h3).1, fun k x hk i v hi => ?_⟩, h4, fun h => by cases h⟩
    match i, hi with
    | 0, hi =>
      simp only [cell1, List.getElem?_cons_zero, Option.some.injEq] at hi
      subst hi
      have hc : (Lib.byteCells bs)[k]? = some (.int .u8 (x.toNat : Int)) := by simp [Lib.byteCells, hk]
      rw [← h7, List.getElem?_take] at hc
      split at hc
      · simp only [Nat.zero_add, Nat.mul_one, Nat.add_zero]
        simp [World.cell?, h3]
        simpa using hc
      · cases hc
    | i + 1, hi => simp [cell1] at hi
theorem instrs_own {w : World} {lo : Nat} {v : Value} {l : List In} (h : w.ownsRow lo 23 5 v l.length (flatI l)) : ∃ a cap, v = .slice a l.length cap ∧ RowsIn w a 5 In.cells l := by
  rcases owns_form h with ⟨rfl, h1, -⟩ | ⟨g, cap, rfl, -⟩
  · have : l = [] := List.eq_nil_of_length_eq_zero h1
    subst this
    exact ⟨none, 0, rfl, .inl rfl⟩
  · exact ⟨_, cap, rfl, rows_own (more := []) (by rw [List.append_nil]; exact h)⟩
theorem enc_rows (a : Option Addr) (cap : Nat) (l : List In) (w : World) (hr : RowsIn w a 5 In.cells l) (hl : l.length ≤ 1000000) : Calls Tryd.prog 20 #[.slice a l.length cap] w fun e w' => EncRow w (encP l) e w' :=
  (encode_any a cap l w hr hl).mono fun e w' h => by
    cases ho : encP l with
    | none => rw [ho] at h; exact h
    | some bs =>
      rw [ho] at h
      obtain ⟨v, h1, h2, h3⟩ := h
      obtain ⟨a', cap', rfl, h4, h5, h6⟩ := bytes_own h2
      exact ⟨a', cap', h1, h4, h5, h6, h3⟩
theorem dec_rows {a : Option Addr} {cap : Nat} {bs : List UInt8} (w : World) (hr : RowsIn w a 1 cell1 bs) (hcap : bs.length ≤ cap) (hln : bs.length ≤ 1000000) :
    Calls Tryd.prog 19 #[.slice a bs.length cap] w fun e w' => ∃ a' cap', e = .returned (.slice a' (decP bs).length cap') ∧ RowsIn w' a' 5 In.cells (decP bs) ∧ Below w.heap.size w w' :=
  (decode_any w hr hcap hln).mono fun e w' h => by
    obtain ⟨v, h1, h2, h3⟩ := h
    obtain ⟨a', cap', rfl, h4⟩ := instrs_own h2
    exact ⟨a', cap', h1, h4, h3⟩
/-- Bytes as a string. -/
theorem conv_rows {w : World} {a : Option Addr} {cap : Nat} {bs : List UInt8} (h : RowsIn w a 1 cell1 bs) : (convert 42 9 (.slice a bs.length cap)).run Tryd.prog w = .ok (.string ⟨bs.toArray⟩) w := by
  rw [run_convert_bytes_string w _ _ 5 _ _ _ Tryd.underlying42 Tryd.underlying5 Tryd.underlying9]
  have hm : Lib.byteCells bs = (bs.map fun b => (b.toNat : Int)).map (Value.int .u8) := by simp [Lib.byteCells]
  rcases h with rfl | ⟨q, c, rfl, hq, hr⟩
  · cases a with
    | none => rfl
    | some ad =>
      have hc := run_loadCells_list (P := Tryd.prog) w ad [] (fun j v hj => by simp at hj)
      rw [List.length_nil, run_bytesToString w ad 0 cap [] (by simpa using hc)]
      rfl
  · have hc := run_loadCells_list (P := Tryd.prog) w ⟨q, c, none⟩ (Lib.byteCells bs) (fun j v hj => by
      have hadd : (⟨q, c, none⟩ : Addr).add j = ⟨q, c + j, none⟩ := by unfold Addr.add; split <;> simp_all
      rw [hadd]
      simp only [Lib.byteCells, List.getElem?_map] at hj
      cases hb : bs[j]? with
      | none => rw [hb] at hj; cases hj
      | some x =>
        rw [hb] at hj
        simp only [Option.map_some, Option.some.injEq] at hj
        subst hj
        have := hr j x hb 0 (.int .u8 (x.toNat : Int)) (by simp [cell1])
        simpa using this)
    rw [Lib.byteCells_length] at hc
    rw [run_bytesToString w _ bs.length cap (bs.map fun b => (b.toNat : Int)) (by rw [← hm]; exact hc), fold_bytes]
    congr 3
    simp [ByteArray.empty, ByteArray.emptyWithCapacity]
    rfl
theorem rows_take {w : World} {a : Option Addr} {bs : List UInt8} (h : RowsIn w a 1 cell1 bs) (n : Nat) : RowsIn w a 1 cell1 (bs.take n) := by
  rcases h with rfl | ⟨q, c, rfl, hq, hr⟩
  · exact .inl (by simp)
  · refine .inr ⟨q, c, rfl, hq, fun k x hk => hr k x ?_⟩
    rw [List.getElem?_take] at hk
    split at hk
    · exact hk
    · cases hk

end Go.Proofs.YtpjgiecljjfdiaaDoor
