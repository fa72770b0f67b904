/- The document's number. Conditions: those stated in each theorem. -/
import Derived.Test.YtfeemchdhbimhaaDoorLinB
import Derived.Deep.CutBlock
namespace Go.Proofs.YtfeemchdhbimhaaDoor
open Go.RowKit Go.BigFrame

theorem index_str {l : List UInt8} {k : Nat} {b : UInt8} (h : l[k]? = some b) (V : World) : (Instr.index 9 (.string ⟨l.toArray⟩) (.int .i64 (k : Int))).run Tryd.prog V = .ok (.int .u8 (b.toNat : Int)) V := by
  obtain ⟨hk, rfl⟩ := List.getElem?_eq_some_iff.1 h
  rw [run_index_string V _ _ _ _ Tryd.underlying9, dif_pos ⟨by omega, by show (k : Int) < ((l.toArray.size : Nat) : Int); simp; omega⟩]
  congr 2
theorem numGo_cons {n d : Int} {b : UInt8} (hd : (b.toNat : Int) - 48 = d) (r : List UInt8) : numGo n (b :: r) = if d < 0 ∨ 9 < d ∨ n < -922337203685477580 ∨ (n = -922337203685477580 ∧ 8 < d) then none else numGo (10 * n - d) r := by
  rw [numGo, hd]

set_option maxRecDepth 100000 in
set_option maxHeartbeats 4000000 in
theorem number_r (s : List UInt8) (hs : s.length ≤ 1000) (w : World) : Calls Tryd.prog 37 #[.string ⟨s.toArray⟩] w fun e w' => e = .returned (.tuple #[.int .i64 (numR s).1, .bool (numR s).2]) ∧ Below w.heap.size w w' := by
  have hsz : ((⟨s.toArray⟩ : ByteArray).size : Int) = s.length := by simp [ByteArray.size]
  obtain ⟨bl, hbl⟩ : ∃ z, belowP s = z := ⟨_, rfl⟩
  obtain ⟨at_, hat⟩ : ∃ k : Nat, (if bl = true then 1 else 0) = k := ⟨_, rfl⟩
  have hdr : (if belowP s = true then s.drop 1 else s) = s.drop at_ := by rw [hbl, ← hat]; cases bl <;> rfl
  have hatl : at_ ≤ s.length := by
    rw [← hat]; cases bl
    · simp
    · unfold belowP at hbl
      cases s with
      | nil => simp at hbl
      | cons c r => simp
  have hR : numR s = match numGo 0 (s.drop at_) with
      | none => (0, false)
      | some n => (if bl = true then n else IntKind.i64.wrap (-n), Lib.itoa (if bl = true then n else IntKind.i64.wrap (-n)) == s) := by unfold numR; rw [hdr, hbl]; cases numGo 0 (s.drop at_) <;> rfl
  have hlp : (0 < s.length ∧ ∃ c, s[0]? = some c ∧ bl = (c == 45)) ∨ (s.length = 0 ∧ bl = false) := by
    cases s with
    | nil => right; exact ⟨rfl, by rw [← hbl]; rfl⟩
    | cons c r => left; refine ⟨by simp, c, rfl, ?_⟩; rw [← hbl]; unfold belowP; simp
  have HR := Lib.hid hR
  clear hR hdr hbl
  have HLP := Lib.hid hlp; clear hlp
  go_enter Tryd.func37, Tryd.ntmps37
  go_upto_region 2 with fail
  go_cut [5] from 9 to 60 (fun s wx => s = .bool bl ∧ wx = w)
  case first =>
    rcases HLP.out with ⟨h0, c, hc, hb⟩ | ⟨h0, rfl⟩
    · have d1 : decide (0 < (s.length : Int)) = true := by simp; omega
      obtain ⟨v, hv⟩ : ∃ v, (c.toNat : Int) = v := ⟨_, rfl⟩
      have hi0 : ∀ V : World, (Instr.index 9 (.string ⟨s.toArray⟩) (.int .i64 0)).run Tryd.prog V = .ok (.int .u8 v) V := fun V => by rw [← hv]; exact index_str (k := 0) hc V
      have hcb : (v == 45) = bl := by
        rw [hb, ← hv]
        by_cases e : c = 45
        · subst e; rfl
        · have h45 : c.toNat ≠ 45 := fun h => e (UInt8.toNat_inj.1 h)
          have e2 : (c == 45) = false := by simpa using e
          rw [e2, beq_eq_false_iff_ne]
          omega
      clear hv
      clear hc hb
      go_wp2_with fail
      go_meet
      case rel => exact ⟨rfl, rfl⟩
    · have d1 : decide (0 < (s.length : Int)) = false := decide_eq_false (by omega)
      go_wp2_with fail
      go_meet
      case rel => exact ⟨rfl, rfl⟩
  case rest =>
    obtain ⟨rfl, rfl⟩ := hcut
    go_upto_if 17 with fail
    go_cut [6] from 9 to 60 (fun s wx => s = .int .i64 at_ ∧ wx = wc)
    case first =>
      cases bl
      all_goals
        go_wp2_with fail
        go_meet
        case rel => exact ⟨by rw [← hat]; rfl, rfl⟩
    case rest =>
      obtain ⟨rfl, rfl⟩ := hcut
      go_wp2_with fail
      go_loopw [4, 7] (fun n i wr => wr = wc ∧ ∃ (k : Nat) (n' : Int), at_ ≤ k ∧ k ≤ s.length ∧ i = .int .i64 k ∧ n = .int .i64 n' ∧ numGo 0 (s.drop at_) = numGo n' (s.drop k) ∧ -9223372036854775808 ≤ n' ∧ n' ≤ 0) (fun _ i _ => s.length - (intOf i).toNat)
      case atStart => exact ⟨rfl, at_, 0, Nat.le_refl _, hatl, rfl, rfl, rfl, by omega, by omega⟩
      case round =>
        obtain ⟨rfl, k, n, hk0, hk1, rfl, rfl, hg, hn0, hn1⟩ := hrel
        by_cases hlt : k < s.length
        · obtain ⟨b, hb⟩ : ∃ b, s[k]? = some b := ⟨s[k], List.getElem?_eq_getElem hlt⟩
          have hix := index_str hb
          have hdrop : s.drop k = b :: s.drop (k + 1) := by
            obtain ⟨h1, rfl⟩ := List.getElem?_eq_some_iff.1 hb
            exact List.drop_eq_getElem_cons h1
          have hbn := b.toNat_lt
          obtain ⟨d, hd⟩ : ∃ d, (b.toNat : Int) - 48 = d := ⟨_, rfl⟩
          have hdr : -48 ≤ d ∧ d ≤ 207 := by omega
          have hwd : IntKind.i64.wrap ((b.toNat : Int) - 48) = d := by rw [IntKind.wrap_i64, ← hd]; omega
          rw [hdrop, numGo_cons hd] at hg
          have HG := Lib.hid hg
          have HIX := hix
          clear hg hb hdrop hd
          have hkk : IntKind.i64.wrap ((k : Int) + 1) = (k : Int) + 1 := by rw [IntKind.wrap_i64]; omega
          have hki : (0 : Int) ≤ k ∧ (k : Int) < s.length := by omega
          clear hix
          by_cases h1 : d < 0
          · have e1 : decide (d < 0) = true := by simpa using h1
            have hz : numR s = (0, false) := by rw [HR.out, HG.out, if_pos (.inl h1)]
            go_wp2_with fail
            exact bodyPost_ret (results_tmp2 rfl _ _ _) rfl ⟨by first | rfl | (rw [hz]; rfl), Below.refl _ _⟩
          have e1 : decide (d < 0) = false := by simpa using h1
          by_cases h2 : 9 < d
          · have e2 : decide (9 < d) = true := by simpa using h2
            have hz : numR s = (0, false) := by rw [HR.out, HG.out, if_pos (.inr (.inl h2))]
            go_wp2_with fail
            exact bodyPost_ret (results_tmp2 rfl _ _ _) rfl ⟨by first | rfl | (rw [hz]; rfl), Below.refl _ _⟩
          have e2 : decide (9 < d) = false := by simpa using h2
          by_cases h3 : n < -922337203685477580
          · have e3 : decide (n < -922337203685477580) = true := by simpa using h3
            have hz : numR s = (0, false) := by rw [HR.out, HG.out, if_pos (.inr (.inr (.inl h3)))]
            go_wp2_with fail
            exact bodyPost_ret (results_tmp2 rfl _ _ _) rfl ⟨by first | rfl | (rw [hz]; rfl), Below.refl _ _⟩
          have e3 : decide (n < -922337203685477580) = false := by simpa using h3
          have hm1 : IntKind.i64.wrap (10 * n) = 10 * n := by rw [IntKind.wrap_i64]; omega
          by_cases h4 : n = -922337203685477580
          · have e4 : (n == -922337203685477580) = true := by simpa using h4
            by_cases h5 : 8 < d
            · have e5 : decide (8 < d) = true := by simpa using h5
              have hz : numR s = (0, false) := by rw [HR.out, HG.out, if_pos (.inr (.inr (.inr ⟨h4, h5⟩)))]
              have H4 := Lib.hid h4
              clear h4
              go_wp2_with fail
              exact bodyPost_ret (results_tmp2 rfl _ _ _) rfl ⟨by first | rfl | (rw [hz]; rfl), Below.refl _ _⟩
            · have e5 : decide (8 < d) = false := by simpa using h5
              have hm2 : IntKind.i64.wrap (10 * n - d) = 10 * n - d := by rw [IntKind.wrap_i64]; omega
              have HG2 := Lib.hid (HG.out.trans (if_neg (by omega)))
              have hr1 : -9223372036854775808 ≤ 10 * n - d := by omega
              have hr2 : 10 * n - d ≤ 0 := by omega
              have H4 := Lib.hid h4
              clear h4
              go_wp2_with fail
              go_roundw
              case rel => exact ⟨trivial, k + 1, 10 * n - d, by omega, by omega, by go_num, rfl, HG2.out, hr1, hr2⟩
              case measure => simp [intOf]; omega
          · have e4 : (n == -922337203685477580) = false := by simpa using h4
            have hm2 : IntKind.i64.wrap (10 * n - d) = 10 * n - d := by rw [IntKind.wrap_i64]; omega
            have HG2 := Lib.hid (HG.out.trans (if_neg (by omega)))
            have hr1 : -9223372036854775808 ≤ 10 * n - d := by omega
            have hr2 : 10 * n - d ≤ 0 := by omega
            go_wp2_with fail
            go_roundw
            case rel => exact ⟨trivial, k + 1, 10 * n - d, by omega, by omega, by go_num, rfl, HG2.out, hr1, hr2⟩
            case measure => simp [intOf]; omega
        · obtain rfl : k = s.length := by omega
          rw [List.drop_length, numGo] at hg
          have hz : numR s = (if bl = true then n else IntKind.i64.wrap (-n), Lib.itoa (if bl = true then n else IntKind.i64.wrap (-n)) == s) := by rw [HR.out, hg]
          have HZ := Lib.hid hz
          clear hz hg
          cases bl
          · have hi : I64 (IntKind.i64.wrap (-n)) := by rw [IntKind.wrap_i64]; unfold I64; omega
            have HD := Lib.hid (digits_any _ hi wr)
            simp only [Bool.false_eq_true, if_false] at HZ
            obtain ⟨v, hv⟩ : ∃ v, IntKind.i64.wrap (-n) = v := ⟨_, rfl⟩
            rw [hv] at HD HZ
            clear hi
            go_wp2_with (go_at_call 40; refine HD.out.mono ?_; rintro e w5 ⟨rfl, hb5⟩; have HB5 := Lib.hid hb5; clear hb5)
            exact bodyPost_ret (results_tmp2 rfl _ _ _) rfl ⟨by rw [HZ.out]; rfl, HB5.out⟩
          · have hi : I64 n := ⟨by omega, by omega⟩
            have HD := Lib.hid (digits_any _ hi wr)
            simp only [if_true] at HZ
            clear hi
            go_wp2_with (go_at_call 40; refine HD.out.mono ?_; rintro e w5 ⟨rfl, hb5⟩; have HB5 := Lib.hid hb5; clear hb5)
            exact bodyPost_ret (results_tmp2 rfl _ _ _) rfl ⟨by rw [HZ.out]; rfl, HB5.out⟩

end Go.Proofs.YtfeemchdhbimhaaDoor
