/- AsmBlanks: the walk. Conditions: those stated in each theorem. -/
import Derived.Test.YtndmlnoddnaafaaDoorAsmT
import Derived.Test.YtndmlnoddnaafaaDoorAsmS
import Derived.Lib.AppendStr
import Derived.Deep.AppendLies
import Derived.Maps.AppendAt
namespace Go.Proofs.YtndmlnoddnaafaaDoor
open Go.RowKit Go.BigFrame Go.Shelf Go.Maps

theorem Tryd.infoB : (Tryd.prog.info? 5).map (fun i => (i.zero, i.size, i.bytes)) = some (some (.int .u8 0), 1, 1) := by kernel_rfl
theorem bl_len (rk : By) : ∀ t : By, (blP rk t).length ≤ (rk.length + 7) * t.length
  | [] => by simp [blP]
  | b :: r => by
    have := bl_len rk r
    have e : (if b = 10 then [32, 9, 59] ++ rk ++ [10, 10, 32, 32] else [b]).length ≤ rk.length + 7 := by split <;> simp
    unfold blP at this ⊢
    rw [List.flatMap_cons, List.length_append, List.length_cons, Nat.mul_succ]
    omega
theorem bl_snoc (rk t : By) (b : UInt8) : blP rk (t ++ [b]) = blP rk t ++ (if b = 10 then [32, 9, 59] ++ rk ++ [10, 10, 32, 32] else [b]) := by simp [blP]

set_option maxRecDepth 100000 in
set_option maxHeartbeats 4000000 in
theorem ablanks_any (s r : ByteArray) (w : World) (h : Std w) : Calls Tryd.prog 4 #[.string s, .string r] w fun e w' => e = .returned (.bool true) ∧ Below w.heap.size w w' := by
  have hal := alive_any h
  have hss : (⟨s.data.toList.toArray⟩ : ByteArray) = s := by simp
  have hrr : (⟨r.data.toList.toArray⟩ : ByteArray) = r := by simp
  have hsl : s.data.toList.length = s.size := by simp
  have hrl : r.data.toList.length = r.size := by simp
  have Hal := Lib.hid hal; clear hal
  have H := Lib.hid h; clear h
  by_cases hlong : 2000 < s.size
  · have d1 : decide (2000 < (s.size : Int)) = true := decide_eq_true (by omega)
    go_enter Tryd.func4, Tryd.ntmps4
    go_wp2_with (go_at_call 9; refine Hal.out.mono ?_; rintro e w2 ⟨rfl, hb⟩; have Hb := Lib.hid hb; clear hb)
    exact bodyPost_ret (results_tmp rfl _ _ _) rfl ⟨rfl, Hb.out⟩
  have d1 : decide (2000 < (s.size : Int)) = false := decide_eq_false (by omega)
  by_cases hlong2 : 100 < r.size
  · have d2 : decide (100 < (r.size : Int)) = true := decide_eq_true (by omega)
    go_enter Tryd.func4, Tryd.ntmps4
    go_wp2_with (go_at_call 9; refine Hal.out.mono ?_; rintro e w2 ⟨rfl, hb⟩; have Hb := Lib.hid hb; clear hb)
    exact bodyPost_ret (results_tmp rfl _ _ _) rfl ⟨rfl, Hb.out⟩
  have d2 : decide (100 < (r.size : Int)) = false := decide_eq_false (by omega)
  obtain ⟨t, ht⟩ : ∃ t, s.data.toList = t := ⟨_, rfl⟩
  obtain ⟨rk, hrk⟩ : ∃ rk, r.data.toList = rk := ⟨_, rfl⟩
  rw [ht] at hss hsl
  rw [hrk] at hrr hrl
  rw [← hss, ← hrr]
  have hts : t.length ≤ 2000 := by omega
  have hrs : rk.length ≤ 100 := by omega
  have hz1 : ((⟨t.toArray⟩ : ByteArray).size : Int) = t.length := by simp [ByteArray.size]
  have hz2 : ((⟨rk.toArray⟩ : ByteArray).size : Int) = rk.length := by simp [ByteArray.size]
  have d3 : decide (2000 < (t.length : Int)) = false := decide_eq_false (by omega)
  have d4 : decide (100 < (rk.length : Int)) = false := decide_eq_false (by omega)
  clear d1 d2 hlong hlong2 ht hrk hss hrr hsl hrl
  go_enter Tryd.func4, Tryd.ntmps4
  go_upto_region 4 with (go_at_call 9; refine Hal.out.mono ?_; rintro e w2 ⟨rfl, hb⟩; have Hb := Lib.hid hb; clear hb)
  clear d3 d4
  go_wp2_with fail
  go_loopw [6] (fun i wr => wr = w2 ∧ ∃ k : Nat, k ≤ rk.length ∧ i = .int .i64 k ∧ 10 ∉ rk.take k) (fun i _ => rk.length - (intOf i).toNat)
  case atStart => exact ⟨rfl, 0, Nat.zero_le _, rfl, by simp⟩
  case round =>
    obtain ⟨rfl, k, hk, rfl, hno⟩ := hrel
    by_cases hlt : k < rk.length
    · obtain ⟨b, hb⟩ : ∃ b, rk[k]? = some b := ⟨rk[k], List.getElem?_eq_getElem hlt⟩
      have hix := index_str hb
      have hkk : IntKind.i64.wrap ((k : Int) + 1) = (k : Int) + 1 := by rw [IntKind.wrap_i64]; omega
      have hki : (0 : Int) ≤ k ∧ (k : Int) < rk.length := by omega
      have htk : rk.take (k + 1) = rk.take k ++ [b] := by rw [List.take_add_one, hb]; rfl
      have h10 : ((b.toNat : Int) == 10) = (b == 10) := by
        by_cases e : b = 10
        · subst e; rfl
        · have e2 : b.toNat ≠ 10 := fun h => e (UInt8.toNat_inj.1 h)
          rw [beq_eq_false_iff_ne.2 e, beq_eq_false_iff_ne]; omega
      have Hno := Lib.hid hno; clear hno
      have Htk := Lib.hid htk; clear htk hb
      obtain ⟨v, hv⟩ : ∃ v, (b.toNat : Int) = v := ⟨_, rfl⟩
      rw [hv] at hix h10
      by_cases e : b = 10
      · have eb : (b == 10) = true := by simpa using e
        rw [eb] at h10
        clear hv eb e
        go_wp2_with fail
        exact bodyPost_ret (results_tmp rfl _ _ _) rfl ⟨rfl, Hb.out⟩
      · have eb : (b == 10) = false := by simpa using e
        rw [eb] at h10
        have He := Lib.hid e; clear e hv eb
        go_wp2_with fail
        go_roundw
        case rel => exact ⟨trivial, k + 1, by omega, by simp, by rw [Htk.out]; simp only [List.mem_append, List.mem_singleton, not_or]; exact ⟨Hno.out, fun h => He.out h.symm⟩⟩
        case measure => simp [intOf]; omega
    · obtain rfl : k = rk.length := by omega
      rw [List.take_length] at hno
      have Hno := Lib.hid hno; clear hno
      have ho0 : wr.ownsRow w.heap.size 5 1 (.slice none 0 0) 0 (Lib.byteCells []) := World.ownsRow_nil _ _ _ _
      have Ho0 := Lib.hid ho0; clear ho0
      obtain ⟨i0, hi0, hi1, hi2, hi3⟩ := info_parts Tryd.infoB
      have Hi0 := Lib.hid (And.intro hi0 (And.intro hi1 (And.intro hi2 hi3))); clear hi0 hi1 hi2 hi3
      go_wp2_with fail
      go_loopw [7, 8] (fun b7 i8 w3 => ∃ k : Nat, k ≤ t.length ∧ i8 = .int .i64 k ∧ w3.ownsRow w.heap.size 5 1 b7 (blP rk (t.take k)).length (Lib.byteCells (blP rk (t.take k))) ∧ Below w.heap.size w w3) (fun _ i _ => t.length - (intOf i).toNat)
      case atStart => exact ⟨0, Nat.zero_le _, rfl, Ho0.out, Hb.out⟩
      case round =>
        obtain ⟨k, hk2, rfl, hown, hbw⟩ := hrel
        have hbll := bl_len rk (t.take k)
        have hkl : (t.take k).length ≤ 2000 := by rw [List.length_take]; omega
        have hlen : (blP rk (t.take k)).length ≤ 300000 := by
          refine Nat.le_trans hbll ?_
          have : (rk.length + 7) * (t.take k).length ≤ 107 * 2000 := Nat.mul_le_mul (by omega) hkl
          omega
        have Hown := Lib.hid hown; clear hown
        have Hbw := Lib.hid hbw; clear hbw
        have Hbl := Lib.hid hlen; clear hlen hbll hkl
        by_cases hlt : k < t.length
        · obtain ⟨b, hb⟩ : ∃ b, t[k]? = some b := ⟨t[k], List.getElem?_eq_getElem hlt⟩
          have hix := index_str hb
          have hkk : IntKind.i64.wrap ((k : Int) + 1) = (k : Int) + 1 := by rw [IntKind.wrap_i64]; omega
          have hki : (0 : Int) ≤ k ∧ (k : Int) < t.length := by omega
          have htk : blP rk (t.take (k + 1)) = blP rk (t.take k) ++ (if b = 10 then [32, 9, 59] ++ rk ++ [10, 10, 32, 32] else [b]) := by rw [List.take_add_one, hb]; exact bl_snoc rk _ b
          have h10 : ((b.toNat : Int) == 10) = (b == 10) := by
            by_cases e : b = 10
            · subst e; rfl
            · have e2 : b.toNat ≠ 10 := fun h => e (UInt8.toNat_inj.1 h)
              rw [beq_eq_false_iff_ne.2 e, beq_eq_false_iff_ne]; omega
          clear hb
          generalize blP rk (t.take k) = bl at *
          by_cases e : b = 10
          · have eb : (b == 10) = true := by simpa using e
            rw [eb] at h10
            rw [if_pos e] at htk
            have Htk := Lib.hid htk; clear htk
            obtain ⟨v, hv⟩ : ∃ v, (b.toNat : Int) = v := ⟨_, rfl⟩
            rw [hv] at hix h10
            clear hv eb e
            go_wp2_with (at_builtin; refine Lib.wpList_append_own_string _ rfl _ _ 31 9 rfl w.heap.size 5 i0 Tryd.underlying31 Tryd.underlying9 Hi0.out.1 Hi0.out.2.1 Hi0.out.2.2.1 Hi0.out.2.2.2 _ _ _ rfl Hown.out ⟨#[32, 9, 59]⟩ rfl (by have := Hbl.out; simp [ByteArray.size, maxLen]; omega) (by have := Hbl.out; simp [ByteArray.size]; omega) Hbw.out.size ?_; intro v4 w4 hown4 hgrow4 _; refine Hid.out ?_)
            refine Lib.hid ?_
            have Hb4 := Lib.hid (Hbw.out.grown hgrow4 Hbw.out.size (fun g e => (owns_lt Hown.out e).1))
            have Ho4 := Lib.hid hown4; clear hown4 hgrow4
            go_wp2_with (at_builtin; refine Lib.wpList_append_own_string _ rfl _ _ 31 9 rfl w.heap.size 5 i0 Tryd.underlying31 Tryd.underlying9 Hi0.out.1 Hi0.out.2.1 Hi0.out.2.2.1 Hi0.out.2.2.2 _ _ _ rfl Ho4.out ⟨rk.toArray⟩ rfl (by have := Hbl.out; simp [ByteArray.size, maxLen]; omega) (by have := Hbl.out; simp [ByteArray.size]; omega) Hb4.out.size ?_; intro v5 w5 hown5 hgrow5 _; refine Hid.out ?_)
            refine Lib.hid ?_
            have Hb5 := Lib.hid (Hb4.out.grown hgrow5 Hb4.out.size (fun g e => (owns_lt Ho4.out e).1))
            have Ho5 := Lib.hid hown5; clear hown5 hgrow5
            go_wp2_with (at_builtin; refine Lib.wpList_append_own_string _ rfl _ _ 31 9 rfl w.heap.size 5 i0 Tryd.underlying31 Tryd.underlying9 Hi0.out.1 Hi0.out.2.1 Hi0.out.2.2.1 Hi0.out.2.2.2 _ _ _ rfl Ho5.out ⟨#[10, 10, 32, 32]⟩ rfl (by have := Hbl.out; simp [ByteArray.size, maxLen]; omega) (by have := Hbl.out; simp [ByteArray.size]; omega) Hb5.out.size ?_; intro v6 w6 hown6 hgrow6 _; refine Hid.out ?_)
            refine Lib.hid ?_
            have Hb6 := Lib.hid (Hb5.out.grown hgrow6 Hb5.out.size (fun g e => (owns_lt Ho5.out e).1))
            have ho6 : w6.ownsRow w.heap.size 5 1 v6 (bl ++ ([32, 9, 59] ++ rk ++ [10, 10, 32, 32])).length (Lib.byteCells (bl ++ ([32, 9, 59] ++ rk ++ [10, 10, 32, 32]))) := by
              have e1 : (bl ++ ([32, 9, 59] ++ rk ++ [10, 10, 32, 32])).length = bl.length + 3 + rk.length + 4 := by simp; omega
              have e2 : Lib.byteCells (bl ++ ([32, 9, 59] ++ rk ++ [10, 10, 32, 32])) = Lib.byteCells bl ++ Lib.strCells ⟨#[32, 9, 59]⟩ ++ Lib.strCells ⟨rk.toArray⟩ ++ Lib.strCells ⟨#[10, 10, 32, 32]⟩ := by simp [Lib.byteCells, Lib.strCells]
              rw [e1, e2]; exact hown6
            have Ho6 := Lib.hid ho6; clear ho6 hown6 hgrow6
            go_wp2_with fail
            go_roundw
            case rel => exact ⟨k + 1, by omega, by simp, by rw [Htk.out]; exact Ho6.out, Hb6.out⟩
            case measure => simp [intOf]; omega
          · have eb : (b == 10) = false := by simpa using e
            rw [eb] at h10
            rw [if_neg e] at htk
            have Htk := Lib.hid htk; clear htk
            go_wp2_with (at_builtin; go_loud (refine wpList_append_own_at _ rfl (.tmp 57) (.tmp 61) 31 rfl w.heap.size 5 i0 _ 1 1 Tryd.underlying31 Hi0.out.1 Hi0.out.2.1 Hi0.out.2.2.1 Hi0.out.2.2.2 rfl (by decide) _ _ (Lib.byteCells bl) rfl (World.ownsRow.alloc Hown.out _) ⟨wr.heap.size, 0, none⟩ 1 1 [.int .u8 (b.toNat : Int)] rfl rfl (World.news_of_block (cs := #[.int .u8 (b.toNat : Int)]) (t := 5) (fr := (0, 0)) (new_block wr _)) (by simp [Value.oneCell']) (by have := Hbl.out; unfold maxLen; omega) (by have := Hbl.out; omega) (by have := Hbw.out.size; simp; omega) ?_); intro v6 w6 hown6 hgrow6 _ _; refine Hid.out ?_)
            refine Lib.hid ?_
            have Hb6 := Lib.hid ((Hbw.out.alloc Hbw.out.size _).grown hgrow6 (by have := Hbw.out.size; simp; omega) (fun g e => (owns_lt Hown.out e).1))
            have ho6 : w6.ownsRow w.heap.size 5 1 v6 (bl ++ [b]).length (Lib.byteCells (bl ++ [b])) := by
              have e1 : (bl ++ [b]).length = bl.length + 1 := by simp
              have e2 : Lib.byteCells (bl ++ [b]) = Lib.byteCells bl ++ [.int .u8 (b.toNat : Int)] := by simp [Lib.byteCells]
              rw [e1, e2]; exact hown6
            have Ho6 := Lib.hid ho6; clear ho6 hown6 hgrow6
            go_wp2_with fail
            go_roundw
            case rel => exact ⟨k + 1, by omega, by simp, by rw [Htk.out]; exact Ho6.out, Hb6.out⟩
            case measure => simp [intOf]; omega
        · obtain rfl : k = t.length := by omega
          rw [List.take_length] at Hown Hbl
          have hbr := blanks_read Hno.out t
          have hC : asmC (blP rk t) = asmC t := by
            unfold asmC
            by_cases h0 : (readP t).2 = 0
            · rw [if_pos h0, if_pos (hbr.2.2 h0), hbr.1]
            · rw [if_neg h0, if_neg (fun e => h0 (hbr.2.1 e))]
          have hE : asmE (blP rk t) = asmE t := by
            unfold asmE
            by_cases h0 : (readP t).2 = 0
            · rw [if_pos h0, if_pos (hbr.2.2 h0)]
            · rw [if_neg h0, if_neg (fun e => h0 (hbr.2.1 e))]
          have hcl : (asmC t).length ≤ 1024 := by
            have := (read_many (m := namesP t) (linesP 1 t) ⟨[], []⟩ (by simp)).2
            unfold asmC
            split
            · exact this
            · simp
          have ha1 := asm_any t (by omega) (H.out.below Hbw.out)
          have ha2 := fun V hV => asm_any (blP rk t) (by have := Hbl.out; omega) (w := V) hV
          have HA1 := Lib.hid ha1; clear ha1
          have HA2 := Lib.hid ha2; clear ha2
          have HCE := Lib.hid (And.intro hC (And.intro hE hcl)); clear hC hE hcl hbr
          go_wp2_with fail
          refine HA1.out.mono ?_
          rintro e w5 ⟨cv, ⟨rfl, hcr⟩, hb5⟩
          have ho5 := owns_same Hown.out (w' := w5) (fun g e => hb5.block g (owns_lt Hown.out e).2)
          have hcv := conv_own ho5
          have Hb5 := Lib.hid (Hbw.out.trans (hb5.mono Hbw.out.size)); clear hb5 ho5
          have Hcr := Lib.hid hcr; clear hcr
          go_wp2_with fail
          refine (HA2.out w5 (H.out.below Hb5.out)).mono ?_
          rintro e w6 ⟨cv2, ⟨rfl, hcr2⟩, hb6⟩
          have hcr1 := owns_same Hcr.out (w' := w6) (fun g e => hb6.block g (owns_lt Hcr.out e).2)
          have Hb6 := Lib.hid (Hb5.out.trans (hb6.mono Hb5.out.size)); clear hb6
          obtain ⟨a1, c1, rfl⟩ := row_form hcr1
          obtain ⟨a2, c2, rfl⟩ := row_form hcr2
          rw [HCE.out.1] at hcr2 ⊢
          rw [HCE.out.2.1]
          have hsm := same_yes a1 a2 c1 c2 (asmC t) w6 (rows_all hcr1) (rows_all hcr2) (by have := HCE.out.2.2; omega)
          have Hsm := Lib.hid hsm; clear hsm hcr1 hcr2 hcv
          generalize asmE t = er at *
          have be1 : ((er : Int) == (er : Int)) = true := by simp
          go_wp2_with fail
          refine Hsm.out.mono ?_
          rintro e w7 ⟨rfl, hb7⟩
          have Hb7 := Lib.hid (Hb6.out.trans (hb7.mono Hb6.out.size)); clear hb7
          go_wp2_with fail
          exact bodyPost_ret (results_tmp rfl _ _ _) rfl ⟨rfl, Hb7.out⟩

end Go.Proofs.YtndmlnoddnaafaaDoor
