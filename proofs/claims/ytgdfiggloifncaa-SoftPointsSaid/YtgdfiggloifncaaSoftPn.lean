/- SoftPoints: shared without a path, and the law's walk. Conditions: those stated in each theorem. -/
import Derived.Test.YtgdfiggloifncaaSoftPw
import Derived.Test.YtgdfiggloifncaaSoftL
import Derived.Test.YtgdfiggloifncaaSoftPi
namespace Go.Proofs.Ytgdfiggloifncaa
open Go.RowKit Go.BigFrame Go.Maps Go.ChangeMaps

set_option maxRecDepth 100000 in
set_option maxHeartbeats 4000000 in
theorem shared_none (ad : Option Addr) (ws : List Int) (cap : Nat) (seq : Int) (pa ka : Option Addr) (pc kc pn : Nat) (w : World) (hx : RowsIn w ad 1 wcell ws) (hg : ∀ x ∈ ws, W64 x) (hl : ws.length ≤ 100) :
    Calls Try.prog 31 #[.slice ad ws.length cap, .agg #[.int .u64 seq, .slice pa 0 pc, .slice ka pn kc]] w fun e w' => e = .returned (.bool true) ∧ Below w.heap.size w w' := by
  have hbx := (Aparts.nil w).box 65 [.int .u64 seq, .slice pa 0 pc, .slice ka pn kc]
  have hmin : ∀ (ts : Array TypeId) (t : TypeId) (W : World), (Builtin.min_ ts t #[.int .i64 3, .int .i64 0]).run Try.prog W = .ok (.int .i64 0) W := fun ts t W => by simp [Builtin.min_, Builtin.min2]
  have hmk : ∀ (W : World), (Instr.makeSlice 46 (.int .i64 0) (.int .i64 0)).run Try.prog W = .ok (.slice (some ⟨W.heap.size, 0, none⟩) 0 0) (W.alloc (.cells (Array.replicate 0 (Value.int .i64 0)) 3)) := fun W => by kernel_rfl
  have HX := Lib.hid hx
  have HG := Lib.hid hg
  have H0 := Lib.hid hbx
  clear hx hg hbx
  go_enter Try.func31, Try.ntmps31
  have HF := Lib.hid (fun (V : World) (hb : Below w.heap.size w V) (s : Int) => first_any ad ws cap s 6 V (HX.out.below hb) HG.out (by omega) (by omega))
  go_wp2_with fail
  refine (HF.out _ H0.out.below _).mono ?_
  rintro e w1 ⟨bm, rfl, hle, hm, hb⟩
  have H1 := Lib.hid (H0.out.push (P := memP bm 14 (firstV ws (IntKind.u64.wrap (seq.tmod 1000 * 2)) 6)) hb ⟨⟨hle, hm.lt⟩, hm⟩)
  clear hle hm hb
  go_wp2_with fail
  refine (HF.out _ H1.out.below _).mono ?_
  rintro e w2 ⟨bs, rfl, hle, hm, hb⟩
  have H2 := Lib.hid (H1.out.push (P := memP bs 14 (firstV ws (IntKind.u64.wrap (0 * 2)) 6)) hb ⟨⟨hle, hm.lt⟩, hm⟩)
  clear hle hm hb H0 H1
  have hc := box_a H2.out (i := 0) rfl
  have c1 := hc.cell (i := 1) rfl
  clear hc HF HX HG
  go_wp2_with fail
  have H3 := Lib.hid (H2.out.idle ((Below.refl _ w2).alloc (Nat.le_refl _) (.cells #[] 3)))
  clear c1 H2
  generalize w2.alloc (.cells #[] 3) = w3 at *
  go_loopw [11] (fun i wr => wr = w3 ∧ i = .int .i64 0) (fun _ _ => 0)
  case atStart => exact ⟨rfl, rfl⟩
  case round =>
    obtain ⟨rfl, rfl⟩ := hrel
    have hc := box_a H3.out (i := 0) rfl
    have c2 := hc.cell (i := 2) rfl
    clear hc
    go_wp2_with fail
    go_loopw [12] (fun i wr' => wr' = wr ∧ i = .int .i64 0) (fun _ _ => 0)
    case atStart => exact ⟨rfl, rfl⟩
    case round =>
      obtain ⟨rfl, rfl⟩ := hrel
      by_cases hpn : 0 < pn
      · have dp : decide ((0 : Int) < (pn : Int)) = true := by simp; omega
        go_wp2_with fail
        go_ret
        exact ⟨rfl, H3.out.below⟩
      · have dp : decide ((0 : Int) < (pn : Int)) = false := by simp; omega
        go_wp2_with fail
        go_ret
        exact ⟨rfl, H3.out.below⟩

theorem shared_any (ad : Option Addr) (ws : List Int) (cap : Nat) (seq : Int) (pa ka : Option Addr) (pc kc : Nat) (rows : List RowQ) (picks : List Int) (w : World) (hx : RowsIn w ad 1 wcell ws) (hg : ∀ x ∈ ws, W64 x) (hl : ws.length ≤ 100) (hs : W64 seq) (hk1 : RowsIn w ka 1 pcell picks) (hk2 : ∀ k ∈ picks, 0 ≤ k ∧ k ≤ 255) (hk3 : picks.length ≤ 3000) (hr1 : RowsIn w pa 1 RowQ.cells rows) (hr2 : ∀ r ∈ rows, RowsIn w r.a 4 OpQ.cells r.xs ∧ (∀ q ∈ r.xs, q.good) ∧ r.xs.length ≤ 100) :
    Calls Try.prog 31 #[.slice ad ws.length cap, .agg #[.int .u64 seq, .slice pa rows.length pc, .slice ka picks.length kc]] w fun e w' => e = .returned (.bool true) ∧ Below w.heap.size w w' := by
  by_cases h : 1 ≤ rows.length
  · exact shared_ok ad ws cap seq pa ka pc kc rows picks w hx hg hl hs h hk1 hk2 hk3 hr1 hr2
  · rw [show rows.length = 0 by omega]
    exact shared_none ad ws cap seq pa ka pc kc picks.length w hx hg hl

set_option maxRecDepth 100000 in
set_option maxHeartbeats 4000000 in
theorem spoints_any (ad : Option Addr) (ws : List Int) (cap : Nat) (seq : Int) (pa ka : Option Addr) (pc kc : Nat) (rows : List RowQ) (picks : List Int) (w : World) (hx : RowsIn w ad 1 wcell ws) (hg : ∀ x ∈ ws, W64 x) (hs : W64 seq) (hk1 : RowsIn w ka 1 pcell picks) (hk2 : ∀ k ∈ picks, 0 ≤ k ∧ k ≤ 255) (hr1 : RowsIn w pa 1 RowQ.cells rows) (hr2 : ∀ r ∈ rows, r.ok w) (hrm : rows.length ≤ maxLen) :
    Calls Try.prog 6 #[.slice ad ws.length cap, .agg #[.int .u64 seq, .slice pa rows.length pc, .slice ka picks.length kc]] w fun e w' => e = .returned (.bool true) ∧ Below w.heap.size w w' := by
  have hbx := (Aparts.nil w).box 65 [.int .u64 seq, .slice pa rows.length pc, .slice ka picks.length kc]
  have HX := Lib.hid hx
  have HG := Lib.hid hg
  have HK1 := Lib.hid hk1
  have HK2 := Lib.hid hk2
  have HR1 := Lib.hid hr1
  have HR2 := Lib.hid hr2
  have H0 := Lib.hid hbx
  clear hx hg hbx hk1 hk2 hr1 hr2
  go_enter Try.func6, Try.ntmps6
  go_wp2_with fail
  refine (alive_ok _).mono ?_
  rintro e w1 ⟨rfl, hb⟩
  have H1 := Lib.hid (H0.out.idle hb)
  clear hb H0
  have hc := box_a H1.out (i := 0) rfl
  have c0 := hc.cell (i := 0) rfl
  have c1 := hc.cell (i := 1) rfl
  have c2 := hc.cell (i := 2) rfl
  clear hc
  have HB1 := Lib.hid H1.out.below
  by_cases hwl : 100 < ws.length
  · have d1 : decide (100 < (ws.length : Int)) = true := by simp; omega
    go_wp2_with fail
    go_ret
    exact ⟨rfl, HB1.out⟩
  have d1 : decide (100 < (ws.length : Int)) = false := by simp; omega
  by_cases hpl : 3000 < picks.length
  · have d2 : decide (3000 < (picks.length : Int)) = true := by simp; omega
    go_wp2_with fail
    go_ret
    exact ⟨rfl, HB1.out⟩
  have d2 : decide (3000 < (picks.length : Int)) = false := by simp; omega
  go_wp2_with fail
  go_loopw [6] (fun i wr => wr = w1 ∧ ∃ k : Nat, k ≤ rows.length ∧ i = .int .i64 k ∧ ∀ r ∈ rows.take k, r.xs.length ≤ 100) (fun i _ => rows.length - (intOf i).toNat)
  case atStart => exact ⟨rfl, 0, by omega, rfl, fun r hr => by simp at hr⟩
  case round =>
    obtain ⟨rfl, k, hk, rfl, hok⟩ := hrel
    have HO := Lib.hid hok; clear hok
    by_cases hlt : k < rows.length
    · obtain ⟨r, hr⟩ : ∃ r, rows[k]? = some r := ⟨rows[k], List.getElem?_eq_getElem hlt⟩
      obtain ⟨q, c, rfl, hq, hrr⟩ := HR1.out.row hr
      have hrc : wr.cell? ⟨q, c + k, none⟩ = some (.slice r.a r.xs.length r.cap) := by
        rw [World.cell?_of_block (a := ⟨q, c + k, none⟩) (HB1.out.block q hq)]
        have := hrr 0 _ rfl
        rwa [Nat.mul_one, Nat.add_zero] at this
      have HTK := Lib.hid (show rows.take (k + 1) = rows.take k ++ [r] by rw [List.take_add_one, hr]; rfl)
      clear hr hrr
      have hwk : IntKind.i64.wrap ((k : Int) + 1) = (k : Int) + 1 := by rw [IntKind.wrap_i64]; unfold maxLen at hrm; omega
      by_cases hrl : 100 < r.xs.length
      · have d3 : decide (100 < (r.xs.length : Int)) = true := by simp; omega
        go_wp2_with fail
        go_ret
        exact ⟨rfl, HB1.out⟩
      · have d3 : decide (100 < (r.xs.length : Int)) = false := by simp; omega
        go_wp2_with fail
        go_roundw
        case rel =>
          refine ⟨trivial, k + 1, by omega, by go_num, fun z hz => ?_⟩
          rw [HTK.out, List.mem_append] at hz
          rcases hz with hz | hz
          · exact HO.out z hz
          · simp at hz; subst hz; omega
        case measure => simp [intOf]; omega
    · obtain rfl : k = rows.length := by omega
      have hall := HO.out
      rw [List.take_length] at hall
      have HA := Lib.hid hall; clear hall HO
      have HS := Lib.hid (shared_any ad ws cap seq pa ka pc kc rows picks wr (HX.out.below HB1.out) HG.out (by omega) hs (HK1.out.below HB1.out) HK2.out (by omega) (HR1.out.below HB1.out) (fun r hr => ⟨(HR2.out r hr).1.below HB1.out, (HR2.out r hr).2, HA.out r hr⟩))
      go_wp2_with (go_at_call 31; refine HS.out.mono ?_; rintro e w9 ⟨rfl, hb9⟩; have HB9 := Lib.hid (HB1.out.trans (hb9.mono HB1.out.size)); clear hb9)
      go_ret
      exact ⟨rfl, HB9.out⟩

end Go.Proofs.Ytgdfiggloifncaa
