/- The document's Parse. Conditions: those stated in each theorem. -/
import Derived.Test.YtfeemchdhbimhaaDoorLinI
import Derived.Test.YtfeemchdhbimhaaDoorLinR
import Derived.Test.YtfeemchdhbimhaaDoorTxtF0
import Derived.Deep.CutBlock
namespace Go.Proofs.YtfeemchdhbimhaaDoor
open Go.RowKit Go.BigFrame

theorem infoI_parts : ∃ i, Tryd.prog.info? 3 = some i ∧ i.zero = some (.int .i64 0) ∧ i.size = 1 ∧ i.bytes = 8 := Go.info_parts (P := Tryd.prog) (e := 3) (z := .int .i64 0) (size := 1) (bytes := 8) (by kernel_rfl)
theorem words_short : ∀ (s w : List UInt8) (x : List UInt8), x ∈ wordsR w s → x.length ≤ w.length + s.length
  | [], w, x, h => by simp [wordsR] at h; subst h; simp
  | b :: r, w, x, h => by
    rw [wordsR] at h
    split at h
    · rcases List.mem_cons.1 h with rfl | h
      · omega
      · have := words_short r [] x h
        simp at this ⊢; omega
    · have := words_short r _ x h
      simp at this ⊢; omega
theorem words_few : ∀ (s w : List UInt8), (wordsR w s).length ≤ s.length + 1
  | [], w => by simp [wordsR]
  | b :: r, w => by
    rw [wordsR]
    split
    · have := words_few r []; simp; omega
    · have := words_few r (w ++ [b]); simp; omega
/-- Where Parse stands among the words. -/
structure LpS (w V : World) (lo gw wc : Nat) (Ws : List (List UInt8)) (nv : Value) (nl : List Int) : Prop where
  below : Below w.heap.size w V
  res : Holds V w.heap.size 23 [.int .i64 0, .int .i64 0, .int .i64 0, .int .i64 0, .int .i64 0]
  row : V.ownsRow lo 9 1 (.slice (some ⟨gw, 0, none⟩) Ws.length wc) Ws.length (Ws.map strV)
  nums : V.ownsRow w.heap.size 3 1 nv nl.length (nl.map (.int .i64))
theorem LpS.idle {w V V' : World} {lo gw wc : Nat} {Ws : List (List UInt8)} {nv : Value} {nl : List Int} (h : LpS w V lo gw wc Ws nv nl) (hb : Below V.heap.size V V') : LpS w V' lo gw wc Ws nv nl :=
  ⟨h.below.trans (hb.mono h.below.size), h.res.below hb, owns_same h.row (fun g e => hb.block g (owns_lt h.row e).2), owns_same h.nums (fun g e => hb.block g (owns_lt h.nums e).2)⟩
theorem LpS.cell {w V : World} {lo gw wc : Nat} {Ws : List (List UInt8)} {nv : Value} {nl : List Int} (h : LpS w V lo gw wc Ws nv nl) {k : Nat} {x : List UInt8} (hx : Ws[k]? = some x) : V.cell? ⟨gw, k, none⟩ = some (.string ⟨x.toArray⟩) :=
  (owns_cell h.row (g := gw) rfl (j := k) (u := strV x) (by rw [List.getElem?_map, hx]; rfl)).1
theorem LpS.push {w V V2 V' : World} {lo gw wc : Nat} {Ws : List (List UInt8)} {nv nv' : Value} {nl : List Int} {x : Int} (h : LpS w V lo gw wc Ws nv nl) (hV : Below V.heap.size V V2) (ho : V'.ownsRow w.heap.size 3 1 nv' (nl.length + 1) (nl.map (.int .i64) ++ [.int .i64 x])) (hg : V2.grownBy V' nv.ownBlock) : LpS w V' lo gw wc Ws nv' (nl ++ [x]) := by
  have hT : Tch (fun q => nv.ownBlock = some q) V V' := (Tch.of_idle hV).grown hg (fun k e => .inl e)
  have hk := fun q (e : nv.ownBlock = some q) => owns_kind h.nums e
  refine ⟨?_, hT.holds (fun e => ?_) h.res, owns_same h.row (fun g e => hT.block g (owns_lt h.row e).2 (fun e2 => ?_)), by rw [List.length_append, List.map_append]; exact ho⟩
  · exact h.below.trans (hT.below h.below.size (fun q e => (owns_lt h.nums e).1))
  · obtain ⟨c, hc⟩ := hk _ e
    have hr := h.res
    unfold Holds at hr; rw [hc] at hr
    simp only [Option.some.injEq, Obj.cells.injEq] at hr
    exact absurd hr.2.1 (by decide)
  · obtain ⟨c, hc⟩ := hk _ e2
    obtain ⟨c2, hc2⟩ := owns_kind h.row e
    rw [hc] at hc2
    simp only [Option.some.injEq, Obj.cells.injEq] at hc2
    exact absurd hc2.2.1 (by decide)
theorem numsR_cons (s : List UInt8) (r : List (List UInt8)) : numsR (s :: r) = if (numR s).2 then (numsR r).map ((numR s).1 :: ·) else none := rfl

set_option maxRecDepth 100000 in
set_option maxHeartbeats 8000000 in
theorem rparse_any (s : List UInt8) (hs : s.length ≤ 1000) (w : World) : Calls Tryd.prog 15 #[.string ⟨s.toArray⟩] w fun e w' => e = .returned (parseVal (parseR s)) ∧ Below w.heap.size w w' := by
  have hsz : ((⟨s.toArray⟩ : ByteArray).size : Int) = s.length := by simp [ByteArray.size]
  have hb0 : Holds (w.alloc (.cells #[.int .i64 0, .int .i64 0, .int .i64 0, .int .i64 0, .int .i64 0] 23)) w.heap.size 23 [.int .i64 0, .int .i64 0, .int .i64 0, .int .i64 0, .int .i64 0] := Holds.new w _ _
  have hbel : Below w.heap.size w (w.alloc (.cells #[.int .i64 0, .int .i64 0, .int .i64 0, .int .i64 0, .int .i64 0] 23)) := (Below.refl _ w).alloc (Nat.le_refl _) _
  go_enter Tryd.func15, Tryd.ntmps15
  go_upto_region 1 with fail
  have HB0 := Lib.hid hb0; clear hb0
  have HBel := Lib.hid hbel; clear hbel
  generalize w.alloc (.cells #[.int .i64 0, .int .i64 0, .int .i64 0, .int .i64 0, .int .i64 0] 23) = w1 at *
  by_cases h200 : 200 < s.length
  · have d1 : decide (200 < (s.length : Int)) = true := decide_eq_true (by omega)
    have hz : parseR s = none := by unfold parseR; rw [if_pos h200]
    have HZ := Lib.hid hz; clear hz
    go_wp2_with (refine wpList_store_mid rfl 23 (.tmp 2) (.tmp 18) rfl w.heap.size 0 #[.int .i64 0, .int .i64 0, .int .i64 0, .int .i64 0, .int .i64 0] rfl rfl (HB0.out.there (by simp)) Tryd.sizeInstr (by simp [Value.oneCell']) ?_)
    exact bodyPost_ret (results_ct rfl rfl (Tryd.loadInstr (HB0.out.sets [.int .i64 0, .int .i64 0, .int .i64 0, .int .i64 0, .int .i64 0] 0) rfl) rfl) rfl ⟨by rw [HZ.out]; rfl, below_cells (Nat.le_refl _) _ 0 _ HBel.out⟩
  have d1 : decide (200 < (s.length : Int)) = false := decide_eq_false (by omega)
  have HWd := Lib.hid (words_any s hs w1)
  go_wp2_with (go_at_call 36; refine HWd.out.mono ?_; rintro e w2 ⟨v, rfl, hrow, hb2⟩; refine Hid.out ?_)
  obtain ⟨gw, wcp, rfl⟩ : ∃ gw c, v = .slice (some ⟨gw, 0, none⟩) (wordsR [] s).length c := by
    rcases owns_form hrow with ⟨_, _, h0⟩ | ⟨g, c, h, _⟩
    · exact absurd (List.map_eq_nil_iff.1 h0) (wordsR_ne s [])
    · exact ⟨g, c, h⟩
  refine Lib.hid ?_
  have HLp : Hid (LpS w w2 w1.heap.size gw wcp (wordsR [] s) (.slice none 0 0) []) := Lib.hid ⟨HBel.out.trans (hb2.mono HBel.out.size), HB0.out.below hb2, hrow, World.ownsRow_nil _ _ _ _⟩
  have hwl : (wordsR [] s).length ≤ 1001 := by have := words_few s []; omega
  have hwne : 0 < (wordsR [] s).length := List.length_pos_iff.2 (wordsR_ne s [])
  have HSh := Lib.hid (words_short s [])
  have hpr : parseR s = match numsR ((wordsR [] s).drop 1) with
    | none => none
    | some n => if (wordsR [] s).headD [] = word 0 ∧ n.length = 5 ∧ textP (rawR n) = s then some (rawR n) else (List.range' 1 18).findSome? (opsR s ((wordsR [] s).headD []) n) := by
    unfold parseR; rw [if_neg h200]; cases numsR ((wordsR [] s).drop 1) <;> rfl
  have HPR := Lib.hid hpr
  clear hpr hb2 hrow HWd HB0 HBel
  obtain ⟨i0, hi0, hz0, hz1, hz2⟩ := infoI_parts
  have Hi := Lib.hid hi0; clear hi0
  have Hz0 := Lib.hid hz0; clear hz0
  have Hz1 := Lib.hid hz1; clear hz1
  have Hz2 := Lib.hid hz2; clear hz2
  obtain ⟨Ws, hWs⟩ : ∃ W, wordsR [] s = W := ⟨_, rfl⟩
  rw [hWs] at HLp hwl hwne HSh HPR ⊢
  clear hWs
  go_wp2_with fail
  go_loopw [3, 5, 6] (fun e nv i wr => e = .int .i64 0 ∧ ∃ (k : Nat) (nl : List Int), 1 ≤ k ∧ k ≤ Ws.length ∧ i = .int .i64 k ∧ nl.length + 1 = k ∧ (∀ v ∈ nl, I64 v) ∧ numsR (Ws.drop 1) = (numsR (Ws.drop k)).map (nl ++ ·) ∧ LpS w wr w1.heap.size gw wcp Ws nv nl) (fun _ _ i _ => Ws.length - (intOf i).toNat)
  case atStart => exact ⟨rfl, 1, [], by omega, by omega, rfl, rfl, by simp, by simp, HLp.out⟩
  case round =>
    clear HLp
    obtain ⟨rfl, k, nl, hk1, hk2, rfl, hnk, hn64, heq, hlp⟩ := hrel
    have HL := Lib.hid hlp; clear hlp
    have HN := Lib.hid hn64; clear hn64
    have HE := Lib.hid heq; clear heq
    by_cases hlt : k < Ws.length
    · obtain ⟨x, hx⟩ : ∃ x, Ws[k]? = some x := ⟨Ws[k], List.getElem?_eq_getElem hlt⟩
      have hdrop : Ws.drop k = x :: Ws.drop (k + 1) := by
        obtain ⟨h1, rfl⟩ := List.getElem?_eq_some_iff.1 hx
        exact List.drop_eq_getElem_cons h1
      have hc0 := HL.out.cell hx
      have hxl : x.length ≤ 1000 := by have := HSh.out x (List.mem_of_getElem? hx); simp at this; omega
      have hn1 := numR_range x
      have heq := HE.out
      rw [hdrop, numsR_cons] at heq
      have hki : (0 : Int) ≤ k ∧ (k : Int) < Ws.length := by omega
      have hkk : IntKind.i64.wrap ((k : Int) + 1) = (k : Int) + 1 := by rw [IntKind.wrap_i64]; omega
      have HNr := Lib.hid (number_r x hxl wr)
      obtain ⟨n, hne⟩ : ∃ n, (numR x).1 = n := ⟨_, rfl⟩
      obtain ⟨b, hbe⟩ : ∃ b, (numR x).2 = b := ⟨_, rfl⟩
      rw [hne, hbe] at heq HNr
      rw [hne] at hn1
      clear hx hdrop hne hbe HE
      cases b
      · have hz : parseR s = none := by rw [HPR.out, heq]; rfl
        have HZ := Lib.hid hz
        clear hz heq
        go_wp2_with (first | (go_at_call 37; refine HNr.out.mono ?_; rintro e w3 ⟨rfl, hb3⟩; have HL3 := Lib.hid (HL.out.idle hb3); clear hb3) | (refine wpList_store_mid rfl 23 (.tmp 2) (.tmp 37) rfl w.heap.size 0 #[.int .i64 0, .int .i64 0, .int .i64 0, .int .i64 0, .int .i64 0] rfl rfl (HL3.out.res.there (by simp)) Tryd.sizeInstr (by simp [Value.oneCell']) ?_))
        exact bodyPost_ret (results_ct rfl rfl (Tryd.loadInstr (HL3.out.res.sets [.int .i64 0, .int .i64 0, .int .i64 0, .int .i64 0, .int .i64 0] 0) rfl) rfl) rfl ⟨by rw [HZ.out]; rfl, below_cells (Nat.le_refl _) _ 0 _ HL3.out.below⟩
      · have HE2 := Lib.hid (show numsR (Ws.drop 1) = (numsR (Ws.drop (k + 1))).map ((nl ++ [n]) ++ ·) by rw [heq, if_pos rfl, Option.map_map]; congr 1; funext z; simp)
        clear heq
        go_wp2_with (first | (go_at_call 37; refine HNr.out.mono ?_; rintro e w3 ⟨rfl, hb3⟩; have HL3 := Lib.hid (HL.out.idle hb3); have hsz3 := HL3.out.below.size; clear hb3) | (at_builtin; refine wpList_append_own_at _ rfl (.tmp 38) (.tmp 40) 79 rfl w.heap.size 3 i0 _ 1 8 Tryd.underlying79 Hi.out Hz0.out Hz1.out Hz2.out rfl (by decide) u5 nl.length (nl.map (.int .i64)) rfl (World.ownsRow.alloc HL3.out.nums _) ⟨w3.heap.size, 0, none⟩ 1 1 [.int .i64 n] rfl rfl (World.news_of_block (cs := #[.int .i64 n]) (t := 3) (fr := (0, 0)) (new_block w3 _)) (by simp [Value.oneCell']) (by unfold maxLen; omega) (by omega) (by simp; omega) ?_; intro v5 w5 hown5 hgrow5 _ hat5; have HL4 := Lib.hid (HL3.out.push ((Below.refl _ w3).alloc (Nat.le_refl _) _) hown5 hgrow5); clear hown5 hgrow5 hat5))
        go_roundw
        case rel => exact ⟨rfl, k + 1, nl ++ [n], by omega, by omega, by go_num, by simp; omega, fun v hv => by
          rcases List.mem_append.1 hv with hv | hv
          · exact HN.out v hv
          · simp at hv; subst hv; exact hn1, HE2.out, HL4.out⟩
        case measure => simp [intOf]; omega
    · obtain rfl : k = Ws.length := by omega
      have heq := HE.out
      rw [List.drop_length] at heq
      have hnums : numsR (Ws.drop 1) = some nl := by rw [heq]; simp [numsR]
      obtain ⟨w0, hw0⟩ : ∃ x, Ws[0]? = some x := ⟨Ws[0], List.getElem?_eq_getElem hwne⟩
      have hhd : Ws.headD [] = w0 := by
        cases Ws with
        | nil => cases hw0
        | cons c r => cases hw0; rfl
      have hpr := HPR.out
      rw [hnums, hhd] at hpr
      simp only at hpr
      have HPR2 := Lib.hid hpr
      have HPS : Hid (PsS w wr w.heap.size gw w0 u5 nl) := Lib.hid ⟨HL.out.below, HL.out.res, HL.out.cell hw0, (owns_lt HL.out.row (g := gw) rfl).2, HL.out.nums, Nat.le_refl _⟩
      have hnl5 : nl.length ≤ 1000 := by omega
      have hwn' : (0 : Int) ≤ 0 ∧ (0 : Int) < (Ws.length : Int) := by omega
      clear heq hnums hw0 hhd hpr HPR HE HL HSh hnk hk1 hk2 hlt
      obtain ⟨na, ncap, rfl⟩ : ∃ na c, u5 = .slice na nl.length c := by
        rcases owns_form HPS.out.nums with ⟨h, h0, _⟩ | ⟨gn, c, h, _⟩
        · exact ⟨none, 0, by rw [h, h0]⟩
        · exact ⟨_, c, h⟩
      go_upto_region 12 with fail
      go_cut [50] from 42 to 151 (fun c wx => c = .bool ((w0 == word 0) && decide (nl.length = 5)) ∧ wx = wr)
      case first =>
        have c0 := HPS.out.word
        have hgl := HPS.out.gwl
        by_cases hw : w0 = word 0
        · have hcmp : (w0 == [114, 97, 119]) = true := by rw [hw]; rfl
          by_cases h5 : nl.length = 5
          · have e5 : ((nl.length : Int) == 5) = true := by rw [h5]; rfl
            have HW := Lib.hid hw
            have H5 := Lib.hid h5
            clear hw h5
            go_wp2_with fail
            go_meet
            case rel => exact ⟨by rw [HW.out, H5.out]; rfl, rfl⟩
          · have e5 : ((nl.length : Int) == 5) = false := by rw [beq_eq_false_iff_ne]; omega
            have HW := Lib.hid hw
            have H5 := Lib.hid h5
            clear hw h5
            go_wp2_with fail
            go_meet
            case rel => exact ⟨by rw [decide_eq_false H5.out, Bool.and_false], rfl⟩
        · have hcmp : (w0 == [114, 97, 119]) = false := by simpa [word] using hw
          have HW := Lib.hid hw
          clear hw
          go_wp2_with fail
          go_meet
          case rel => exact ⟨by rw [show (w0 == word 0) = false from by simpa using HW.out]; rfl, rfl⟩
      case rest =>
      obtain ⟨rfl, rfl⟩ := hcut
      go_upto_if 50 with fail
      go_cut [3, 9] from 42 to 151 (fun e _ wx => e = .int .i64 0 ∧ PsS w wx w.heap.size gw w0 (.slice na nl.length ncap) nl ∧ ¬ (w0 = word 0 ∧ nl.length = 5 ∧ textP (rawR nl) = s))
      case first =>
        by_cases hc : ((w0 == word 0) && decide (nl.length = 5)) = true
        · rw [hc]
          simp only [Bool.and_eq_true, decide_eq_true_eq, beq_iff_eq] at hc
          obtain ⟨hw, h5⟩ := hc
          obtain ⟨gn, rfl⟩ : ∃ gn, na = some ⟨gn, 0, none⟩ := by
            rcases owns_form HPS.out.nums with ⟨_, h0, _⟩ | ⟨gn, c, h, _⟩
            · omega
            · cases h; exact ⟨gn, rfl⟩
          obtain ⟨n0, n1, n2, n3, n4, rfl⟩ : ∃ n0 n1 n2 n3 n4 : Int, nl = [n0, n1, n2, n3, n4] := by
            match nl, h5 with
            | [a, b, c, d, e], _ => exact ⟨a, b, c, d, e, rfl⟩
          have hok : (In.mk n0 n1 n2 n3 n4).Ok := ⟨HN.out n0 (by simp), HN.out n1 (by simp), HN.out n2 (by simp), HN.out n3 (by simp), HN.out n4 (by simp)⟩
          have HW := Lib.hid hw
          clear hw h5
          refine wp_cond (t := true) rfl ?_
          rw [if_pos rfl]
          refine parse_raw _ _ _ _ _ _ _ _ _ _ _ _ _ _ _ _ _ _ _ _ _ _ _ _ _ _ _ _ _ _ _ _ _ _ _ _ _ _ _ _ _ _ _ _ _ _ _ _ _ _ _ _ _ _ _ _ _ _ _ _ _ _ _ _ _ _ _ _ _ _ _ _ _ _ _ _ _ _ _ _ _ _ _ _ _ _ _ _ _ _ _ _ _ _ _ _ _ _ _ _ _ _ _ _ _ _ _ _ _ _ _ _ _ _ _ _ _ _ _ _ _ _ _ _ _ _ _ _ _ _ _ _ _ _ _ _ _ _ _ _ _ _ _ _ _ _ _ _ _ _ hok HPS.out ?_ ?_
          · intro u9 u51 u52 u53 u54 u55 u56 u57 u58 u59 u60 u61 u62 u63 u64 u65 u66 u67 u68 u69 u70 u71 w8 hp8 hT
            have HP8 := Lib.hid hp8; have HTT := Lib.hid hT
            clear hp8 hT HPS
            go_wp2_with fail
            go_meet
            case rel => exact ⟨rfl, HP8.out, fun h => HTT.out h.2.2⟩
          · intro a w8 hT k1 k2 k3 k4 k5
            have hz : parseR s = some ⟨n0, n1, n2, n3, n4⟩ := by
              rw [HPR2.out, if_pos ⟨HW.out, rfl, hT⟩]; rfl
            have HZ := Lib.hid hz; have K1 := Lib.hid k1; have K2 := Lib.hid k2; have K3 := Lib.hid k3; have K4 := Lib.hid k4; have K5 := Lib.hid k5
            clear hz hT k1 k2 k3 k4 k5 HPS
            go_wp2_with fail
            refine bodyPost_ret (results_ct rfl K2.out (Tryd.loadInstr K4.out rfl) K3.out) K1.out ?_
            exact ⟨by rw [HZ.out]; rfl, K5.out⟩
        · have hc2 : ((w0 == word 0) && decide (nl.length = 5)) = false := by simpa using hc
          have HC := Lib.hid hc
          rw [hc2]
          clear hc hc2
          go_wp2_with fail
          go_meet
          case rel => exact ⟨rfl, HPS.out, fun h => HC.out (by rw [h.1, decide_eq_true h.2.1]; simp)⟩
      case rest =>
      obtain ⟨rfl, hps, hnr⟩ := hcut
      have hfin : parseR s = (List.range' 1 18).findSome? (opsR s w0 nl) := by rw [HPR2.out, if_neg hnr]
      have HF := Lib.hid hfin
      clear hfin hnr HPS HPR2
      have HPS := Lib.hid hps; clear hps
      go_step
      go_step
      refine parse_loop _ _ _ _ _ _ _ _ _ _ _ _ _ _ _ _ _ _ _ _ _ _ _ _ _ _ _ _ _ _ _ _ _ _ _ _ _ _ _ _ _ _ _ _ _ _ _ _ _ _ _ _ _ _ _ _ _ _ _ _ _ _ _ _ _ _ _ _ _ _ _ _ _ _ _ _ _ _ _ _ _ _ _ _ _ _ _ _ _ _ _ _ _ _ _ _ _ _ _ _ _ _ _ _ _ _ _ _ _ _ _ _ _ _ _ _ _ _ _ _ _ _ _ _ _ _ _ _ _ _ _ _ _ _ _ _ _ _ _ _ _ _ _ _ _ _ _ _ _ hwne hnl5 HN.out HPS.out ?_ ?_
      · intro u10 u11 u12 u13 u14 u72 u73 u74 u75 u76 u77 u78 u79 u80 u81 u82 u83 u84 u85 u86 u87 u88 u89 u90 u91 u92 u93 u94 u95 u96 u97 u98 u99 u100 u101 u102 u103 u104 u105 u106 u107 u108 u109 u110 u111 u112 u113 u114 u115 u116 u117 u118 u119 u120 u121 u122 u123 u124 u125 u126 u127 u128 u129 u130 u131 u132 u133 u134 u135 u136 u137 u138 u139 u140 u141 u142 u143 u144 u145 u146 u147 u148 u149 u150 u151 w8 hp8 hno
        have HP8 := Lib.hid hp8; have HNO := Lib.hid hno
        clear hp8 hno HPS
        go_wp2_with (refine wpList_store_mid rfl 23 (.tmp 2) (.tmp 152) rfl w.heap.size 0 #[.int .i64 0, .int .i64 0, .int .i64 0, .int .i64 0, .int .i64 0] rfl rfl (HP8.out.res.there (by simp)) Tryd.sizeInstr (by simp [Value.oneCell']) ?_)
        exact bodyPost_ret (results_ct rfl rfl (Tryd.loadInstr (HP8.out.res.sets [.int .i64 0, .int .i64 0, .int .i64 0, .int .i64 0, .int .i64 0] 0) rfl) rfl) rfl ⟨by rw [HF.out, HNO.out]; rfl, below_cells (Nat.le_refl _) _ 0 _ HP8.out.below⟩
      · intro a w8 x hx k1 k2 k3 k4 k5
        have HX := Lib.hid hx; have K1 := Lib.hid k1; have K2 := Lib.hid k2; have K3 := Lib.hid k3; have K4 := Lib.hid k4; have K5 := Lib.hid k5
        clear hx k1 k2 k3 k4 k5 HPS
        go_wp2_with fail
        refine bodyPost_ret (results_ct rfl K2.out (Tryd.loadInstr K4.out rfl) K3.out) K1.out ?_
        exact ⟨by rw [HF.out, HX.out]; rfl, K5.out⟩

end Go.Proofs.YtfeemchdhbimhaaDoor
