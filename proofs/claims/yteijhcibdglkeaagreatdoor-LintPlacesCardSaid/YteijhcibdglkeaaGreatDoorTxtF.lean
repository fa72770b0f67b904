/- A line, read: the call. Conditions: those stated in each theorem. -/
import Derived.Test.YteijhcibdglkeaaGreatDoorTxtE
import Derived.Test.YteijhcibdglkeaaGreatDoorTxtF0
import Derived.Scope
namespace Go.Proofs.YteijhcibdglkeaaGreatDoor
open Go.RowKit Go.BigFrame Go.Shelf
attribute [local go_sem] Oper.semAt_some
attribute [local simp] wide_fn

set_option maxRecDepth 100000 in
set_option maxHeartbeats 4000000 in
theorem parse_in (l : List UInt8) (hl : l.length ≤ 1000000) (w : World) (hF : FormsAt w) (hE : ErrsBelow w) (htab : Lib.TabBelow Tryz.prog w.heap.size w "internal/strconv.uint64pow10" .u64 Lib.pow10Tab) :
    CallsIn Fence.wide 9 Tryz.prog 77 #[.string ⟨l.toArray⟩] w fun e w' => e = .returned (parseVal (parseP l)) ∧ Below w.heap.size w w' := by
  obtain ⟨S, hS⟩ : ∃ S : ByteArray, S = ⟨l.toArray⟩ := ⟨_, rfl⟩
  rw [← hS]
  have hSl : S.data.toList = l := by rw [hS]
  have Hs := Lib.hid hS; clear hS
  have HSl := Lib.hid hSl; clear hSl
  have hb0 : Below w.heap.size w (w.alloc (.cells #[.int .i64 0, .int .i64 0, .int .i64 0, .int .i64 0, .int .i64 0] 43)) := (Below.refl _ w).alloc (Nat.le_refl _) _
  have h0 : Holds (w.alloc (.cells #[.int .i64 0, .int .i64 0, .int .i64 0, .int .i64 0, .int .i64 0] 43)) w.heap.size 43 [.int .i64 0, .int .i64 0, .int .i64 0, .int .i64 0, .int .i64 0] := Holds.new w 43 [.int .i64 0, .int .i64 0, .int .i64 0, .int .i64 0, .int .i64 0]
  have hr0 := forms_range (hF.below hb0)
  have hs0 : (w.alloc (.cells #[.int .i64 0, .int .i64 0, .int .i64 0, .int .i64 0, .int .i64 0] 43)).heap.size = w.heap.size + 1 := by simp
  have HF := Lib.hid hF; clear hF
  have HE := Lib.hid hE; clear hE
  have Htab := Lib.hid htab; clear htab
  have Hb0 := Lib.hid hb0; clear hb0
  have H0 := Lib.hid h0; clear h0
  have Hr0 := Lib.hid hr0; clear hr0
  have Hs0 := Lib.hid hs0; clear hs0
  refine callsIn_of_wp_marks Tryz.func77 rfl trivial ?_ rfl
  simp only [Tryz.ntmps77, List.size_toArray, List.length_cons, List.length_nil, Nat.reduceAdd, Nat.reduceSub, Array.replicate_succ, Array.replicate_zero, List.push_toArray, List.append_toArray, List.nil_append, List.cons_append]
  gi_wp2_with fail
  refine wpIn_wide.2 (wp_scope_straight ((wpIn_wide (n := 9)).1 ?_))
  gi_wp2_with fail
  refine wpIn_label ?_
  gi_wp2_with (refine in_load_want rfl 72 (.global 0) rfl 0 0 rfl formCells _ ?_ Tryz.underlying72 rfl (by kernel_rfl) ?_; exact Hr0.out)
  refine wpIn_loop (fun a V => ∃ (k : Nat) (ms : List Nat) (y4 y5 y6 y7 y8 y9 y10 y13 y14 y15 y16 y17 y18 y19 y20 y21 y22 y23 y24 y25 y26 y27 y28 y29 y30 y31 y32 y33 y34 y35 y36 y37 y38 y39 y40 y41 y42 y43 y44 y45 y46 y47 y48 : Value), PaI l w k ms V ∧ a = { tmps := #[.string S, undef, .pointer (some ⟨w.heap.size, 0, none⟩), .int .i64 0, y4, y5, y6, y7, y8, y9, y10, .agg formCells.toArray, .int .i64 k, y13, y14, y15, y16, y17, y18, y19, y20, y21, y22, y23, y24, y25, y26, y27, y28, y29, y30, y31, y32, y33, y34, y35, y36, y37, y38, y39, y40, y41, y42, y43, y44, y45, y46, y47, y48, undef], defers := ms.map fun D => { target := .collected D, args := #[] } })
    (fun a _ => 19 - (intOf (a.tmps.getD 12 undef)).toNat) ?_ ?_
  · exact ⟨0, [], _, _, _, _, _, _, _, _, _, _, _, _, _, _, _, _, _, _, _, _, _, _, _, _, _, _, _, _, _, _, _, _, _, _, _, _, _, _, _, _, _, _, _, ⟨by omega, fun j h => by omega, Hb0.out, H0.out, ⟨fun D h => (by cases h), List.nodup_nil⟩, fun D h => (by cases h)⟩, rfl⟩
  · rintro _ V ⟨k, ms, y4, y5, y6, y7, y8, y9, y10, y13, y14, y15, y16, y17, y18, y19, y20, y21, y22, y23, y24, y25, y26, y27, y28, y29, y30, y31, y32, y33, y34, y35, y36, y37, y38, y39, y40, y41, y42, y43, y44, y45, y46, y47, y48, hi, rfl⟩
    clear Hb0 H0 Hr0 Hs0
    by_cases hk : k < 19
    · have hcp : ∀ W, Calls Tryz.prog 94 #[.string S, .string (wordS k)] W fun e w' => e = .returned (.tuple #[.string ⟨(Lib.trimPrefix l (word k)).toArray⟩, .bool (Lib.hasPrefix l (word k))]) ∧ w' = W := fun W => by
        have := Tryz.strings_CutPrefix S (wordS k) W
        rw [HSl.out] at this
        exact this
      have hix := index_forms k hk
      have Hi := Lib.hid hi; clear hi
      have hkk : (0 : Int) ≤ k ∧ (k : Int) < 19 := by omega
      cases hp : Lib.hasPrefix l (word k) with
      | false =>
        rw [hp] at hcp
        have Hcp := Lib.hid hcp; clear hcp
        have Hp := Lib.hid hp; clear hp
        gi_wp2_with (gi_at_call 94; refine (callsIn_wide.2 (Hcp.out _)).mono ?_; rintro e w2 ⟨rfl, rfl⟩)
        have ht : tryP l k = none := by unfold tryP; rw [Hp.out]; rfl
        have hbf : Below V.heap.size V (((V.alloc (.cells #[.string (wordS k), .int .i64 (mask k)] 71)).alloc (.cells #[.string ⟨(Lib.trimPrefix l (word k)).toArray⟩] 9)).alloc (.cells #[.bool false] 4)) := (((Below.refl _ V).alloc (Nat.le_refl _) _).alloc (by simp) _).alloc (by simp; omega) _
        exact ⟨⟨k + 1, ms, _, _, _, _, _, _, _, _, _, _, _, _, _, _, _, _, _, _, _, _, _, _, _, _, _, _, _, _, _, _, _, _, _, _, _, _, _, _, _, _, _, _, _, (Hi.out.idle hbf).next hk ht, rfl⟩, by simp [intOf]; omega⟩
      | true =>
        rw [hp] at hcp
        have Hcp := Lib.hid hcp; clear hcp
        have Hp := Lib.hid hp; clear hp
        have hrl : (Lib.trimPrefix l (word k)).length ≤ 1000000 := by
          unfold Lib.trimPrefix; split
          · simp; omega
          · exact hl
        have htp : tryP l k = match numsP (placesP (mask k)) ⟨k, 0, 0, 0, 0⟩ (Lib.trimPrefix l (word k)) with
          | some (x, _) => if textP x = l then some x else none
          | none => none := by unfold tryP; rw [Hp.out]; rfl
        generalize Lib.trimPrefix l (word k) = rest at *
        have Htp := Lib.hid htp; clear htp
        gi_wp2_with (first | (gi_at_call 94; refine (callsIn_wide.2 (Hcp.out _)).mono ?_; rintro e w2 ⟨rfl, rfl⟩) | (gi_at_call 25; refine (callsIn_wide.2 (places_any _ _)).mono ?_; rintro e w3 ⟨rfl, rfl⟩))
        have hbW : Below V.heap.size V (((((V.alloc (.cells #[.string (wordS k), .int .i64 (mask k)] 71)).alloc (.cells #[.string ⟨rest.toArray⟩] 9)).alloc (.cells #[.bool true] 4)).alloc (.cells #[.int .i64 k, .int .i64 0, .int .i64 0, .int .i64 0, .int .i64 0] 65)).alloc (.cells #[.int .i64 (mask k)] 69)) := (((((Below.refl _ V).alloc (Nat.le_refl _) _).alloc (by simp) _).alloc (by simp; omega) _).alloc (by simp; omega) _).alloc (by simp; omega) _
        have hnr : Holds (((((V.alloc (.cells #[.string (wordS k), .int .i64 (mask k)] 71)).alloc (.cells #[.string ⟨rest.toArray⟩] 9)).alloc (.cells #[.bool true] 4)).alloc (.cells #[.int .i64 k, .int .i64 0, .int .i64 0, .int .i64 0, .int .i64 0] 65)).alloc (.cells #[.int .i64 (mask k)] 69)) (V.heap.size + 1) 9 [.string ⟨rest.toArray⟩] := (((newAt (w := (V.alloc (.cells #[.string (wordS k), .int .i64 (mask k)] 71))) (by simp) 9 [.string ⟨rest.toArray⟩]).alloc _).alloc _).alloc _
        have hni : Holds (((((V.alloc (.cells #[.string (wordS k), .int .i64 (mask k)] 71)).alloc (.cells #[.string ⟨rest.toArray⟩] 9)).alloc (.cells #[.bool true] 4)).alloc (.cells #[.int .i64 k, .int .i64 0, .int .i64 0, .int .i64 0, .int .i64 0] 65)).alloc (.cells #[.int .i64 (mask k)] 69)) (V.heap.size + 1 + 1) 4 [.bool true] := ((newAt (w := ((V.alloc (.cells #[.string (wordS k), .int .i64 (mask k)] 71)).alloc (.cells #[.string ⟨rest.toArray⟩] 9))) (by simp) 4 [.bool true]).alloc _).alloc _
        have hna : Holds (((((V.alloc (.cells #[.string (wordS k), .int .i64 (mask k)] 71)).alloc (.cells #[.string ⟨rest.toArray⟩] 9)).alloc (.cells #[.bool true] 4)).alloc (.cells #[.int .i64 k, .int .i64 0, .int .i64 0, .int .i64 0, .int .i64 0] 65)).alloc (.cells #[.int .i64 (mask k)] 69)) (V.heap.size + 1 + 1 + 1) 65 [.int .i64 k, .int .i64 0, .int .i64 0, .int .i64 0, .int .i64 0] := (newAt (w := (((V.alloc (.cells #[.string (wordS k), .int .i64 (mask k)] 71)).alloc (.cells #[.string ⟨rest.toArray⟩] 9)).alloc (.cells #[.bool true] 4))) (by simp) 65 [.int .i64 k, .int .i64 0, .int .i64 0, .int .i64 0, .int .i64 0]).alloc _
        have hBc : World.cell? (((((V.alloc (.cells #[.string (wordS k), .int .i64 (mask k)] 71)).alloc (.cells #[.string ⟨rest.toArray⟩] 9)).alloc (.cells #[.bool true] 4)).alloc (.cells #[.int .i64 k, .int .i64 0, .int .i64 0, .int .i64 0, .int .i64 0] 65)).alloc (.cells #[.int .i64 (mask k)] 69)) ⟨V.heap.size + 1 + 1 + 1 + 1, 0, none⟩ = some (.int .i64 (mask k)) := (newAt (w := ((((V.alloc (.cells #[.string (wordS k), .int .i64 (mask k)] 71)).alloc (.cells #[.string ⟨rest.toArray⟩] 9)).alloc (.cells #[.bool true] 4)).alloc (.cells #[.int .i64 k, .int .i64 0, .int .i64 0, .int .i64 0, .int .i64 0] 65))) (by simp) 69 [.int .i64 (mask k)]).cell (i := 0) rfl
        have hsz : (((((V.alloc (.cells #[.string (wordS k), .int .i64 (mask k)] 71)).alloc (.cells #[.string ⟨rest.toArray⟩] 9)).alloc (.cells #[.bool true] 4)).alloc (.cells #[.int .i64 k, .int .i64 0, .int .i64 0, .int .i64 0, .int .i64 0] 65)).alloc (.cells #[.int .i64 (mask k)] 69)).heap.size = V.heap.size + 5 := by simp
        generalize (((((V.alloc (.cells #[.string (wordS k), .int .i64 (mask k)] 71)).alloc (.cells #[.string ⟨rest.toArray⟩] 9)).alloc (.cells #[.bool true] 4)).alloc (.cells #[.int .i64 k, .int .i64 0, .int .i64 0, .int .i64 0, .int .i64 0] 65)).alloc (.cells #[.int .i64 (mask k)] 69)) = W0 at *
        have hi0 := Hi.out.idle hbW
        have Hi0 := Lib.hid hi0; clear hi0
        have HbW := Lib.hid hbW; clear hbW
        have Hnr := Lib.hid hnr; clear hnr
        have Hni := Lib.hid hni; clear hni
        have Hna := Lib.hid hna; clear hna
        have HBc := Lib.hid hBc; clear hBc
        have Hsz := Lib.hid hsz; clear hsz
        have hms : ∀ D ∈ ms, D < V.heap.size := fun D hD => (Hi.out.low D hD).2
        have Hms := Lib.hid hms; clear hms
        have hwV := Hi.out.box.lt
        refine each_own rfl rfl (gf := 33) (lb := #[.pointer (some ⟨V.heap.size + 1 + 1 + 1 + 1, 0, none⟩)]) rfl trivial (enters_of Tryz.func33 (by kernel_rfl) rfl)
          (places_each _ (V.heap.size + 1 + 1 + 1 + 1) (mask k) (mask_lt k) W0 HBc.out (KpC (fun b => W0.heap.size ≤ b ∨ b = V.heap.size + 1 ∨ b = V.heap.size + 1 + 1 ∨ b = V.heap.size + 1 + 1 + 1)) (fun X Y hK v hv => (World.cell?_of_block (a := ⟨V.heap.size + 1 + 1 + 1 + 1, 0, none⟩) (hK.block _ (World.block_lt_of_cell? _ _ hv) (show ¬ (W0.heap.size ≤ V.heap.size + 1 + 1 + 1 + 1 ∨ V.heap.size + 1 + 1 + 1 + 1 = V.heap.size + 1 ∨ V.heap.size + 1 + 1 + 1 + 1 = V.heap.size + 1 + 1 ∨ V.heap.size + 1 + 1 + 1 + 1 = V.heap.size + 1 + 1 + 1) by have := Hsz.out; omega))).trans hv)) kpC_t (kpC_b (.inl (by omega))) (fun _ => rfl)
          (PrI k rest (V.heap.size + 1) (V.heap.size + 1 + 1) (V.heap.size + 1 + 1 + 1) W0) (PrX k rest (V.heap.size + 1) (V.heap.size + 1 + 1) (V.heap.size + 1 + 1 + 1) W0) prI_own (fun c => prX_own c) ⟨Tch.refl _ _, ⟨k, 0, 0, 0, 0⟩, rest, ⟨Hna.out, Hnr.out, Hni.out⟩, rfl, hrl⟩ ?round ?done ?stop
        case stop =>
          rintro c pre W hpre ⟨hT, rfl, hnone⟩ hK
          have htr : tryP l k = none := by
            obtain ⟨ls, hls⟩ := hpre
            rw [Htp.out, ← hls, nums_pre hnone]
          have hpi := (Hi0.out.turned' (n := V.heap.size) hT (fun b h => by have := Hsz.out; omega) (Nat.le_of_lt hwV) (fun D hD => Nat.le_of_lt (Hms.out D hD))).mark hK (by have := Hsz.out; omega) (fun E hE => by have := Hms.out E hE; have := Hsz.out; omega)
          have Hpi := Lib.hid (hpi.next hk htr); clear hpi
          gi_wp2
          exact ⟨⟨k + 1, W0.heap.size :: ms, _, _, _, _, _, _, _, _, _, _, _, _, _, _, _, _, _, _, _, _, _, _, _, _, _, _, _, _, _, _, _, _, _, _, _, _, _, _, _, _, _, _, _, Hpi.out, rfl⟩, by simp [intOf]; omega⟩
        case done =>
          rintro W ⟨hT, ⟨xo, xa, xb, xc, xi⟩, r, ⟨hx, -, -⟩, hnums, -⟩ hK
          have hpi := (Hi0.out.turned' (n := V.heap.size) hT (fun b h => by have := Hsz.out; omega) (Nat.le_of_lt hwV) (fun D hD => Nat.le_of_lt (Hms.out D hD))).mark hK (by have := Hsz.out; omega) (fun E hE => by have := Hms.out E hE; have := Hsz.out; omega)
          have hok : (In.mk xo xa xb xc xi).Ok := nums_ok _ ⟨⟨by simp only; omega, by simp only; omega⟩, ⟨by simp only; omega, by simp only; omega⟩, ⟨by simp only; omega, by simp only; omega⟩, ⟨by simp only; omega, by simp only; omega⟩, ⟨by simp only; omega, by simp only; omega⟩⟩ hnums
          have htr : tryP l k = if textP ⟨xo, xa, xb, xc, xi⟩ = l then some ⟨xo, xa, xb, xc, xi⟩ else none := by rw [Htp.out, hnums]
          have c0 := hx.cell (i := 0) rfl
          have c1 := hx.cell (i := 1) rfl
          have c2 := hx.cell (i := 2) rfl
          have c3 := hx.cell (i := 3) rfl
          have c4 := hx.cell (i := 4) rfl
          have hin := fun W => instr_any ⟨xo, xa, xb, xc, xi⟩ W
          have htc : ∀ W', Below w.heap.size w W' → Calls Tryz.prog 64 #[(In.mk xo xa xb xc xi).val] W' fun e w' => e = .returned (.string ⟨(textP ⟨xo, xa, xb, xc, xi⟩).toArray⟩) ∧ Below W'.heap.size W' w' := fun W' hb => text_any _ W' (HF.out.below hb) hok (fun w' h => Htab.out w' (hb.trans (h.mono hb.size)))
          have hTl : (⟨(textP ⟨xo, xa, xb, xc, xi⟩).toArray⟩ : ByteArray) = S ↔ textP ⟨xo, xa, xb, xc, xi⟩ = l := by
            rw [Hs.out]
            refine ⟨fun h => ?_, fun h => by rw [h]⟩
            have := congrArg (fun b : ByteArray => b.data.toList) h
            exact this
          generalize textP ⟨xo, xa, xb, xc, xi⟩ = tl at *
          generalize (⟨tl.toArray⟩ : ByteArray) = T at *
          simp only [In.val] at hin htc
          have Hpi := Lib.hid hpi; clear hpi
          have Hok := Lib.hid hok; clear hok
          have Htr := Lib.hid htr; clear htr
          have Hin := Lib.hid hin; clear hin
          have Htc := Lib.hid htc; clear htc
          have HTl := Lib.hid hTl; clear hTl
          clear hx hT hK hnums
          by_cases hTS : T = S
          · have htl : tl = l := HTl.out.1 hTS
            have hans : tryP l k = some ⟨xo, xa, xb, xc, xi⟩ := by rw [Htr.out, if_pos htl]
            have hans2 : parseP l = some ⟨xo, xa, xb, xc, xi⟩ := parse_here hk hans Hi.out.none_
            have Hans := Lib.hid hans2; clear hans2 hans htl
            subst hTS
            gi_wp2_with (first | (gi_at_call 96; refine (callsIn_wide.2 (Hin.out _)).mono ?_; rintro e w6 ⟨rfl, hb6⟩; have Hb7 := Lib.hid (fun o => (Hpi.out.below.trans (hb6.mono Hpi.out.below.size)).alloc (Nat.le_trans Hpi.out.below.size hb6.size) o); have Hb6 := Lib.hid hb6; clear hb6) | (gi_at_call 64; refine (callsIn_wide.2 (Htc.out _ (Hb7.out _))).mono ?_; rintro e w8 ⟨rfl, hb8⟩; have h10 := (Holds.new w6 43 [.int .i64 xo, .int .i64 xa, .int .i64 xb, .int .i64 xc, .int .i64 xi]).below hb8; have d0 := h10.cell (i := 0) rfl; have d1 := h10.cell (i := 1) rfl; have d2 := h10.cell (i := 2) rfl; have d3 := h10.cell (i := 3) rfl; have d4 := h10.cell (i := 4) rfl; clear h10; have Hb8 := Lib.hid hb8; clear hb8) | (refine in_store_mid rfl 43 (.tmp 2) (.tmp 47) rfl w.heap.size 0 #[.int .i64 xo, .int .i64 xa, .int .i64 xb, .int .i64 xc, .int .i64 xi] rfl rfl ?_ Tryz.sizeInstr (by simp [Value.oneCell']) ?_; exact (Hpi.out.idle (Below.trans (Hb6.out.alloc Hb6.out.size _) (Hb8.out.mono (by have := Hb6.out.size; simp; omega)))).box.there (by simp)))
            rw [Exit.noGoto_ret]
            have hp8 : PaI l w k (W0.heap.size :: ms) w8 := Hpi.out.idle (Below.trans (Hb6.out.alloc Hb6.out.size _) (Hb8.out.mono (by have := Hb6.out.size; simp; omega)))
            have hTz : Tch (· = w.heap.size) w8 (w8.setCells w.heap.size 0 [.int .i64 xo, .int .i64 xa, .int .i64 xb, .int .i64 xc, .int .i64 xi]) := Tch.setCells (C := (· = w.heap.size)) (.inl rfl) _ 0 (Tch.refl _ w8)
            refine leaves_marks (B := w.heap.size + 1) (Z := PaZ w ⟨xo, xa, xb, xc, xi⟩) paZ_own ?_ (W0.heap.size :: ms) _ ?_ ?_ ?_ ?_
            · intro X hz
              refine ⟨_, results_ct rfl rfl (run_loadVar_mid _ _ 0 43 (In.cells ⟨xo, xa, xb, xc, xi⟩) _ hz.1.full Tryz.underlying43 rfl (by kernel_rfl)) rfl, ?_, hz.2⟩
              rw [Hans.out]; rfl
            · exact (hp8.marks.tch hTz (fun D hD e => by have := (hp8.low D hD).1; omega)).1
            · exact hp8.marks.2
            · exact fun D hD => (hp8.low D hD).1
            · exact ⟨setInstr hp8.box rfl ⟨xo, xa, xb, xc, xi⟩, below_cells (Nat.le_refl _) _ 0 _ hp8.below⟩
          · have htl : ¬ tl = l := fun h => hTS (HTl.out.2 h)
            have hans : tryP l k = none := by rw [Htr.out, if_neg htl]
            have hbeq : (T.toList == S.toList) = false := by
              rw [beq_eq_false_iff_ne]; intro h; rw [ByteArray.toList_eq, ByteArray.toList_eq] at h; exact hTS (ByteArray.ext (Array.ext' h))
            have Hans := Lib.hid hans; clear hans htl
            gi_wp2_with (first | (gi_at_call 96; refine (callsIn_wide.2 (Hin.out _)).mono ?_; rintro e w6 ⟨rfl, hb6⟩; have Hb7 := Lib.hid (fun o => (Hpi.out.below.trans (hb6.mono Hpi.out.below.size)).alloc (Nat.le_trans Hpi.out.below.size hb6.size) o); have Hb6 := Lib.hid hb6; clear hb6) | (gi_at_call 64; refine (callsIn_wide.2 (Htc.out _ (Hb7.out _))).mono ?_; rintro e w8 ⟨rfl, hb8⟩; have Hb8 := Lib.hid hb8; clear hb8))
            have hp8 : PaI l w k (W0.heap.size :: ms) w8 := Hpi.out.idle (Below.trans (Hb6.out.alloc Hb6.out.size _) (Hb8.out.mono (by have := Hb6.out.size; simp; omega)))
            exact ⟨⟨k + 1, W0.heap.size :: ms, _, _, _, _, _, _, _, _, _, _, _, _, _, _, _, _, _, _, _, _, _, _, _, _, _, _, _, _, _, _, _, _, _, _, _, _, _, _, _, _, _, _, _, hp8.next hk Hans.out, rfl⟩, by simp [intOf]; omega⟩
        case round =>
          rintro pre x rst W hx hl hi
          have hx5 : x < 5 := placesP_lt (m := mask k) (by rw [hx]; simp)
          clear hx hl
          unfold RoundOwes
          have Hin := Lib.hid hi; clear hi
          gi_wp2
          refine BodyOwes.plain prI_own (Tch.refl _ _) Hin.out (fun W2 hl hi2 => ?_)
          clear hl Hin
          obtain ⟨hT2, y, r, ⟨ha2, hr2, hi2⟩, hnums, hrl2⟩ := hi2
          have hbw2 : Below w.heap.size w W2 := Hi0.out.below.trans (hT2.below Hi0.out.below.size (fun b h => by have := Hsz.out; have := HbW.out.size; have := Hi0.out.below.size; omega))
          have hnum := number_any r hrl2 W2 (HE.out W2 hbw2)
          have cr := hr2.cell (i := 0) rfl
          have hs2 : W0.heap.size ≤ W2.heap.size := hT2.size
          have hsn := nums_snoc x pre ⟨k, 0, 0, 0, 0⟩ rest
          rw [hnums] at hsn
          have Hsn := Lib.hid hsn; clear hsn hnums
          have hx0 : (0 : Int) ≤ x ∧ (x : Int) < 5 := by omega
          have HT2 := Lib.hid hT2; clear hT2
          have Ha2 := Lib.hid ha2; clear ha2
          have Hr2 := Lib.hid hr2; clear hr2
          have Hi2 := Lib.hid hi2; clear hi2
          clear hbw2
          cases hn : numberP r with
          | none =>
            rw [hn] at hnum
            simp only [numVal] at hnum
            have Hnum := Lib.hid hnum; clear hnum
            have Hn := Lib.hid hn; clear hn
            gi_wp2_with (gi_at_call 95; refine (CallsIn.inRound _ (callsIn_wide.2 Hnum.out)).mono ?_; rintro e w5 ⟨rfl, hb5⟩; have a5 := (Ha2.out.below hb5).cell (In.cell_get y hx5); have f5 := (Ha2.out.below hb5).free x; have r5 := (Hr2.out.below hb5).cell (i := 0) rfl; have g5 := (Hr2.out.below hb5).free 0; have i5 : w5.cell? ⟨V.heap.size + 1 + 1, 0, none⟩ = some (.bool true) := (Hi2.out.below hb5).cell (i := 0) rfl; have j5 : w5.frozen? ⟨V.heap.size + 1 + 1, 0, none⟩ = false := (Hi2.out.below hb5).free 0; have Hb5 := Lib.hid hb5; clear hb5)
            have hT7 : Tch (fun b => b = V.heap.size + 1 ∨ b = V.heap.size + 1 + 1 ∨ b = V.heap.size + 1 + 1 + 1) W2 (((w5.setCell ⟨V.heap.size + 1 + 1 + 1, x, none⟩ (.int .i64 0)).setCell ⟨V.heap.size + 1, 0, none⟩ (.string ⟨#[]⟩)).setCell ⟨V.heap.size + 1 + 1, 0, none⟩ (.bool false)) := (((Tch.of_idle Hb5.out).setCell (p := ⟨V.heap.size + 1 + 1 + 1, x, none⟩) (.inl (.inr (.inr rfl))) _).setCell (p := ⟨V.heap.size + 1, 0, none⟩) (.inl (.inl rfl)) _).setCell (p := ⟨V.heap.size + 1 + 1, 0, none⟩) (.inl (.inr (.inl rfl))) _
            refine ⟨hT7.keepsFrom (fun b o h hb ho => by have := Hsz.out; omega), hT7.mono (fun b _ h => .inr h), HT2.out.trans (hT7.mono (fun b _ h => .inr h)), rfl, ?_⟩
            rw [Hsn.out]; simp [numsP, Hn.out]
          | some p =>
            obtain ⟨v, r3⟩ := p
            have hrl3 : r3.length ≤ 1000000 := Nat.le_trans (number_len hn) hrl2
            rw [hn] at hnum
            simp only [numVal] at hnum
            have Hnum := Lib.hid hnum; clear hnum
            have Hn := Lib.hid hn; clear hn
            gi_wp2_with (gi_at_call 95; refine (CallsIn.inRound _ (callsIn_wide.2 Hnum.out)).mono ?_; rintro e w5 ⟨rfl, hb5⟩; have a5 := (Ha2.out.below hb5).cell (In.cell_get y hx5); have f5 := (Ha2.out.below hb5).free x; have r5 := (Hr2.out.below hb5).cell (i := 0) rfl; have g5 := (Hr2.out.below hb5).free 0; have i5 : w5.cell? ⟨V.heap.size + 1 + 1, 0, none⟩ = some (.bool true) := (Hi2.out.below hb5).cell (i := 0) rfl; have j5 : w5.frozen? ⟨V.heap.size + 1 + 1, 0, none⟩ = false := (Hi2.out.below hb5).free 0; have Hb5 := Lib.hid hb5; clear hb5)
            have hT7 : Tch (fun b => b = V.heap.size + 1 ∨ b = V.heap.size + 1 + 1 ∨ b = V.heap.size + 1 + 1 + 1) W2 (((w5.setCell ⟨V.heap.size + 1 + 1 + 1, x, none⟩ (.int .i64 v)).setCell ⟨V.heap.size + 1, 0, none⟩ (.string ⟨r3.toArray⟩)).setCell ⟨V.heap.size + 1 + 1, 0, none⟩ (.bool true)) := (((Tch.of_idle Hb5.out).setCell (p := ⟨V.heap.size + 1 + 1 + 1, x, none⟩) (.inl (.inr (.inr rfl))) _).setCell (p := ⟨V.heap.size + 1, 0, none⟩) (.inl (.inl rfl)) _).setCell (p := ⟨V.heap.size + 1 + 1, 0, none⟩) (.inl (.inr (.inl rfl))) _
            refine ⟨hT7.keepsFrom (fun b o h hb ho => by have := Hsz.out; omega), hT7.mono (fun b _ h => .inr h), HT2.out.trans (hT7.mono (fun b _ h => .inr h)), y.set x v, r3, ⟨?_, ?_, ?_⟩, ?_, hrl3⟩
            · rw [In.cells_set y hx5]
              exact (((Ha2.out.below Hb5.out).set x (.int .i64 v)).other (p := ⟨V.heap.size + 1, 0, none⟩) (show V.heap.size + 1 + 1 + 1 ≠ V.heap.size + 1 by omega) _).other (p := ⟨V.heap.size + 1 + 1, 0, none⟩) (by simp) _
            · exact (((Hr2.out.below Hb5.out).other (p := ⟨V.heap.size + 1 + 1 + 1, x, none⟩) (show V.heap.size + 1 ≠ V.heap.size + 1 + 1 + 1 by omega) _).set 0 _).other (p := ⟨V.heap.size + 1 + 1, 0, none⟩) (by simp) _
            · exact ((((Hi2.out.below Hb5.out).other (p := ⟨V.heap.size + 1 + 1 + 1, x, none⟩) (by simp) _).other (p := ⟨V.heap.size + 1, 0, none⟩) (by simp) _).set 0 _)
            · rw [Hsn.out]; simp [numsP, Hn.out]
    · obtain rfl : k = 19 := by have := hi.upto; omega
      have Hi := Lib.hid hi; clear hi
      gi_wp2_with (refine in_store_mid rfl 43 (.tmp 2) (.tmp 49) rfl w.heap.size 0 #[.int .i64 0, .int .i64 0, .int .i64 0, .int .i64 0, .int .i64 0] rfl rfl ?_ Tryz.sizeInstr (by simp [Value.oneCell']) ?_; exact Hi.out.box.there (by simp))
      rw [Exit.noGoto_ret]
      have hTz : Tch (· = w.heap.size) V (V.setCells w.heap.size 0 [.int .i64 0, .int .i64 0, .int .i64 0, .int .i64 0, .int .i64 0]) := Tch.setCells (C := (· = w.heap.size)) (.inl rfl) _ 0 (Tch.refl _ V)
      refine leaves_marks (B := w.heap.size + 1) (Z := PaZ w In.zero) paZ_own ?_ (ms) _ ?_ ?_ ?_ ?_
      · intro X hz
        refine ⟨_, results_ct rfl rfl (run_loadVar_mid _ _ 0 43 (In.cells In.zero) _ hz.1.full Tryz.underlying43 rfl (by kernel_rfl)) rfl, ?_, hz.2⟩
        rw [parse_none Hi.out.none_]; rfl
      · exact (Hi.out.marks.tch hTz (fun D hD e => by have := (Hi.out.low D hD).1; omega)).1
      · exact Hi.out.marks.2
      · exact fun D hD => (Hi.out.low D hD).1
      · exact ⟨setInstr Hi.out.box rfl In.zero, below_cells (Nat.le_refl _) _ 0 _ Hi.out.below⟩

theorem parse_any (l : List UInt8) (hl : l.length ≤ 1000000) (w : World) (hF : FormsAt w) (hE : ErrsBelow w) (htab : Lib.TabBelow Tryz.prog w.heap.size w "internal/strconv.uint64pow10" .u64 Lib.pow10Tab) :
    Calls Tryz.prog 77 #[.string ⟨l.toArray⟩] w fun e w' => e = .returned (parseVal (parseP l)) ∧ Below w.heap.size w w' := callsIn_wide.1 (parse_in l hl w hF hE htab)

end Go.Proofs.YteijhcibdglkeaaGreatDoor
