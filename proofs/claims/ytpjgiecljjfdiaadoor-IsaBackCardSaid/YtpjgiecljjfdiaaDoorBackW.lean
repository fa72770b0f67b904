/- What is written is read as it was: the law's walk. Conditions: what came in. -/
import Derived.Test.YtpjgiecljjfdiaaDoorAlx
import Derived.Test.YtpjgiecljjfdiaaDoorBackF
namespace Go.Proofs.YtpjgiecljjfdiaaDoor
open Go.RowKit Go.BigFrame

@[local go_sem ↓ high] theorem same_inb (a b c e f : Int) (w : World) : (Op.equalIn 10000 23 (.agg #[.int .i64 a, .int .i64 b, .int .i64 c, .int .i64 e, .int .i64 f]) (.agg #[.int .i64 a, .int .i64 b, .int .i64 c, .int .i64 e, .int .i64 f])).run Tryd.prog w = .ok true w := by
  rw [same_in ⟨a, b, c, e, f⟩ ⟨a, b, c, e, f⟩]; simp

def mayK (xs : List In) (k : Nat) : Bool := decide (xs.length ≤ 1024) && (xs.take k).all fitsP
theorem mayK_succ {xs : List In} {k : Nat} {x : In} (h : xs[k]? = some x) : mayK xs (k + 1) = (mayK xs k && fitsP x) := by
  unfold mayK
  rw [List.take_add_one, h, List.all_append]
  simp [Bool.and_assoc]
theorem mayK_all (xs : List In) : mayK xs xs.length = (encP xs).isSome := by
  unfold mayK encP
  rw [List.take_length]
  by_cases h1 : xs.length ≤ 1024
  · cases h2 : xs.all fitsP <;> simp [h1, h2]
  · simp [h1]
theorem instr_at {w : World} {a : Option Addr} {xs : List In} (h : RowsIn w a 5 In.cells xs) {k : Nat} {x : In} (hk : xs[k]? = some x) : ∃ q c, a = some ⟨q, c, none⟩ ∧ q < w.heap.size ∧ ∀ V, Below w.heap.size w V → V.cell? ⟨q, c + k * 5, none⟩ = some (.int .i64 x.op) ∧ V.cell? ⟨q, c + k * 5 + 1, none⟩ = some (.int .i64 x.a) ∧ V.cell? ⟨q, c + k * 5 + 2, none⟩ = some (.int .i64 x.b) ∧ V.cell? ⟨q, c + k * 5 + 3, none⟩ = some (.int .i64 x.c) ∧ V.cell? ⟨q, c + k * 5 + 4, none⟩ = some (.int .i64 x.imm) := by
  rcases h with rfl | ⟨q, c, rfl, hq, hr⟩
  · simp at hk
  · have hc : ∀ V, Below w.heap.size w V → ∀ i v, x.cells[i]? = some v → V.cell? ⟨q, c + k * 5 + i, none⟩ = some v := fun V hV i v hi => by
      rw [World.cell?_of_block (a := ⟨q, c + k * 5 + i, none⟩) (hV.block q hq)]
      exact hr k x hk i v hi
    refine ⟨q, c, rfl, hq, fun V hV => ⟨?_, ?_, ?_, ?_, ?_⟩⟩
    · exact hc V hV 0 _ rfl
    · exact hc V hV 1 _ rfl
    · exact hc V hV 2 _ rfl
    · exact hc V hV 3 _ rfl
    · exact hc V hV 4 _ rfl

set_option maxRecDepth 100000 in
set_option maxHeartbeats 4000000 in
theorem back_long (a0 a1 : Option Addr) (n0 n1 c0 c1 : Nat) (w : World) (hs : Std w) (h : 3000 < n0 ∨ 20000 < n1) :
    Calls Tryd.prog 6 #[.slice a0 n0 c0, .slice a1 n1 c1] w fun e w' => e = .returned (.bool true) ∧ Below w.heap.size w w' := by
  have Hal := Lib.hid (alive_any w hs); clear hs
  by_cases h3 : 3000 < n0
  · have h1 : (3000 : Int) < n0 := by omega
    go_enter Tryd.func6, Tryd.ntmps6
    go_wp2_with (go_at_call 21; with_reducible refine Hal.out.mono ?_; rintro e w2 ⟨rfl, hb2⟩)
    go_ret
    exact ⟨rfl, hb2⟩
  · have h1 : ¬ (3000 : Int) < n0 := by omega
    have h2 : (20000 : Int) < n1 := by omega
    go_enter Tryd.func6, Tryd.ntmps6
    go_wp2_with (go_at_call 21; with_reducible refine Hal.out.mono ?_; rintro e w2 ⟨rfl, hb2⟩)
    go_ret
    exact ⟨rfl, hb2⟩

set_option maxRecDepth 100000 in
set_option maxHeartbeats 4000000 in
theorem back_some (a0 a1 : Option Addr) (c0 c1 : Nat) (xs : List In) (bs : List UInt8) (w : World) (hs : Std w) (hr0 : RowsIn w a0 5 In.cells xs) (hr1 : RowsIn w a1 1 cell1 bs) (hcap : bs.length ≤ c1) (h0 : xs.length ≤ 3000) (h1 : bs.length ≤ 20000)
    (hsl : ∀ W, (Instr.sliceAt 42 (.slice a1 bs.length c1) none (some (.int .i64 ((8 * (decP bs).length : Nat) : Int))) none).run Tryd.prog W = .ok (.slice a1 (8 * (decP bs).length) c1) W) :
    Calls Tryd.prog 6 #[.slice a0 xs.length c0, .slice a1 bs.length c1] w fun e w' => e = .returned (.bool true) ∧ Below w.heap.size w w' := by
  have hl0 : ¬ (3000 : Int) < xs.length := by omega
  have hl1 : ¬ (20000 : Int) < bs.length := by omega
  have hxb : (0 : Int) ≤ xs.length ∧ (xs.length : Int) ≤ 3000 := by omega
  have hbb : (0 : Int) ≤ bs.length ∧ (bs.length : Int) ≤ 20000 := by omega
  have hal := alive_any w hs
  have hmk := mayK_all xs
  have hen := fun V hV => enc_rows a0 c0 xs V hV (by omega)
  have hdb := fun V hV => dec_rows (a := a1) (cap := c1) (bs := bs) V hV hcap (by omega)
  obtain ⟨hed, hdl⟩ := enc_dec bs
  have hdl2 : (decP bs).length ≤ 1024 := by omega
  have hdl3 : 8 * (decP bs).length ≤ bs.length := by omega
  have hen2 := fun a c V hV => enc_rows a c (decP bs) V hV (by omega)
  rw [hed] at hen2
  have hmin : (((decP bs).length : Nat) : Int) = min 1024 ((bs.length : Int) / 8) := by omega
  have Hal := Lib.hid hal; clear hal
  have Hmk := Lib.hid hmk; clear hmk
  have Hen := Lib.hid hen; clear hen
  have Hdb := Lib.hid hdb; clear hdb
  have Hen2 := Lib.hid hen2; clear hen2
  have Hsl := Lib.hid hsl; clear hsl
  have Hmin := Lib.hid hmin; clear hmin hed hdl hs
  have Hr0 := Lib.hid hr0; clear hr0
  have Hr1 := Lib.hid hr1; clear hr1
  go_enter Tryd.func6, Tryd.ntmps6
  go_wp2_with (go_at_call 21; with_reducible refine Hal.out.mono ?_; rintro e w2 ⟨rfl, hb2⟩)
  have hki0 : mayK xs 0 = decide (xs.length ≤ 1024) := by simp [mayK]
  have Hk0 := Lib.hid hki0; clear hki0
  go_loopw [6, 7] (fun m i wr => ∃ k : Nat, k ≤ xs.length ∧ i = .int .i64 k ∧ m = .bool (mayK xs k) ∧ Below w.heap.size w wr)
    (fun _ i _ => xs.length - (intOf i).toNat)
  case atStart => exact ⟨0, by omega, by simp, by rw [Hk0.out]; simp; omega, hb2⟩
  case round =>
    obtain ⟨k, hk, rfl, rfl, hb⟩ := hrel
    clear hb2 Hk0
    by_cases hlt : k < xs.length
    · obtain ⟨x, hx⟩ : ∃ x, xs[k]? = some x := ⟨_, List.getElem?_eq_getElem hlt⟩
      obtain ⟨q, c, rfl, hq, hcells⟩ := instr_at Hr0.out hx
      have Hsu := Lib.hid (mayK_succ hx)
      obtain ⟨op, a, b, c', imm⟩ := x
      obtain ⟨d0, d1, d2, d3, d4⟩ := hcells wr hb
      have Hb := Lib.hid hb; clear hb
      have hki : (0 : Int) ≤ k ∧ (k : Int) < xs.length := by omega
      clear hcells hx
      cases hm : mayK xs k with
      | false =>
        have Hm := Lib.hid hm; clear hm
        go_wp2
        go_roundw
        case rel => exact ⟨k + 1, by omega, by simp, by rw [Hsu.out, Hm.out]; rfl, Hb.out⟩
        case measure => simp [intOf]; omega
      | true =>
        have Hm := Lib.hid hm; clear hm
        go_wp2_with (go_at_call 22; refine (lfits_any ⟨op, a, b, c', imm⟩ _).mono ?_; rintro e w3 ⟨rfl, hb3⟩)
        go_roundw
        case rel => exact ⟨k + 1, by omega, by simp, by rw [Hsu.out, Hm.out]; rfl, Hb.out.trans (hb3.mono Hb.out.size)⟩
        case measure => simp [intOf]; omega
    · obtain rfl : k = xs.length := by omega
      have hen1 := Hen.out wr (Hr0.out.below hb)
      have Hb := Lib.hid hb; clear hb
      have hmk := Hmk.out
      cases ho : encP xs with
      | none =>
        rw [ho] at hmk hen1
        simp only [EncRow] at hen1
        simp only [Option.isSome] at hmk
        rw [hmk]
        have Hen1 := Lib.hid hen1; clear hen1 hmk ho
        go_wp2_with fail
        go_at_call 20
        refine Hen1.out.mono ?_
        rintro e w4 ⟨rfl, hb4⟩
        have hd4 : Calls Tryd.prog 19 #[.slice none 0 0] w4 fun e w' => ∃ a' cap', e = .returned (.slice a' 0 cap') ∧ RowsIn w' a' 5 In.cells [] ∧ Below w4.heap.size w4 w' := dec_rows (a := none) (cap := 0) (bs := []) w4 (.inl rfl) (by simp) (by simp)
        have hb04 := Hb.out.trans (hb4.mono Hb.out.size)
        have Hd4 := Lib.hid hd4; clear hd4
        have Hb4 := Lib.hid hb04; clear hb4 hb04 Hb Hen1
        go_wp2_with fail
        go_at_call 19
        refine Hd4.out.mono ?_
        rintro e w5 ⟨a5, c5, rfl, -, hb5⟩
        have hb05 := Hb4.out.trans (hb5.mono Hb4.out.size)
        clear hb5 Hd4 Hb4
        go_wp2_with fail
        go_loopw [11] (fun i wr => i = .int .i64 0 ∧ Below w.heap.size w wr) (fun _ _ => 0)
        case atStart => exact ⟨rfl, hb05⟩
        case round =>
          obtain ⟨rfl, hb6⟩ := hrel
          clear hb05
          have hdb1 := Hdb.out wr (Hr1.out.below hb6)
          have Hdb1 := Lib.hid hdb1; clear hdb1
          go_wp2_with fail
          go_at_call 19
          refine Hdb1.out.mono ?_
          rintro e w8 ⟨a8, c8, rfl, hr8, hb8⟩
          have hen8 := Hen2.out a8 c8 w8 hr8
          simp only [EncRow] at hen8
          have Hen8 := Lib.hid hen8; clear hen8
          have hb08 := hb6.trans (hb8.mono hb6.size)
          have Hb8 := Lib.hid hb08; clear hb08 hb8 Hdb1 hb6
          have hll : (0 : Int) ≤ (decP bs).length ∧ ((decP bs).length : Int) ≤ 1024 := by omega
          go_wp2_with fail
          go_at_call 20
          refine Hen8.out.mono ?_
          rintro e w9 ⟨a9, c9, rfl, hr9, hcp9, -, hb9⟩
          have hb09 := Hb8.out.trans (hb9.mono Hb8.out.size)
          have hcv1 := fun n => conv_rows (w := w9.drewN n) (cap := c9) (hr9.below (below_drewN (Below.refl _ _) n))
          have hcv2 := fun n => conv_rows (w := w9.drewN n) (cap := c1) (rows_take (Hr1.out.below (below_drewN hb09 n)) (8 * (decP bs).length))
          have htl : (bs.take (8 * (decP bs).length)).length = 8 * (decP bs).length := by rw [List.length_take]; omega
          rw [htl] at hcv1 hcv2
          have hsl9 := Hsl.out
          have h8w : IntKind.i64.wrap (8 * ((decP bs).length : Int)) = ((8 * (decP bs).length : Nat) : Int) := by rw [IntKind.wrap_i64]; omega
          have hq9 : (((decP bs).length : Int) == min 1024 (IntKind.i64.wrap ((bs.length : Int) / 8))) = true := by
            have := Hmin.out
            rw [show IntKind.i64.wrap ((bs.length : Int) / 8) = (bs.length : Int) / 8 by rw [IntKind.wrap_i64]; omega, ← this]
            exact beq_self_eq_true _
          generalize 8 * (decP bs).length = N8 at *
          have Hb9 := Lib.hid hb09; clear hb09 hb9 hr9 hcp9 hr8
          go_wp2_with fail
          go_quiet (fail)
          go_wp2
          refine bodyPost_ret (results_tmp rfl _ _ _) rfl ⟨?_, below_drewN Hb9.out nq⟩
          rfl
      | some ss =>
        obtain ⟨hdp, hsl', hx1⟩ := dec_enc ho
        rw [ho] at hmk hen1
        simp only [EncRow] at hen1
        simp only [Option.isSome] at hmk
        rw [hmk]
        have Hen1 := Lib.hid hen1; clear hen1 hmk ho
        have hss : (0 : Int) ≤ ss.length ∧ (ss.length : Int) ≤ 8192 := by omega
        clear hsl'
        go_wp2_with fail
        go_at_call 20
        refine Hen1.out.mono ?_
        rintro e w4 ⟨a4, c4, rfl, hr4, hcp4, -, hb4⟩
        have hd4 := dec_rows (a := a4) (cap := c4) (bs := ss) w4 hr4 hcp4 (by omega)
        rw [hdp] at hd4
        have hb04 := Hb.out.trans (hb4.mono Hb.out.size)
        have Hd4 := Lib.hid hd4; clear hd4
        have Hb4 := Lib.hid hb04; clear hb4 hb04 Hb Hen1
        clear hr4 hcp4 hdp
        go_wp2_with fail
        go_at_call 19
        refine Hd4.out.mono ?_
        rintro e w5 ⟨a5, c5, rfl, hr5, hb5⟩
        have hb05 := Hb4.out.trans (hb5.mono Hb4.out.size)
        have Hr5 := Lib.hid hr5; clear hb5 Hd4 Hb4 hr5
        go_wp2_with fail
        go_loopw [11] (fun i wr => ∃ k : Nat, k ≤ xs.length ∧ i = .int .i64 k ∧ Below w5.heap.size w5 wr) (fun i _ => xs.length - (intOf i).toNat)
        case atStart => exact ⟨0, by omega, by simp, Below.refl _ _⟩
        case round =>
          obtain ⟨k2, hk2, rfl, h56⟩ := hrel
          have hb6 : Below w.heap.size w wr := hb05.trans (h56.mono hb05.size)
          by_cases hlt2 : k2 < xs.length
          · obtain ⟨x, hx⟩ : ∃ x, xs[k2]? = some x := ⟨_, List.getElem?_eq_getElem hlt2⟩
            obtain ⟨q, c, rfl, hq, hcells⟩ := instr_at Hr0.out hx
            obtain ⟨q5, c5', rfl, hq5, hcells5⟩ := instr_at Hr5.out hx
            obtain ⟨op, a, b, c', imm⟩ := x
            have hki : (0 : Int) ≤ k2 ∧ (k2 : Int) < xs.length := by omega
            have HC := Lib.hid hcells; clear hcells
            have HC5 := Lib.hid hcells5; clear hcells5
            have Hb6 := Lib.hid hb6; clear hb05 hb6
            clear hx
            obtain ⟨d0, d1, d2, d3, d4⟩ := HC.out wr Hb6.out
            obtain ⟨f0, f1, f2, f3, f4⟩ := HC5.out wr h56
            have H56 := Lib.hid h56; clear h56
            go_wp2_with fail
            go_quiet (fail)
            go_wp2
            go_roundw
            case rel => exact ⟨k2 + 1, by omega, by simp, below_drewN H56.out nq⟩
            case measure => simp [intOf]; omega
          · obtain rfl : k2 = xs.length := by omega
            clear hb05 h56
            have hdb1 := Hdb.out wr (Hr1.out.below hb6)
            have Hdb1 := Lib.hid hdb1; clear hdb1
            go_wp2_with fail
            go_at_call 19
            refine Hdb1.out.mono ?_
            rintro e w8 ⟨a8, c8, rfl, hr8, hb8⟩
            have hen8 := Hen2.out a8 c8 w8 hr8
            simp only [EncRow] at hen8
            have Hen8 := Lib.hid hen8; clear hen8
            have hb08 := hb6.trans (hb8.mono hb6.size)
            have Hb8 := Lib.hid hb08; clear hb08 hb8 Hdb1 hb6
            have hll : (0 : Int) ≤ (decP bs).length ∧ ((decP bs).length : Int) ≤ 1024 := by omega
            go_wp2_with fail
            go_at_call 20
            refine Hen8.out.mono ?_
            rintro e w9 ⟨a9, c9, rfl, hr9, hcp9, -, hb9⟩
            have hb09 := Hb8.out.trans (hb9.mono Hb8.out.size)
            have hcv1 := fun n => conv_rows (w := w9.drewN n) (cap := c9) (hr9.below (below_drewN (Below.refl _ _) n))
            have hcv2 := fun n => conv_rows (w := w9.drewN n) (cap := c1) (rows_take (Hr1.out.below (below_drewN hb09 n)) (8 * (decP bs).length))
            have htl : (bs.take (8 * (decP bs).length)).length = 8 * (decP bs).length := by rw [List.length_take]; omega
            rw [htl] at hcv1 hcv2
            have hsl9 := Hsl.out
            have h8w : IntKind.i64.wrap (8 * ((decP bs).length : Int)) = ((8 * (decP bs).length : Nat) : Int) := by rw [IntKind.wrap_i64]; omega
            have hq9 : (((decP bs).length : Int) == min 1024 (IntKind.i64.wrap ((bs.length : Int) / 8))) = true := by
              have := Hmin.out
              rw [show IntKind.i64.wrap ((bs.length : Int) / 8) = (bs.length : Int) / 8 by rw [IntKind.wrap_i64]; omega, ← this]
              exact beq_self_eq_true _
            generalize 8 * (decP bs).length = N8 at *
            have Hb9 := Lib.hid hb09; clear hb09 hb9 hr9 hcp9 hr8
            go_wp2_with fail
            go_quiet (fail)
            go_wp2
            refine bodyPost_ret (results_tmp rfl _ _ _) rfl ⟨?_, below_drewN Hb9.out nq⟩
            rfl

end Go.Proofs.YtpjgiecljjfdiaaDoor
