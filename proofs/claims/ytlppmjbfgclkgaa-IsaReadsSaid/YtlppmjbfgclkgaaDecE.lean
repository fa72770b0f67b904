/- The document's own Decode. Conditions: those stated in each theorem. -/
import Derived.Test.YtlppmjbfgclkgaaDecD
import Derived.StillTailTactics
import Derived.IntWalk
import Derived.Deep.RegionHeld3
import Derived.Deep.AppendLies
namespace Go.Proofs.Ytlppmjbfgclkgaa
open Go.RowKit Go.BigFrame

/-- The number of the bytes so far. -/
def accP (z4 z5 z6 z7 : Int) (j : Nat) : Int := match j with | 4 => 0 | 5 => z4 | 6 => z4 * 256 + z5 | 7 => (z4 * 256 + z5) * 256 + z6 | _ => ((z4 * 256 + z5) * 256 + z6) * 256 + z7

set_option maxRecDepth 100000 in
set_option maxHeartbeats 4000000 in
theorem rdecode_some {q c cap : Nat} {bs : List UInt8} (w : World) (hq : q < w.heap.size) (hr : ∀ k x, bs[k]? = some x → w.rangeAt q (c + k * 1) (cell1 x)) (hcap : bs.length ≤ cap) (hln : bs.length ≤ 1000000) :
    Calls Try.prog 5 #[.slice (some ⟨q, c, none⟩) bs.length cap] w fun e w' => ∃ v, e = .returned v ∧ w'.ownsRow w.heap.size 27 5 v (decP bs).length (flatI (decP bs)) ∧ Below w.heap.size w w' := by
  have Hr := Lib.hid hr; clear hr
  have Hdl := Lib.hid (decAll_len _ bs (Nat.le_refl _))
  obtain ⟨i0, z0, hi, hz0, hz1, hz2, hz3⟩ := info27
  have HI := Lib.hid hi; clear hi
  have HZ0 := Lib.hid hz0; clear hz0
  have HZ1 := Lib.hid hz1; clear hz1
  have HZ2 := Lib.hid hz2; clear hz2
  have HZ3 := Lib.hid hz3; clear hz3
  go_enter Try.func5, Try.ntmps5
  go_wp2_with fail
  go_loopw [3, 4] (fun v i wr => ∃ k p : Nat, p = 8 * k ∧ p ≤ bs.length ∧ k ≤ 1024 ∧ i = .int .i64 p ∧ wr.ownsRow w.heap.size 27 5 v k (flatI ((decAll bs).take k)) ∧ Below w.heap.size w wr)
    (fun _ i _ => bs.length + 8 - (intOf i).toNat)
  case atStart => exact ⟨0, 0, rfl, by omega, by omega, rfl, World.ownsRow_nil _ _ _ _, Below.refl _ _⟩
  case round =>
    obtain ⟨k, p, hp, hpn, hk, rfl, ho, hbw⟩ := hrel
    have hlen := lenI ho
    have Ho := Lib.hid ho; clear ho
    have Hbw := Lib.hid hbw; clear hbw
    have Hp := Lib.hid hp
    by_cases h8 : p + 8 ≤ bs.length
    · by_cases hkk : k < 1024
      · obtain ⟨b0, b1, b2, b3, b4, b5, b6, b7, hat, h8b⟩ := decAll_at k bs (by omega)
        have hrr : ∀ j x, bs[j]? = some x → wr.rangeAt q (c + j * 1) (cell1 x) := fun j x hx i v hi => by
          rw [← Hr.out j x hx i v hi]; exact World.cell?_of_block (a := ⟨q, c + j * 1 + i, none⟩) (Hbw.out.block q hq)
        have h8e := eight hrr h8b
        rw [← hp] at h8e
        have Hat := Lib.hid hat
        have g : ∀ b : UInt8, (0 : Int) ≤ (b.toNat : Int) ∧ (b.toNat : Int) < 256 := fun b => ⟨by omega, by have := b.toNat_lt; omega⟩
        have h0 := g b0
        have h1 := g b1
        have h2 := g b2
        have h3 := g b3
        have h4 := g b4
        have h5 := g b5
        have h6 := g b6
        have h7 := g b7
        have hx : getB b0 b1 b2 b3 b4 b5 b6 b7 = ⟨b0.toNat, b1.toNat, b2.toNat, b3.toNat, immP (accP b4.toNat b5.toNat b6.toNat b7.toNat 8)⟩ := by
          have e8 : accP b4.toNat b5.toNat b6.toNat b7.toNat 8 = (b4.toNat : Int) * 16777216 + (b5.toNat : Int) * 65536 + (b6.toNat : Int) * 256 + (b7.toNat : Int) := by
            show (((b4.toNat : Int) * 256 + (b5.toNat : Int)) * 256 + (b6.toNat : Int)) * 256 + (b7.toNat : Int) = _
            omega
          rw [e8]; rfl
        rw [hx] at hat
        have HX := Lib.hid hat
        clear hat hrr h8b g hx hp Hat
        generalize (b0.toNat : Int) = y0 at *
        generalize (b1.toNat : Int) = y1 at *
        generalize (b2.toNat : Int) = y2 at *
        generalize (b3.toNat : Int) = y3 at *
        generalize (b4.toNat : Int) = y4 at *
        generalize (b5.toNat : Int) = y5 at *
        generalize (b6.toNat : Int) = y6 at *
        generalize (b7.toNat : Int) = y7 at *
        have H8e := Lib.hid h8e; clear h8e
        have hqr : q < wr.heap.size := Nat.lt_of_lt_of_le hq Hbw.out.size
        have hki : ((k : Nat) : Int) < 1024 := by omega
        have hpi : (0 : Int) ≤ p ∧ (p : Int) + 8 ≤ bs.length := by omega
        go_wp2_with fail
        have hplen : (p : Int) + 8 ≤ 1000000 := by omega
        have d4 : wr.cell? ⟨q, c + (p + 4), none⟩ = some (.int .u8 y4) := by rw [← Nat.add_assoc]; exact H8e.out 4 _ rfl
        have d5 : wr.cell? ⟨q, c + (p + 5), none⟩ = some (.int .u8 y5) := by rw [← Nat.add_assoc]; exact H8e.out 5 _ rfl
        have d6 : wr.cell? ⟨q, c + (p + 6), none⟩ = some (.int .u8 y6) := by rw [← Nat.add_assoc]; exact H8e.out 6 _ rfl
        have d7 : wr.cell? ⟨q, c + (p + 7), none⟩ = some (.int .u8 y7) := by rw [← Nat.add_assoc]; exact H8e.out 7 _ rfl
        clear hlen
        have HW := Lib.hid hqr
        go_loopw [5, 6] (fun v i wr2 => ∃ j : Nat, 4 ≤ j ∧ j ≤ 8 ∧ i = .int .i64 j ∧ v = .int .i64 (accP y4 y5 y6 y7 j) ∧ wr2 = wr)
          (fun _ i _ => 8 - (intOf i).toNat)
        case atStart => exact ⟨4, by omega, by omega, rfl, rfl, rfl⟩
        case round =>
          obtain ⟨j, hj4, hj8, rfl, rfl, rfl⟩ := hrel
          rcases (by omega : j = 4 ∨ j = 5 ∨ j = 6 ∨ j = 7 ∨ j = 8) with rfl | rfl | rfl | rfl | rfl
          · simp only [accP]
            go_wp2
            go_roundw
            case rel => exact ⟨5, by omega, by omega, rfl, rfl, trivial⟩
            case measure => simp [intOf]
          · simp only [accP]
            go_wp2
            go_roundw
            case rel => exact ⟨6, by omega, by omega, rfl, rfl, trivial⟩
            case measure => simp [intOf]
          · simp only [accP]
            go_wp2
            go_roundw
            case rel => exact ⟨7, by omega, by omega, rfl, rfl, trivial⟩
            case measure => simp [intOf]
          · simp only [accP]
            go_wp2
            go_roundw
            case rel => exact ⟨8, by omega, by omega, rfl, rfl, trivial⟩
            case measure => simp [intOf]
          · obtain ⟨m, hm⟩ : ∃ m, m = accP y4 y5 y6 y7 8 := ⟨_, rfl⟩
            rw [← hm]
            have hm1 : m = ((y4 * 256 + y5) * 256 + y6) * 256 + y7 := hm
            have hmb : 0 ≤ m ∧ m < 4294967296 := by omega
            clear hm1
            have d0 : wr.cell? ⟨q, c + p, none⟩ = some (.int .u8 y0) := H8e.out 0 _ rfl
            have d1 : wr.cell? ⟨q, c + (p + 1), none⟩ = some (.int .u8 y1) := by rw [← Nat.add_assoc]; exact H8e.out 1 _ rfl
            have d2 : wr.cell? ⟨q, c + (p + 2), none⟩ = some (.int .u8 y2) := by rw [← Nat.add_assoc]; exact H8e.out 2 _ rfl
            have d3 : wr.cell? ⟨q, c + (p + 3), none⟩ = some (.int .u8 y3) := by rw [← Nat.add_assoc]; exact H8e.out 3 _ rfl
            clear d4 d5 d6 d7
            by_cases hbig : 2147483648 ≤ m
            · have HXm := HX.out
              rw [← hm] at HXm
              have HXM := Lib.hid HXm; clear HXm
              have hi0 : -2147483648 ≤ immP m ∧ immP m < 2147483648 := by unfold immP; split <;> omega
              have Him := Lib.hid (show immP m = m - 4294967296 by unfold immP; split <;> omega)
              have w0 : IntKind.i64.wrap y0 = y0 := by rw [IntKind.wrap_i64]; omega
              have w1 : IntKind.i64.wrap y1 = y1 := by rw [IntKind.wrap_i64]; omega
              have w2 : IntKind.i64.wrap y2 = y2 := by rw [IntKind.wrap_i64]; omega
              have w3 : IntKind.i64.wrap y3 = y3 := by rw [IntKind.wrap_i64]; omega
              have p1 : IntKind.i64.wrap ((p : Int) + 1) = (p : Int) + 1 := IntWalk.i64_in _ (by omega)
              have p2 : IntKind.i64.wrap ((p : Int) + 2) = (p : Int) + 2 := IntWalk.i64_in _ (by omega)
              have p3 : IntKind.i64.wrap ((p : Int) + 3) = (p : Int) + 3 := IntWalk.i64_in _ (by omega)
              have n1 : 0 ≤ (p : Int) + 1 ∧ (p : Int) + 1 < bs.length := by omega
              have n2 : 0 ≤ (p : Int) + 2 ∧ (p : Int) + 2 < bs.length := by omega
              have n3 : 0 ≤ (p : Int) + 3 ∧ (p : Int) + 3 < bs.length := by omega
              have n0 : p < bs.length := by omega
              obtain ⟨n1a, n1b⟩ := n1
              obtain ⟨n2a, n2b⟩ := n2
              obtain ⟨n3a, n3b⟩ := n3
              have t1 : ((p : Int) + 1).toNat = p + 1 := by omega
              have t2 : ((p : Int) + 2).toNat = p + 2 := by omega
              have t3 : ((p : Int) + 3).toNat = p + 3 := by omega
              have hnp : ¬ (p : Int) < 0 := by omega
              have Hm := Lib.hid hm; clear hm h4 h5 h6 h7 h0 h1 h2 h3
              have hag : u3.ownBlock ≠ some q := fun e => by have := (owns_lt Ho.out e).1; omega
              go_wp2_with fail
              go_region_held3 (fun w' => w'.cell? ⟨q, c + p, none⟩ = some (.int .u8 y0) ∧ w'.cell? ⟨q, c + (p + 1), none⟩ = some (.int .u8 y1) ∧ w'.cell? ⟨q, c + (p + 2), none⟩ = some (.int .u8 y2) ∧ w'.cell? ⟨q, c + (p + 3), none⟩ = some (.int .u8 y3))
                (first
                  | go_keep
                  | (go_split_ands
                     refine ⟨?_, ?_, ?_, ?_⟩
                     · (rw [hgrow.cell_far _ (by simp; omega) (Ne.symm hag)]; assumption)
                     · (rw [hgrow.cell_far _ (by simp; omega) (Ne.symm hag)]; assumption)
                     · (rw [hgrow.cell_far _ (by simp; omega) (Ne.symm hag)]; assumption)
                     · (rw [hgrow.cell_far _ (by simp; omega) (Ne.symm hag)]; assumption)))
                ((refine step_append_lies _ (by rfl) _ _ _ (by rfl) w.heap.size 27 i0 _ 5 40 Try.underlying23 HI.out HZ0.out HZ1.out HZ2.out HZ3.out (by omega) u3 k _ (by rfl) ((World.ownsRow.alloc Ho.out _).drew)
                    ⟨wr.heap.size, 0, none⟩ 1 1 [.int .i64 y0, .int .i64 y1, .int .i64 y2, .int .i64 y3, .int .i64 (m - 4294967296)] (by rfl) (by rfl) (World.news_of_block (cs := #[.int .i64 y0, .int .i64 y1, .int .i64 y2, .int .i64 y3, .int .i64 (m - 4294967296)]) (t := 27) (fr := (0, 0)) (heap_alloc_new wr _)) (by simp [Value.oneCell'])
                    (by omega) (by unfold maxLen; omega) (by omega) (by have := Hbw.out.size; simp; omega) (wr.heap.size + 1) (by simp) ?_; intro gg cap5 w5 hown5 hgrow hat5 hlt5))
              have hb5 : Below w.heap.size w w5 := (below_drew1 (Hbw.out.alloc Hbw.out.size (.cells #[.int .i64 y0, .int .i64 y1, .int .i64 y2, .int .i64 y3, .int .i64 (m - 4294967296)] 27))).grown hgrow (by have := Hbw.out.size; simp; omega) (fun g e => (owns_lt Ho.out e).1)
              have htk : flatI ((decAll bs).take (k + 1)) = flatI ((decAll bs).take k) ++ [.int .i64 y0, .int .i64 y1, .int .i64 y2, .int .i64 y3, .int .i64 (m - 4294967296)] := by
                rw [List.take_add_one, HXM.out]
                show flatI (_ ++ [_]) = _
                rw [flatI_snoc]; simp only [In.cells, Him.out]
              rw [← htk] at hown5
              have H5 := Lib.hid hown5
              have B5 := Lib.hid hb5
              clear hown5 hgrow hat5 hlt5 hb5 htk
              clear p1 p2 p3 t1 t2 t3 w0 w1 w2 w3 d0 d1 d2 d3 hag
              go_wp2
              go_roundw
              case rel => exact ⟨k + 1, p + 8, by have := Hp.out; omega, by omega, by omega, by (first | rfl | simp), H5.out, B5.out⟩
              case measure => simp [intOf]; omega
            · have HXm := HX.out
              rw [← hm] at HXm
              have HXM := Lib.hid HXm; clear HXm
              have hi0 : -2147483648 ≤ immP m ∧ immP m < 2147483648 := by unfold immP; split <;> omega
              have Him := Lib.hid (show immP m = m by unfold immP; split <;> omega)
              have w0 : IntKind.i64.wrap y0 = y0 := by rw [IntKind.wrap_i64]; omega
              have w1 : IntKind.i64.wrap y1 = y1 := by rw [IntKind.wrap_i64]; omega
              have w2 : IntKind.i64.wrap y2 = y2 := by rw [IntKind.wrap_i64]; omega
              have w3 : IntKind.i64.wrap y3 = y3 := by rw [IntKind.wrap_i64]; omega
              have p1 : IntKind.i64.wrap ((p : Int) + 1) = (p : Int) + 1 := IntWalk.i64_in _ (by omega)
              have p2 : IntKind.i64.wrap ((p : Int) + 2) = (p : Int) + 2 := IntWalk.i64_in _ (by omega)
              have p3 : IntKind.i64.wrap ((p : Int) + 3) = (p : Int) + 3 := IntWalk.i64_in _ (by omega)
              have n1 : 0 ≤ (p : Int) + 1 ∧ (p : Int) + 1 < bs.length := by omega
              have n2 : 0 ≤ (p : Int) + 2 ∧ (p : Int) + 2 < bs.length := by omega
              have n3 : 0 ≤ (p : Int) + 3 ∧ (p : Int) + 3 < bs.length := by omega
              have n0 : p < bs.length := by omega
              obtain ⟨n1a, n1b⟩ := n1
              obtain ⟨n2a, n2b⟩ := n2
              obtain ⟨n3a, n3b⟩ := n3
              have t1 : ((p : Int) + 1).toNat = p + 1 := by omega
              have t2 : ((p : Int) + 2).toNat = p + 2 := by omega
              have t3 : ((p : Int) + 3).toNat = p + 3 := by omega
              have hnp : ¬ (p : Int) < 0 := by omega
              have Hm := Lib.hid hm; clear hm h4 h5 h6 h7 h0 h1 h2 h3
              have hag : u3.ownBlock ≠ some q := fun e => by have := (owns_lt Ho.out e).1; omega
              go_wp2_with fail
              go_region_held3 (fun w' => w'.cell? ⟨q, c + p, none⟩ = some (.int .u8 y0) ∧ w'.cell? ⟨q, c + (p + 1), none⟩ = some (.int .u8 y1) ∧ w'.cell? ⟨q, c + (p + 2), none⟩ = some (.int .u8 y2) ∧ w'.cell? ⟨q, c + (p + 3), none⟩ = some (.int .u8 y3))
                (first
                  | go_keep
                  | (go_split_ands
                     refine ⟨?_, ?_, ?_, ?_⟩
                     · (rw [hgrow.cell_far _ (by simp; omega) (Ne.symm hag)]; assumption)
                     · (rw [hgrow.cell_far _ (by simp; omega) (Ne.symm hag)]; assumption)
                     · (rw [hgrow.cell_far _ (by simp; omega) (Ne.symm hag)]; assumption)
                     · (rw [hgrow.cell_far _ (by simp; omega) (Ne.symm hag)]; assumption)))
                ((refine step_append_lies _ (by rfl) _ _ _ (by rfl) w.heap.size 27 i0 _ 5 40 Try.underlying23 HI.out HZ0.out HZ1.out HZ2.out HZ3.out (by omega) u3 k _ (by rfl) ((World.ownsRow.alloc Ho.out _).drew)
                    ⟨wr.heap.size, 0, none⟩ 1 1 [.int .i64 y0, .int .i64 y1, .int .i64 y2, .int .i64 y3, .int .i64 (m)] (by rfl) (by rfl) (World.news_of_block (cs := #[.int .i64 y0, .int .i64 y1, .int .i64 y2, .int .i64 y3, .int .i64 (m)]) (t := 27) (fr := (0, 0)) (heap_alloc_new wr _)) (by simp [Value.oneCell'])
                    (by omega) (by unfold maxLen; omega) (by omega) (by have := Hbw.out.size; simp; omega) (wr.heap.size + 1) (by simp) ?_; intro gg cap5 w5 hown5 hgrow hat5 hlt5))
              have hb5 : Below w.heap.size w w5 := (below_drew1 (Hbw.out.alloc Hbw.out.size (.cells #[.int .i64 y0, .int .i64 y1, .int .i64 y2, .int .i64 y3, .int .i64 (m)] 27))).grown hgrow (by have := Hbw.out.size; simp; omega) (fun g e => (owns_lt Ho.out e).1)
              have htk : flatI ((decAll bs).take (k + 1)) = flatI ((decAll bs).take k) ++ [.int .i64 y0, .int .i64 y1, .int .i64 y2, .int .i64 y3, .int .i64 (m)] := by
                rw [List.take_add_one, HXM.out]
                show flatI (_ ++ [_]) = _
                rw [flatI_snoc]; simp only [In.cells, Him.out]
              rw [← htk] at hown5
              have H5 := Lib.hid hown5
              have B5 := Lib.hid hb5
              clear hown5 hgrow hat5 hlt5 hb5 htk
              clear p1 p2 p3 t1 t2 t3 w0 w1 w2 w3 d0 d1 d2 d3 hag
              go_wp2
              go_roundw
              case rel => exact ⟨k + 1, p + 8, by have := Hp.out; omega, by omega, by omega, by (first | rfl | simp), H5.out, B5.out⟩
              case measure => simp [intOf]; omega
      · have hk1 : k = 1024 := by omega
        have hki : ¬ ((k : Nat) : Int) < 1024 := by omega
        have hdp : (decAll bs).take k = decP bs := by rw [hk1]; rfl
        have hdl : k = (decP bs).length := by rw [← hdp, List.length_take, Hdl.out]; omega
        have ho := Ho.out
        rw [hdp] at ho
        rw [hdl] at ho
        have Ho2 := Lib.hid ho; clear ho hdp hdl hp
        go_wp2
        go_ret
        exact ⟨_, rfl, Ho2.out, Hbw.out⟩
    · have hdp : (decAll bs).take k = decP bs := by
        have h1 : (decAll bs).take k = decAll bs := List.take_of_length_le (by rw [Hdl.out]; omega)
        rw [h1]
        exact (List.take_of_length_le (by rw [Hdl.out]; omega)).symm
      have hdl : k = (decP bs).length := by rw [← hdp, List.length_take, Hdl.out]; omega
      have ho := Ho.out
      rw [hdp] at ho
      rw [hdl] at ho
      have Ho2 := Lib.hid ho; clear ho hdp hdl hp
      have hpi : (0 : Int) ≤ p ∧ ¬ (p : Int) + 8 ≤ bs.length := by omega
      go_wp2
      go_ret
      exact ⟨_, rfl, Ho2.out, Hbw.out⟩

end Go.Proofs.Ytlppmjbfgclkgaa
