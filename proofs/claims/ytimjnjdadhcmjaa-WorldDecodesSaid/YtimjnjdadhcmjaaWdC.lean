/- The document's own acts; the law's walk. Conditions: the bytes that came in. -/
import Derived.Test.YtimjnjdadhcmjaaWdB
import Derived.IntWalk
import Derived.Deep.RegionHeld3
import Derived.Deep.AppendLies
namespace Go.Proofs.Ytimjnjdadhcmjaa
open Go.RowKit Go.BigFrame

set_option maxRecDepth 100000 in
set_option maxHeartbeats 4000000 in
theorem rdecodeA_any {a : Option Addr} {cap : Nat} {bs : List UInt8} (w : World) (hr : RowsIn w a 1 cell1 bs) (hcap : bs.length ≤ cap) (hln : bs.length ≤ 1000000) :
    Calls Try.prog 5 #[.slice a bs.length cap] w fun e w' => ∃ v, e = .returned v ∧ w'.ownsRow w.heap.size 26 3 v (actsL bs).length (flatA (actsL bs)) ∧ Below w.heap.size w w' := by
  have Hr := Lib.hid hr; clear hr
  have Hdl := Lib.hid (actsL_len _ bs (Nat.le_refl _))
  obtain ⟨i0, z0, hi, hz0, hz1, hz2, hz3⟩ := info_act
  have HI := Lib.hid hi; clear hi
  have HZ0 := Lib.hid hz0; clear hz0
  have HZ1 := Lib.hid hz1; clear hz1
  have HZ2 := Lib.hid hz2; clear hz2
  have HZ3 := Lib.hid hz3; clear hz3
  go_enter Try.func5, Try.ntmps5
  go_wp2_with fail
  go_loopw [3, 4] (fun v i wr => ∃ k p : Nat, p = 3 * k ∧ p ≤ bs.length ∧ i = .int .i64 p ∧ wr.ownsRow w.heap.size 26 3 v k (flatA ((actsL bs).take k)) ∧ Below w.heap.size w wr)
    (fun _ i _ => bs.length + 3 - (intOf i).toNat)
  case atStart => exact ⟨0, 0, rfl, by omega, rfl, World.ownsRow_nil _ _ _ _, Below.refl _ _⟩
  case round =>
    obtain ⟨k, p, hp, hpn, rfl, ho, hbw⟩ := hrel
    have Ho := Lib.hid ho; clear ho
    have Hbw := Lib.hid hbw; clear hbw
    have Hp := Lib.hid hp
    have hp3 : IntKind.i64.wrap ((p : Int) + 3) = (p : Int) + 3 := IntWalk.i64_in _ (by omega)
    by_cases h8 : p + 3 ≤ bs.length
    · obtain ⟨b0, b1, b2, hat, h8b⟩ := actsL_at k bs (by omega)
      obtain ⟨q, c, rfl, hqr, hrr⟩ : ∃ q c, a = some ⟨q, c, none⟩ ∧ q < wr.heap.size ∧ ∀ j x, bs[j]? = some x → wr.rangeAt q (c + j * 1) (cell1 x) := by
        rcases (Hr.out.below Hbw.out) with rfl | h
        · simp at h8
        · exact h
      have hqw : q < w.heap.size := by
        rcases Hr.out with rfl | ⟨q', c', e, hq, _⟩
        · simp at h8
        · cases e; exact hq
      have h8e := three hrr h8b
      rw [← hp] at h8e
      have h0 := grownA (b := b0)
      have h1 := grownA (b := b1)
      have h2 := grownA (b := b2)
      have htk : flatA ((actsL bs).take (k + 1)) = flatA ((actsL bs).take k) ++ [.int .i64 (1 + (b0.toNat : Int) % 4), .int .i64 ((b1.toNat : Int) % 4), .int .i64 b2.toNat] := by
        rw [List.take_add_one, hat]
        show flatA (_ ++ [_]) = _
        rw [flatA_snoc]; rfl
      have Htk := Lib.hid htk
      have hk6 : k + 1 ≤ 1000000 := by omega
      clear hat hrr h8b hp htk
      generalize (b0.toNat : Int) = y0 at *
      generalize (b1.toNat : Int) = y1 at *
      generalize (b2.toNat : Int) = y2 at *
      have H8e := Lib.hid h8e; clear h8e
      have hpi : (p : Int) + 3 ≤ bs.length := by omega
      have d0 : wr.cell? ⟨q, c + p, none⟩ = some (.int .u8 y0) := H8e.out 0 _ rfl
      have d1 : wr.cell? ⟨q, c + (p + 1), none⟩ = some (.int .u8 y1) := by rw [← Nat.add_assoc]; exact H8e.out 1 _ rfl
      have d2 : wr.cell? ⟨q, c + (p + 2), none⟩ = some (.int .u8 y2) := by rw [← Nat.add_assoc]; exact H8e.out 2 _ rfl
      have w0 : IntKind.i64.wrap y0 = y0 := by rw [IntKind.wrap_i64]; omega
      have w1 : IntKind.i64.wrap y1 = y1 := by rw [IntKind.wrap_i64]; omega
      have w2 : IntKind.i64.wrap y2 = y2 := by rw [IntKind.wrap_i64]; omega
      have t0 : y0.tmod 4 = y0 % 4 := Int.tmod_eq_emod_of_nonneg h0.1
      have t1 : y1.tmod 4 = y1 % 4 := Int.tmod_eq_emod_of_nonneg h1.1
      have w3 : IntKind.i64.wrap (1 + y0 % 4) = 1 + y0 % 4 := by rw [IntKind.wrap_i64]; omega
      have p1 : IntKind.i64.wrap ((p : Int) + 1) = (p : Int) + 1 := IntWalk.i64_in _ (by omega)
      have p2 : IntKind.i64.wrap ((p : Int) + 2) = (p : Int) + 2 := IntWalk.i64_in _ (by omega)
      have n1 : 0 ≤ (p : Int) + 1 ∧ (p : Int) + 1 < bs.length := by omega
      have n2 : 0 ≤ (p : Int) + 2 ∧ (p : Int) + 2 < bs.length := by omega
      have n0 : p < bs.length := by omega
      obtain ⟨n1a, n1b⟩ := n1
      obtain ⟨n2a, n2b⟩ := n2
      have q1 : ((p : Int) + 1).toNat = p + 1 := by omega
      have q2 : ((p : Int) + 2).toNat = p + 2 := by omega
      have hag : u3.ownBlock ≠ some q := fun e => by have := (owns_lt Ho.out e).1; omega
      go_wp2_with fail
      go_region_held3 (fun w' => w'.cell? ⟨q, c + p, none⟩ = some (.int .u8 y0) ∧ w'.cell? ⟨q, c + (p + 1), none⟩ = some (.int .u8 y1) ∧ w'.cell? ⟨q, c + (p + 2), none⟩ = some (.int .u8 y2))
        (first
          | go_keep
          | (go_split_ands
             refine ⟨?_, ?_, ?_⟩
             · (rw [hgrow.cell_far _ (by simp; omega) (Ne.symm hag)]; assumption)
             · (rw [hgrow.cell_far _ (by simp; omega) (Ne.symm hag)]; assumption)
             · (rw [hgrow.cell_far _ (by simp; omega) (Ne.symm hag)]; assumption)))
        ((refine step_append_lies _ (by rfl) _ _ _ (by rfl) w.heap.size 26 i0 _ 3 24 Try.underlying23 HI.out HZ0.out HZ1.out HZ2.out HZ3.out (by omega) u3 k _ (by rfl) ((World.ownsRow.alloc Ho.out _).drew)
            ⟨wr.heap.size, 0, none⟩ 1 1 [.int .i64 (1 + y0 % 4), .int .i64 (y1 % 4), .int .i64 y2] (by rfl) (by rfl) (World.news_of_block (cs := #[.int .i64 (1 + y0 % 4), .int .i64 (y1 % 4), .int .i64 y2]) (t := 26) (fr := (0, 0)) (heap_alloc_new wr _)) (by simp [Value.oneCell'])
            (by omega) (by unfold maxLen; omega) (by omega) (by have := Hbw.out.size; simp; omega) (wr.heap.size + 1) (by simp) ?_; intro gg cap5 w5 hown5 hgrow hat5 hlt5))
      have hb5 : Below w.heap.size w w5 := (below_drew1 (Hbw.out.alloc Hbw.out.size (.cells #[.int .i64 (1 + y0 % 4), .int .i64 (y1 % 4), .int .i64 y2] 26))).grown hgrow (by have := Hbw.out.size; simp; omega) (fun g e => (owns_lt Ho.out e).1)
      rw [← Htk.out] at hown5
      have H5 := Lib.hid hown5
      have B5 := Lib.hid hb5
      clear hown5 hgrow hat5 hlt5 hb5 p1 p2 q1 q2 w0 w1 w2 w3 t0 t1 d0 d1 d2 hag
      go_wp2
      go_roundw
      case rel => exact ⟨k + 1, p + 3, by have := Hp.out; omega, by omega, by (first | rfl | simp), H5.out, B5.out⟩
      case measure => simp [intOf]; omega
    · have hfull : (actsL bs).take k = actsL bs := List.take_of_length_le (by rw [Hdl.out]; omega)
      have hkl : k = (actsL bs).length := by rw [Hdl.out]; omega
      have hn8 : (bs.length : Int) < (p : Int) + 3 := by omega
      have ho := Ho.out
      rw [hfull, hkl] at ho
      have Ho2 := Lib.hid ho; clear ho
      clear hkl hfull hp
      go_wp2
      go_ret
      exact ⟨_, rfl, Ho2.out, Hbw.out⟩

end Go.Proofs.Ytimjnjdadhcmjaa
