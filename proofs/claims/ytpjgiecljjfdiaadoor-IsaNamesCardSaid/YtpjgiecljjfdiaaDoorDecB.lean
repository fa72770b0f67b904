/- Bytes as instructions: the iterator. Conditions: those stated in each theorem. -/
import Derived.Test.YtpjgiecljjfdiaaDoorDecA
import Derived.Test.YtpjgiecljjfdiaaDoorEachT
import Derived.TacticsInMore
import Derived.LoopNIn
import Derived.LoopIn
namespace Go.Proofs.YtpjgiecljjfdiaaDoor
open Go.RowKit Go.BigFrame
attribute [local go_sem] Oper.semAt_some
attribute [local simp] wide_fn

theorem decAll_len : ∀ (n : Nat) (b : List UInt8), b.length ≤ n → (decAll b).length = b.length / 8
  | 0, b, h => by
    have : b = [] := List.eq_nil_of_length_eq_zero (by omega)
    subst this; rfl
  | n + 1, b, h => by
    by_cases h8 : 8 ≤ b.length
    · match b, h8 with
      | b0 :: b1 :: b2 :: b3 :: b4 :: b5 :: b6 :: b7 :: r, _ =>
        have := decAll_len n r (by simp at h; omega)
        simp only [decAll, List.length_cons, this]
        omega
    · have : decAll b = [] := by
        unfold decAll
        split
        · exact absurd (by simp) h8
        · rfl
      rw [this]; simp; omega
theorem decAll_at : ∀ (k : Nat) (b : List UInt8), 8 * k + 8 ≤ b.length → ∃ b0 b1 b2 b3 b4 b5 b6 b7 : UInt8, (decAll b)[k]? = some (getB b0 b1 b2 b3 b4 b5 b6 b7) ∧ (b.drop (8 * k)).take 8 = [b0, b1, b2, b3, b4, b5, b6, b7]
  | 0, b, h => by
    match b, h with
    | b0 :: b1 :: b2 :: b3 :: b4 :: b5 :: b6 :: b7 :: r, _ => exact ⟨b0, b1, b2, b3, b4, b5, b6, b7, by simp [decAll], by simp⟩
  | k + 1, b, h => by
    match b, h with
    | c0 :: c1 :: c2 :: c3 :: c4 :: c5 :: c6 :: c7 :: r, h =>
      obtain ⟨b0, b1, b2, b3, b4, b5, b6, b7, h1, h2⟩ := decAll_at k r (by simp at h; omega)
      refine ⟨b0, b1, b2, b3, b4, b5, b6, b7, by simpa [decAll] using h1, ?_⟩
      rw [show 8 * (k + 1) = 8 * k + 8 by omega]
      simpa using h2

/-- One byte. -/
def cell1 (b : UInt8) : List Value := [.int .u8 (b.toNat : Int)]
/-- Eight bytes of a row. -/
theorem eight {w : World} {q c : Nat} {bs : List UInt8} (h : ∀ k x, bs[k]? = some x → w.rangeAt q (c + k * 1) (cell1 x)) {k : Nat} {b0 b1 b2 b3 b4 b5 b6 b7 : UInt8} (hk : (bs.drop (8 * k)).take 8 = [b0, b1, b2, b3, b4, b5, b6, b7]) :
    w.rangeAt q (c + 8 * k) [.int .u8 b0.toNat, .int .u8 b1.toNat, .int .u8 b2.toNat, .int .u8 b3.toNat, .int .u8 b4.toNat, .int .u8 b5.toNat, .int .u8 b6.toNat, .int .u8 b7.toNat] := by
  intro j v hj
  have hj8 : j < 8 := by have := (List.getElem?_eq_some_iff.1 hj).1; simpa using this
  have g : ∀ x, [b0, b1, b2, b3, b4, b5, b6, b7][j]? = some x → bs[8 * k + j]? = some x := fun x hx => by
    rw [← hk, List.getElem?_take, if_pos hj8, List.getElem?_drop] at hx; exact hx
  have e : ∀ x, bs[8 * k + j]? = some x → w.cell? ⟨q, c + 8 * k + j, none⟩ = some (.int .u8 (x.toNat : Int)) := fun x hx => by
    have := h _ x hx 0 _ rfl
    rw [show c + 8 * k + j = c + (8 * k + j) * 1 + 0 by omega]; exact this
  match j, hj8, hj, g with
  | 0, _, hj, g => rw [e _ (g _ rfl)]; exact hj
  | 1, _, hj, g => rw [e _ (g _ rfl)]; exact hj
  | 2, _, hj, g => rw [e _ (g _ rfl)]; exact hj
  | 3, _, hj, g => rw [e _ (g _ rfl)]; exact hj
  | 4, _, hj, g => rw [e _ (g _ rfl)]; exact hj
  | 5, _, hj, g => rw [e _ (g _ rfl)]; exact hj
  | 6, _, hj, g => rw [e _ (g _ rfl)]; exact hj
  | 7, _, hj, g => rw [e _ (g _ rfl)]; exact hj

set_option maxHeartbeats 400000 in
theorem each_any (v : Value) (a : Option Addr) (n cap : Nat) (hv : v = .slice a n cap) (w : World) : Calls Tryd.prog 41 #[v] w fun e w' => e = .returned (.func (.func 52) #[] #[.pointer (some ⟨w.heap.size, 0, none⟩)]) ∧ w.alloc (.cells #[v] 42) = w' := by
  subst hv
  go_enter Tryd.func41, Tryd.ntmps41
  go_wp2
  go_ret
  exact ⟨rfl, rfl⟩

/-- What it tells. -/
def encI (x : In) : Array Value := #[x.val]

set_option maxRecDepth 100000 in
set_option maxHeartbeats 2000000 in
theorem each1_each {q c cap Bc : Nat} {bs : List UInt8} (C : Nat → Prop) (lp : Nat) (w : World) (hq : q < w.heap.size) (hr : ∀ k x, bs[k]? = some x → w.rangeAt q (c + k * 1) (cell1 x)) (h8 : 8 ≤ bs.length) (hcap : bs.length ≤ cap) (hln : bs.length ≤ 1000000)
    (hC : ∀ k, w.heap.size ≤ k → C k) (hB : w.cell? ⟨Bc, 0, none⟩ = some (.slice (some ⟨q, c, none⟩) bs.length cap)) (hCq : ¬ C q) :
    SeqEach Fence.wide Tryd.prog 52 #[.pointer (some ⟨Bc, 0, none⟩)] encI (KpC C) (decAll bs) w lp := by
  intro m J Jx W hW _ hJ hJx hY i0
  have cB : W.cell? ⟨Bc, 0, none⟩ = some (.slice (some ⟨q, c, none⟩) bs.length cap) := (hW.cell (World.block_lt_of_cell? _ _ hB)).trans hB
  have hqW : q < W.heap.size := Nat.lt_of_lt_of_le hq hW.size
  have hrW : ∀ k x, bs[k]? = some x → W.rangeAt q (c + k * 1) (cell1 x) := fun k x hx i v hi => by
    rw [← hr k x hx i v hi]; exact World.cell?_of_block (a := ⟨q, c + k * 1 + i, none⟩) (hW.block q hq)
  have HC : Hid (∀ k, W.heap.size ≤ k → C k) := Lib.hid (fun k h => hC k (Nat.le_trans hW.size h))
  have HY := Lib.hid hY; clear hY
  have HJ := Lib.hid hJ; clear hJ
  have HrW := Lib.hid hrW; clear hrW hr hB hJx
  have HCq := Lib.hid hCq; clear hCq hW
  have Hdl := Lib.hid (decAll_len _ bs (Nat.le_refl _))
  refine callsIn_of_wp Tryd.func52 rfl trivial ?_ rfl
  simp only [Tryd.ntmps52, List.size_toArray, List.length_cons, List.length_nil, Nat.reduceAdd, Nat.reduceSub, Array.replicate_succ, Array.replicate_zero, List.push_toArray, List.append_toArray, List.nil_append, List.cons_append]
  gi_wp2
  clear cB
  gi_loopw [3] (fun i wr => ∃ k : Nat, 8 * k ≤ bs.length ∧ (∃ a', i = .slice a' (bs.length - 8 * k) (cap - 8 * k) ∧ (8 * k + 8 ≤ bs.length → a' = some ⟨q, c + 8 * k, none⟩)) ∧ J ((decAll bs).take k) wr ∧ Tch C W wr)
    (fun i _ => match i with | .slice _ n _ => n | _ => 0)
  case atStart => exact ⟨0, by omega, ⟨some ⟨q, c, none⟩, by simp, fun _ => by simp⟩, by simpa using i0, Tch.refl _ _⟩
  case round =>
    obtain ⟨k, hk, ⟨a', rfl, ha'⟩, hJs, hTr⟩ := hrel
    by_cases hlt : 8 * k + 8 ≤ bs.length
    · have hae := ha' hlt
      subst hae
      clear ha'
      obtain ⟨b0, b1, b2, b3, b4, b5, b6, b7, hat, h8b⟩ := decAll_at k bs hlt
      have hrr : ∀ j x, bs[j]? = some x → wr.rangeAt q (c + j * 1) (cell1 x) := fun j x hx i v hi => by
        rw [← HrW.out j x hx i v hi]; exact World.cell?_of_block (a := ⟨q, c + j * 1 + i, none⟩) (hTr.block q hqW HCq.out)
      have hqr : q < wr.heap.size := Nat.lt_of_lt_of_le hqW hTr.size
      have hg := get_any q (c + 8 * k) (bs.length - 8 * k) (cap - 8 * k) b0 b1 b2 b3 b4 b5 b6 b7 wr (by omega) (eight hrr h8b) hqr
      generalize getB b0 b1 b2 b3 b4 b5 b6 b7 = x at *
      have hsp : decAll bs = (decAll bs).take k ++ x :: (decAll bs).drop (k + 1) := by
        have hk' : k < (decAll bs).length := (List.getElem?_eq_some_iff.1 hat).1
        have hxe : (decAll bs)[k] = x := (List.getElem?_eq_some_iff.1 hat).2
        rw [← hxe, ← List.drop_eq_getElem_cons hk', List.take_append_drop]
      have htk : (decAll bs).take (k + 1) = (decAll bs).take k ++ [x] := by rw [List.take_add_one, hat]; rfl
      have Hsp := Lib.hid hsp; clear hsp
      have Htk := Lib.hid htk; clear htk
      have HG := Lib.hid hg; clear hg
      have HTr := Lib.hid hTr; clear hTr
      have HJs := Lib.hid hJs; clear hJs
      clear hrr hat h8b
      have hge : (8 : Int) ≤ ((bs.length - 8 * k : Nat) : Int) := by omega
      gi_wp2_with (refine ⟨fun h => (by cases h), ?_⟩; gi_at_call 53; refine (callsIn_wide.2 HG.out).mono ?_; rintro e w2 ⟨rfl, hb2⟩; refine Hid.out ?_)
      refine Lib.hid ?_
      have hJ2 := HJ.out _ wr w2 none HJs.out (grown_below hb2) (fun r e => by cases e)
      obtain ⟨fn, tmps, assign, body, hy, hR⟩ := HY.out (m - 1) _ x _ w2 Hsp.out hJ2
      have HR := Lib.hid hR; clear hR hJ2
      have HT2 := Lib.hid (HTr.out.trans (Tch.of_idle hb2)); clear hb2
      unfold encI at hy
      gi_wp2
      refine ⟨fun h => (by cases h), HR.out.mono ?_⟩
      rintro e W3 (⟨rfl, hJ3, hk3⟩ | ⟨rfl, hJx3, _⟩)
      · have hJ4 := Lib.hid hJ3
        have hT3 := Lib.hid (HT2.out.trans hk3)
        clear hJ3 hk3 hy
        have hcc : 8 ≤ bs.length - 8 * k ∧ bs.length - 8 * k ≤ cap - 8 * k := by omega
        have hci : (8 : Int) ≤ ((bs.length - 8 * k : Nat) : Int) ∧ ((bs.length - 8 * k : Nat) : Int) ≤ ((cap - 8 * k : Nat) : Int) := by omega
        obtain ⟨hcc1, hcc2⟩ := hcc
        obtain ⟨hci1, hci2⟩ := hci
        gi_wp2
        go_roundw
        case rel => exact ⟨k + 1, by omega, ⟨_, by rw [show bs.length - 8 * (k + 1) = bs.length - 8 * k - 8 by omega, show cap - 8 * (k + 1) = cap - 8 * k - 8 by omega], fun h => by
          rw [if_neg (by omega), show 8 * (k + 1) = 8 * k + 8 by omega, Nat.add_assoc]⟩, by rw [Htk.out]; exact hJ4.out, hT3.out⟩
        case measure => dsimp only; omega
      · gi_wp2
        refine bodyPost_ret (results_none rfl _ _ _) rfl ?_
        exact ⟨⟨_, rfl⟩, .inr ⟨_, ⟨(decAll bs).drop (k + 1), (by rw [List.append_assoc]; exact Hsp.out.symm)⟩, hJx3⟩⟩
    · have hfull : (decAll bs).take k = decAll bs := List.take_of_length_le (by rw [Hdl.out]; omega)
      rw [hfull] at hJs
      have hlt2 : ((bs.length - 8 * k : Nat) : Int) < 8 := by omega
      gi_wp2
      go_end0
      exact ⟨⟨_, rfl⟩, .inl hJs⟩

end Go.Proofs.YtpjgiecljjfdiaaDoor
