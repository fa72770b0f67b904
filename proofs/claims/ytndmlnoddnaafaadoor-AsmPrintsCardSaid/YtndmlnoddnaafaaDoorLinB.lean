/- The document's Digits. Conditions: those stated in each theorem. -/
import Derived.Test.YtndmlnoddnaafaaDoorLinA
import Derived.Test.YtndmlnoddnaafaaDoorOwn0
import Derived.Laws.BytesString
import Derived.Laws.Concat
import Derived.Lib.ConvBytes
namespace Go.Proofs.YtndmlnoddnaafaaDoor
open Go.RowKit Go.BigFrame

/-- A string of a list. -/
def strV (l : List UInt8) : Value := .string ⟨l.toArray⟩
section
variable {P : Program} {w : World} {ops : Array Oper} {rest : List Oper} {o : Oper} {a : Act} {Q : Exit → Act → World → Prop}
/-- Two strings are joined. -/
theorem wpList_cat (hg : o.guard = none) (t t2 : TypeId) (x y : Operand) (hop : o.op = Op.binOp BinOp.add t x y t2) (p q : List UInt8) (hx : a.eval x = .string ⟨p.toArray⟩) (hy : a.eval y = .string ⟨q.toArray⟩) (hp : p.length ≤ 100000) (hq : q.length ≤ 100000)
    (h : wpList P ops Q rest (a.put o.dst (.string ⟨(p ++ q).toArray⟩)) w) : wpList P ops Q (o :: rest) a w := by
  refine wpList_plain hg fun K' hK' => ?_
  unfold Oper.wp
  have hr : (binOp BinOp.add t (.string ⟨p.toArray⟩) (.string ⟨q.toArray⟩)).run P w = .ok (.string ⟨(p ++ q).toArray⟩) w := by rw [binOp_string_add]; exact run_string_add_lists w p q (by omega) (by omega)
  simp [execOp, hop, hx, hy, hr, eqGuard, Result.andThen]
  exact hK' _ _ h
/-- A byte's string. -/
theorem wpList_byte {w : World} {Q : Exit → Act → World → Prop} (hg : o.guard = none) (x : Operand) (hop : o.op = Op.convert 31 9 x) (g : Nat) (b : UInt8) (v : Int) (hv : v = b.toNat) (hx : a.eval x = .slice (some ⟨g, 0, none⟩) 1 1) (hc : w.cell? ⟨g, 0, none⟩ = some (.int .u8 v))
    (h : wpList Tryd.prog ops Q rest (a.put o.dst (.string ⟨[b].toArray⟩)) w) : wpList Tryd.prog ops Q (o :: rest) a w := by
  subst hv
  refine wpList_plain hg fun K' hK' => ?_
  have hl := run_loadCells_list (P := Tryd.prog) w ⟨g, 0, none⟩ [Value.int .u8 b.toNat] (fun j u hj => by
    have hj0 : j = 0 := by have := (List.getElem?_eq_some_iff.1 hj).1; simpa using this
    subst hj0
    cases hj
    exact hc)
  have hr : (convert 31 9 (.slice (some ⟨g, 0, none⟩) 1 1)).run Tryd.prog w = .ok (.string ⟨[b].toArray⟩) w := by
    rw [run_convert_bytes_string w _ _ 5 _ _ _ Tryd.underlying31 Tryd.underlying5 Tryd.underlying9, run_bytesToString w _ 1 1 [(b.toNat : Int)] hl]
    simp [ByteArray.push, ByteArray.empty, ByteArray.emptyWithCapacity]
    rfl
  unfold Oper.wp
  simp [execOp, hop, hx, hr, Result.andThen]
  exact hK' _ _ h
end

theorem tmod10 (r : Int) : r.tmod 10 = if 0 ≤ r then r % 10 else -((-r) % 10) := by
  split
  · exact Int.tmod_eq_emod_of_nonneg (by omega)
  · rw [← Int.neg_neg r, Int.neg_tmod, Int.neg_neg, Int.tmod_eq_emod_of_nonneg (by omega)]
theorem tdiv10 (r : Int) : r.tdiv 10 = if 0 ≤ r then r / 10 else -((-r) / 10) := by
  split
  · exact Int.tdiv_eq_ediv_of_nonneg (by omega)
  · rw [← Int.neg_neg r, Int.neg_tdiv, Int.neg_neg, Int.tdiv_eq_ediv_of_nonneg (by omega)]

/-- Where Digits stands: so many digits are written, r is what is left. -/
structure DgI (n : Int) (k : Nat) (r : Int) (s : List UInt8) : Prop where
  few : r.natAbs * 10 ^ k ≤ n.natAbs
  len : s.length ≤ k
  done : r = 0 → k ≠ 0 → s = Lib.decDigits n.natAbs
  left : r ≠ 0 ∨ k = 0 → Lib.decDigits r.natAbs ++ s = Lib.decDigits n.natAbs
theorem DgI.next {n : Int} {k : Nat} {r : Int} {s : List UInt8} (h : DgI n k r s) (hc : k = 0 ∨ r ≠ 0) : DgI n (k + 1) (r.tdiv 10) (UInt8.ofNat (48 + r.natAbs % 10) :: s) := by
  have hq : (r.tdiv 10).natAbs = r.natAbs / 10 := by rw [tdiv10]; split <;> omega
  have hl := h.left (by omega)
  have hpow : 10 ^ (k + 1) = 10 ^ k * 10 := Nat.pow_succ ..
  refine ⟨?_, by simp; exact h.len, fun h0 _ => ?_, fun h0 => ?_⟩
  · rw [hq, hpow, Nat.mul_comm (10 ^ k) 10, ← Nat.mul_assoc]
    exact Nat.le_trans (Nat.mul_le_mul_right _ (Nat.div_mul_le_self _ _)) h.few
  · have hr : r.natAbs < 10 := by have : (r.tdiv 10).natAbs = 0 := by rw [h0]; rfl
                                  omega
    rw [Lib.decDigits, dif_pos hr] at hl
    rw [← hl, Nat.mod_eq_of_lt hr]; rfl
  · have hr : ¬ r.natAbs < 10 := by
      intro hlt
      have : (r.tdiv 10).natAbs = 0 := by omega
      rcases h0 with h0 | h0
      · exact h0 (Int.natAbs_eq_zero.1 this)
      · omega
    rw [Lib.decDigits, dif_neg hr] at hl
    rw [hq, ← hl]; simp
theorem DgI.end {n : Int} {k : Nat} {r : Int} {s : List UInt8} (h : DgI n k r s) (hn : n.natAbs ≤ 9223372036854775808) (hc : k = 20 ∨ (k ≠ 0 ∧ r = 0)) : s = Lib.decDigits n.natAbs := by
  rcases hc with rfl | ⟨h1, h2⟩
  · refine h.done ?_ (by decide)
    have := h.few
    omega
  · exact h.done h2 h1

set_option maxRecDepth 100000 in
set_option maxHeartbeats 2000000 in
theorem digits_any (n : Int) (hn : I64 n) (w : World) : Calls Tryd.prog 19 #[.int .i64 n] w fun e w' => e = .returned (.string ⟨(Lib.itoa n).toArray⟩) ∧ Below w.heap.size w w' := by
  obtain ⟨hn0, hn1⟩ := hn
  have hna : n.natAbs ≤ 9223372036854775808 := by omega
  go_enter Tryd.func19, Tryd.ntmps19
  go_wp2_with fail
  go_loopw [3, 4, 5] (fun s r k wr => ∃ (k' : Nat) (r' : Int) (s' : List UInt8), k' ≤ 20 ∧ k = .int .i64 k' ∧ r = .int .i64 r' ∧ s = .string ⟨s'.toArray⟩ ∧ DgI n k' r' s' ∧ Below w.heap.size w wr) (fun _ _ k _ => 20 - (intOf k).toNat)
  case atStart => exact ⟨0, n, [], by omega, rfl, rfl, rfl, ⟨by simp, by simp, fun _ h => absurd rfl h, fun _ => by simp⟩, Below.refl _ _⟩
  case round =>
    obtain ⟨k, r, s, hk, rfl, rfl, rfl, hd, hb⟩ := hrel
    have HD := Lib.hid hd; clear hd
    have HB := Lib.hid hb; clear hb
    have hfew := HD.out.few
    have hr64 : r.natAbs ≤ n.natAbs := Nat.le_trans (Nat.le_mul_of_pos_right _ (Nat.pow_pos (by decide))) hfew
    clear hfew
    by_cases hgo : k < 20 ∧ (k = 0 ∨ r ≠ 0)
    · obtain ⟨hk20, hkr⟩ := hgo
      have d1 : decide ((k : Int) < 20) = true := by simp; omega
      have hnx := HD.out.next hkr
      have hlen := HD.out.len
      have hm := tmod10 r
      have hq := tdiv10 r
      have hqw : IntKind.i64.wrap (r.tdiv 10) = r.tdiv 10 := by rw [IntKind.wrap_i64, hq]; split <;> omega
      have HN := Lib.hid hnx; clear hnx
      obtain ⟨q, hqe⟩ : ∃ q, r.tdiv 10 = q := ⟨_, rfl⟩
      obtain ⟨m, hme⟩ : ∃ m, r.tmod 10 = m := ⟨_, rfl⟩
      rw [hqe] at hq hqw HN
      rw [hme] at hm
      have hdig : (if m < 0 then -m else m) = ((r.natAbs % 10 : Nat) : Int) := by rw [hm]; split <;> split <;> omega
      have hu : r.natAbs % 10 < 10 := Nat.mod_lt _ (by decide)
      obtain ⟨u, hue⟩ : ∃ u, r.natAbs % 10 = u := ⟨_, rfl⟩
      rw [hue] at HN hdig hu
      have hub : 48 + (u : Int) = ((UInt8.ofNat (48 + u)).toNat : Int) := by rw [digit_nat hu]; omega
      have HUB := Lib.hid hub; clear hub
      have HBE := Lib.hid (show (48 + UInt8.ofNat u : UInt8) = UInt8.ofNat (48 + u) by simp)
      have hw8 : IntKind.u8.wrap (48 + (u : Int)) = 48 + (u : Int) := by rw [IntKind.wrap_u8]; omega
      have hw6 : IntKind.i64.wrap (48 + (u : Int)) = 48 + (u : Int) := by rw [IntKind.wrap_i64]; omega
      have hkk : IntKind.i64.wrap ((k : Int) + 1) = (k : Int) + 1 := by rw [IntKind.wrap_i64]; omega
      have hgd : ((k : Int) == 0) = true ∨ (((k : Int) == 0) = false ∧ (r != 0) = true) := by
        by_cases h0 : k = 0
        · left; simp [h0]
        · right; exact ⟨by simp; omega, by simp; omega⟩
      clear hm hq hue
      have HQ := Lib.hid hme
      have HQ2 := Lib.hid hqe
      rcases hgd with hg1 | ⟨hg1, hg2⟩
      all_goals
        by_cases hm0 : m < 0
        · have d2 : decide (m < 0) = true := by simpa using hm0
          rw [if_pos hm0] at hdig
          have hwn : IntKind.i64.wrap (-m) = (u : Int) := by rw [IntKind.wrap_i64]; omega
          clear hdig
          go_wp2_with (first | (refine wpList_byte rfl _ rfl wr.heap.size (UInt8.ofNat (48 + u)) (48 + (u : Int)) HUB.out rfl (by simp) ?_) | (refine wpList_cat rfl _ _ _ _ rfl [UInt8.ofNat (48 + u)] s rfl rfl (by simp) (by omega) ?_))
          go_roundw
          case rel => exact ⟨k + 1, q, UInt8.ofNat (48 + u) :: s, by omega, by go_num, rfl, by rw [HBE.out]; exact congrArg Value.string (ByteArray.mk_append_mk [_] s), HN.out, HB.out.alloc HB.out.size _⟩
          case measure => simp [intOf]; omega
        · have d2 : decide (m < 0) = false := by simpa using hm0
          rw [if_neg hm0] at hdig
          subst hdig
          go_wp2_with (first | (refine wpList_byte rfl _ rfl wr.heap.size (UInt8.ofNat (48 + u)) (48 + (u : Int)) HUB.out rfl (by simp) ?_) | (refine wpList_cat rfl _ _ _ _ rfl [UInt8.ofNat (48 + u)] s rfl rfl (by simp) (by omega) ?_))
          go_roundw
          case rel => exact ⟨k + 1, q, UInt8.ofNat (48 + u) :: s, by omega, by go_num, rfl, by rw [HBE.out]; exact congrArg Value.string (ByteArray.mk_append_mk [_] s), HN.out, HB.out.alloc HB.out.size _⟩
          case measure => simp [intOf]; omega
    · have hs : s = Lib.decDigits n.natAbs := HD.out.end hna (by omega)
      have hsl := HD.out.len
      have hit : Lib.itoa n = if n < 0 then [45] ++ s else s := by
        unfold Lib.itoa
        rw [hs]
        split
        · rfl
        · congr 1; omega
      have HI := Lib.hid hit
      clear hs hit HD
      have hgd : decide ((k : Int) < 20) = false ∨ (decide ((k : Int) < 20) = true ∧ ((k : Int) == 0) = false ∧ (r != 0) = false) := by
        by_cases h0 : k < 20
        · right; exact ⟨by simp; omega, by simp; omega, by simp; omega⟩
        · left; simp; omega
      clear hgo
      by_cases hn : n < 0
      · have d3 : decide (n < 0) = true := by simpa using hn
        rw [if_pos hn] at HI
        rcases hgd with d1 | ⟨d1, d4, d5⟩
        all_goals
          go_wp2_with (refine wpList_cat rfl _ _ _ _ rfl [45] s rfl rfl (by simp) (by omega) ?_)
          go_ret
          exact ⟨by rw [HI.out]; exact congrArg Ending.returned (congrArg Value.string (ByteArray.mk_append_mk [45] s)), HB.out⟩
      · have d3 : decide (n < 0) = false := by simpa using hn
        rw [if_neg hn] at HI
        rcases hgd with d1 | ⟨d1, d4, d5⟩
        all_goals
          go_wp2_with fail
          go_ret
          exact ⟨by rw [HI.out]; rfl, HB.out⟩

end Go.Proofs.YtndmlnoddnaafaaDoor
