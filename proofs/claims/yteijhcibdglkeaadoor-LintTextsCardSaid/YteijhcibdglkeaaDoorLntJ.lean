/- The document's line of what is found. Conditions: those stated in each theorem. -/
import Derived.Test.YteijhcibdglkeaaDoorLntI
import Derived.Test.YteijhcibdglkeaaDoorOwn0
import Derived.Laws.BytesString
import Derived.Laws.Concat
import Derived.Lib.ConvBytes
import Derived.Deep.CutRange
namespace Go.Proofs.YteijhcibdglkeaaDoor
open Go.RowKit Go.BigFrame

theorem digit_nat {d : Nat} (h : d < 10) : (UInt8.ofNat (48 + d)).toNat = 48 + d := by
  simp [UInt8.toNat_ofNat']; omega
theorem itoa_len (n : Int) (h : I64 n) : (Lib.itoa n).length ≤ 21 := by
  have key : ∀ u : Nat, u < 18446744073709551616 → (Lib.decDigits u).length ≤ 20 := fun u hu => by
    rw [Lib.decDigits_length]
    by_cases h1 : 1 ≤ u
    · have := Lib.numDigits_eq u h1 hu; split at this <;> omega
    · obtain rfl : u = 0 := by omega
      rw [Lib.nDigits_small (by omega)]; omega
  obtain ⟨h0, h1⟩ := h
  unfold Lib.itoa
  split
  · have := key n.natAbs (by omega)
    simp; omega
  · have := key n.toNat (by omega)
    omega
/-- A string of a list. -/
def strV (l : List UInt8) : Value := .string ⟨l.toArray⟩
section
variable {P : Program} {w : World} {ops : Array Oper} {rest : List Oper} {o : Oper} {a : Act} {Q : Exit → Act → World → Prop}
/-- Two strings are joined. -/
theorem wpList_cat (hg : o.guard = none) (t t2 : TypeId) (x y : Operand) (hop : o.op = Op.binOp BinOp.add t x y t2) (p q : List UInt8) (hx : a.eval x = .string ⟨p.toArray⟩) (hy : a.eval y = .string ⟨q.toArray⟩) (hp : p.length ≤ 100000) (hq : q.length ≤ 100000)
    (h : wpList P ops Q rest (a.put o.dst (.string ⟨(p ++ q).toArray⟩)) w) : wpList P ops Q (o :: rest) a w := by
  refine wpList_plain hg fun K' hK' => ?_
  unfold Oper.wp
  have hr : (binOp BinOp.add t (.string ⟨p.toArray⟩) (.string ⟨q.toArray⟩)).run P w = .ok (.string ⟨(p ++ q).toArray⟩) w := by rw [binOp_string_add]; exact run_string_add_lists w p q (by omega) (by omega)
  simp [execOp, hop, hx, hy, hr, eqGuard, Result.andThen]
  exact hK' _ _ h
/-- A byte's string. -/
theorem wpList_byte {w : World} {Q : Exit → Act → World → Prop} (hg : o.guard = none) (x : Operand) (hop : o.op = Op.convert 77 9 x) (g : Nat) (b : UInt8) (v : Int) (hv : v = b.toNat) (hx : a.eval x = .slice (some ⟨g, 0, none⟩) 1 1) (hc : w.cell? ⟨g, 0, none⟩ = some (.int .u8 v))
    (h : wpList Tryd.prog ops Q rest (a.put o.dst (.string ⟨[b].toArray⟩)) w) : wpList Tryd.prog ops Q (o :: rest) a w := by
  subst hv
  refine wpList_plain hg fun K' hK' => ?_
  have hl := run_loadCells_list (P := Tryd.prog) w ⟨g, 0, none⟩ [Value.int .u8 b.toNat] (fun j u hj => by
    have hj0 : j = 0 := by have := (List.getElem?_eq_some_iff.1 hj).1; simpa using this
    subst hj0
    cases hj
    exact hc)
  have hr : (convert 77 9 (.slice (some ⟨g, 0, none⟩) 1 1)).run Tryd.prog w = .ok (.string ⟨[b].toArray⟩) w := by
    rw [run_convert_bytes_string w _ _ 5 _ _ _ Tryd.underlying77 Tryd.underlying5 Tryd.underlying9, run_bytesToString w _ 1 1 [(b.toNat : Int)] hl]
    simp [ByteArray.push, ByteArray.empty, ByteArray.emptyWithCapacity]
    rfl
  unfold Oper.wp
  simp [execOp, hop, hx, hr, Result.andThen]
  exact hK' _ _ h
end

theorem tmod10 (r : Int) : r.tmod 10 = if 0 ≤ r then r % 10 else -((-r) % 10) := by
  split
  · exact Int.tmod_eq_emod_of_nonneg (by omega)
  · rw [← Int.neg_neg r, Int.neg_tmod, Int.neg_neg, Int.tmod_eq_emod_of_nonneg (by omega)]
theorem tdiv10 (r : Int) : r.tdiv 10 = if 0 ≤ r then r / 10 else -((-r) / 10) := by
  split
  · exact Int.tdiv_eq_ediv_of_nonneg (by omega)
  · rw [← Int.neg_neg r, Int.neg_tdiv, Int.neg_neg, Int.tdiv_eq_ediv_of_nonneg (by omega)]

/-- Where Digits stands: so many digits are written, r is what is left. -/
structure DgI (n : Int) (k : Nat) (r : Int) (s : List UInt8) : Prop where
  few : r.natAbs * 10 ^ k ≤ n.natAbs
  len : s.length ≤ k
  done : r = 0 → k ≠ 0 → s = Lib.decDigits n.natAbs
  left : r ≠ 0 ∨ k = 0 → Lib.decDigits r.natAbs ++ s = Lib.decDigits n.natAbs
theorem DgI.next {n : Int} {k : Nat} {r : Int} {s : List UInt8} (h : DgI n k r s) (hc : k = 0 ∨ r ≠ 0) : DgI n (k + 1) (r.tdiv 10) (UInt8.ofNat (48 + r.natAbs % 10) :: s) := by
  have hq : (r.tdiv 10).natAbs = r.natAbs / 10 := by rw [tdiv10]; split <;> omega
  have hl := h.left (by omega)
  have hpow : 10 ^ (k + 1) = 10 ^ k * 10 := Nat.pow_succ ..
  refine ⟨?_, by simp; exact h.len, fun h0 _ => ?_, fun h0 => ?_⟩
  · rw [hq, hpow, Nat.mul_comm (10 ^ k) 10, ← Nat.mul_assoc]
    exact Nat.le_trans (Nat.mul_le_mul_right _ (Nat.div_mul_le_self _ _)) h.few
  · have hr : r.natAbs < 10 := by have : (r.tdiv 10).natAbs = 0 := by rw [h0]; rfl
                                  omega
    rw [Lib.decDigits, dif_pos hr] at hl
    rw [← hl, Nat.mod_eq_of_lt hr]; rfl
  · have hr : ¬ r.natAbs < 10 := by
      intro hlt
      have : (r.tdiv 10).natAbs = 0 := by omega
      rcases h0 with h0 | h0
      · exact h0 (Int.natAbs_eq_zero.1 this)
      · omega
    rw [Lib.decDigits, dif_neg hr] at hl
    rw [hq, ← hl]; simp
theorem DgI.end {n : Int} {k : Nat} {r : Int} {s : List UInt8} (h : DgI n k r s) (hn : n.natAbs ≤ 9223372036854775808) (hc : k = 20 ∨ (k ≠ 0 ∧ r = 0)) : s = Lib.decDigits n.natAbs := by
  rcases hc with rfl | ⟨h1, h2⟩
  · refine h.done ?_ (by decide)
    have := h.few
    omega
  · exact h.done h2 h1

set_option maxRecDepth 100000 in
set_option maxHeartbeats 2000000 in
theorem digits_any (n : Int) (hn : I64 n) (w : World) : Calls Tryd.prog 20 #[.int .i64 n] w fun e w' => e = .returned (.string ⟨(Lib.itoa n).toArray⟩) ∧ Below w.heap.size w w' := by
  obtain ⟨hn0, hn1⟩ := hn
  have hna : n.natAbs ≤ 9223372036854775808 := by omega
  go_enter Tryd.func20, Tryd.ntmps20
  go_wp2_with fail
  go_loopw [3, 4, 5] (fun s r k wr => ∃ (k' : Nat) (r' : Int) (s' : List UInt8), k' ≤ 20 ∧ k = .int .i64 k' ∧ r = .int .i64 r' ∧ s = .string ⟨s'.toArray⟩ ∧ DgI n k' r' s' ∧ Below w.heap.size w wr) (fun _ _ k _ => 20 - (intOf k).toNat)
  case atStart => exact ⟨0, n, [], by omega, rfl, rfl, rfl, ⟨by simp, by simp, fun _ h => absurd rfl h, fun _ => by simp⟩, Below.refl _ _⟩
  case round =>
    obtain ⟨k, r, s, hk, rfl, rfl, rfl, hd, hb⟩ := hrel
    have HD := Lib.hid hd; clear hd
    have HB := Lib.hid hb; clear hb
    have hfew := HD.out.few
    have hr64 : r.natAbs ≤ n.natAbs := Nat.le_trans (Nat.le_mul_of_pos_right _ (Nat.pow_pos (by decide))) hfew
    clear hfew
    by_cases hgo : k < 20 ∧ (k = 0 ∨ r ≠ 0)
    · obtain ⟨hk20, hkr⟩ := hgo
      have d1 : decide ((k : Int) < 20) = true := by simp; omega
      have hnx := HD.out.next hkr
      have hlen := HD.out.len
      have hm := tmod10 r
      have hq := tdiv10 r
      have hqw : IntKind.i64.wrap (r.tdiv 10) = r.tdiv 10 := by rw [IntKind.wrap_i64, hq]; split <;> omega
      have HN := Lib.hid hnx; clear hnx
      obtain ⟨q, hqe⟩ : ∃ q, r.tdiv 10 = q := ⟨_, rfl⟩
      obtain ⟨m, hme⟩ : ∃ m, r.tmod 10 = m := ⟨_, rfl⟩
      rw [hqe] at hq hqw HN
      rw [hme] at hm
      have hdig : (if m < 0 then -m else m) = ((r.natAbs % 10 : Nat) : Int) := by rw [hm]; split <;> split <;> omega
      have hu : r.natAbs % 10 < 10 := Nat.mod_lt _ (by decide)
      obtain ⟨u, hue⟩ : ∃ u, r.natAbs % 10 = u := ⟨_, rfl⟩
      rw [hue] at HN hdig hu
      have hub : 48 + (u : Int) = ((UInt8.ofNat (48 + u)).toNat : Int) := by rw [digit_nat hu]; omega
      have HUB := Lib.hid hub; clear hub
      have HBE := Lib.hid (show (48 + UInt8.ofNat u : UInt8) = UInt8.ofNat (48 + u) by simp)
      have hw8 : IntKind.u8.wrap (48 + (u : Int)) = 48 + (u : Int) := by rw [IntKind.wrap_u8]; omega
      have hw6 : IntKind.i64.wrap (48 + (u : Int)) = 48 + (u : Int) := by rw [IntKind.wrap_i64]; omega
      have hkk : IntKind.i64.wrap ((k : Int) + 1) = (k : Int) + 1 := by rw [IntKind.wrap_i64]; omega
      have hgd : ((k : Int) == 0) = true ∨ (((k : Int) == 0) = false ∧ (r != 0) = true) := by
        by_cases h0 : k = 0
        · left; simp [h0]
        · right; exact ⟨by simp; omega, by simp; omega⟩
      clear hm hq hue
      have HQ := Lib.hid hme
      have HQ2 := Lib.hid hqe
      rcases hgd with hg1 | ⟨hg1, hg2⟩
      all_goals
        by_cases hm0 : m < 0
        · have d2 : decide (m < 0) = true := by simpa using hm0
          rw [if_pos hm0] at hdig
          have hwn : IntKind.i64.wrap (-m) = (u : Int) := by rw [IntKind.wrap_i64]; omega
          clear hdig
          go_wp2_with (first | (refine wpList_byte rfl _ rfl wr.heap.size (UInt8.ofNat (48 + u)) (48 + (u : Int)) HUB.out rfl (by simp) ?_) | (refine wpList_cat rfl _ _ _ _ rfl [UInt8.ofNat (48 + u)] s rfl rfl (by simp) (by omega) ?_))
          go_roundw
          case rel => exact ⟨k + 1, q, UInt8.ofNat (48 + u) :: s, by omega, by go_num, rfl, by rw [HBE.out]; exact congrArg Value.string (ByteArray.mk_append_mk [_] s), HN.out, HB.out.alloc HB.out.size _⟩
          case measure => simp [intOf]; omega
        · have d2 : decide (m < 0) = false := by simpa using hm0
          rw [if_neg hm0] at hdig
          subst hdig
          go_wp2_with (first | (refine wpList_byte rfl _ rfl wr.heap.size (UInt8.ofNat (48 + u)) (48 + (u : Int)) HUB.out rfl (by simp) ?_) | (refine wpList_cat rfl _ _ _ _ rfl [UInt8.ofNat (48 + u)] s rfl rfl (by simp) (by omega) ?_))
          go_roundw
          case rel => exact ⟨k + 1, q, UInt8.ofNat (48 + u) :: s, by omega, by go_num, rfl, by rw [HBE.out]; exact congrArg Value.string (ByteArray.mk_append_mk [_] s), HN.out, HB.out.alloc HB.out.size _⟩
          case measure => simp [intOf]; omega
    · have hs : s = Lib.decDigits n.natAbs := HD.out.end hna (by omega)
      have hsl := HD.out.len
      have hit : Lib.itoa n = if n < 0 then [45] ++ s else s := by
        unfold Lib.itoa
        rw [hs]
        split
        · rfl
        · congr 1; omega
      have HI := Lib.hid hit
      clear hs hit HD
      have hgd : decide ((k : Int) < 20) = false ∨ (decide ((k : Int) < 20) = true ∧ ((k : Int) == 0) = false ∧ (r != 0) = false) := by
        by_cases h0 : k < 20
        · right; exact ⟨by simp; omega, by simp; omega, by simp; omega⟩
        · left; simp; omega
      clear hgo
      by_cases hn : n < 0
      · have d3 : decide (n < 0) = true := by simpa using hn
        rw [if_pos hn] at HI
        rcases hgd with d1 | ⟨d1, d4, d5⟩
        all_goals
          go_wp2_with (refine wpList_cat rfl _ _ _ _ rfl [45] s rfl rfl (by simp) (by omega) ?_)
          go_ret
          exact ⟨by rw [HI.out]; exact congrArg Ending.returned (congrArg Value.string (ByteArray.mk_append_mk [45] s)), HB.out⟩
      · have d3 : decide (n < 0) = false := by simpa using hn
        rw [if_neg hn] at HI
        rcases hgd with d1 | ⟨d1, d4, d5⟩
        all_goals
          go_wp2_with fail
          go_ret
          exact ⟨by rw [HI.out]; rfl, HB.out⟩

/-! ### The document's line -/
def rowL : List Value := [.string ⟨#[110, 111, 110, 101]⟩, .string ⟨#[105, 108, 108, 101, 103, 97, 108]⟩, .string ⟨#[101, 110, 100]⟩, .string ⟨#[98, 101, 103, 105, 110]⟩, .string ⟨#[104, 97, 108, 116]⟩, .string ⟨#[111, 117, 116]⟩, .string ⟨#[103, 111, 101, 115]⟩, .string ⟨#[117, 110, 115, 101, 116]⟩, .string ⟨#[110, 101, 118, 101, 114]⟩]
theorem rowL_at : ∀ k, k < 9 → rowL[k]? = some (.string ⟨(nmL k).toArray⟩)
  | 0, _ | 1, _ | 2, _ | 3, _ | 4, _ | 5, _ | 6, _ | 7, _ | 8, _ => rfl
  | k + 9, h => by omega
set_option maxRecDepth 100000 in
set_option maxHeartbeats 2000000 in
theorem rtext_any (cd pl : Int) (hp : I64 pl) (w : World) : Calls Tryd.prog 9 #[.agg #[.int .i64 cd, .int .i64 pl]] w fun e w' => e = .returned (.string ⟨(textF cd pl).toArray⟩) ∧ Below w.heap.size w w' := by
  have HD := Lib.hid (fun V => digits_any pl hp V)
  have hb0 : Below w.heap.size w (w.alloc (.cells #[.int .i64 cd, .int .i64 pl] 35)) := (Below.refl _ w).alloc (Nat.le_refl _) _
  have hq0 : Holds (w.alloc (.cells #[.int .i64 cd, .int .i64 pl] 35)) w.heap.size 35 [.int .i64 cd, .int .i64 pl] := Holds.new w 35 [.int .i64 cd, .int .i64 pl]
  have hl1 := nmL_len (codeN cd)
  have hlen := itoa_len pl hp
  have hte : textF cd pl = (nmL (codeN cd) ++ [32, 97, 116, 32]) ++ Lib.itoa pl := rfl
  have hcn := rowL_at (codeN cd) (by unfold codeN; split <;> omega)
  have hs1 : ∀ V : World, (Op.stringOp BinOp.add ⟨(nmL (codeN cd)).toArray⟩ ⟨#[32, 97, 116, 32]⟩).run Tryd.prog V = .ok (.string ⟨(nmL (codeN cd) ++ [32, 97, 116, 32]).toArray⟩) V := fun V => run_string_add_lists V (nmL (codeN cd)) [32, 97, 116, 32] (by omega) (by decide)
  have hs2 : ∀ V : World, (Op.stringOp BinOp.add ⟨(nmL (codeN cd) ++ [32, 97, 116, 32]).toArray⟩ ⟨(Lib.itoa pl).toArray⟩).run Tryd.prog V = .ok (.string ⟨((nmL (codeN cd) ++ [32, 97, 116, 32]) ++ Lib.itoa pl).toArray⟩) V := fun V => run_string_add_lists V (nmL (codeN cd) ++ [32, 97, 116, 32]) (Lib.itoa pl) (by simp; omega) (by omega)
  have hcase : (cd ≤ 0 ∧ codeN cd = 0) ∨ (9 ≤ cd ∧ codeN cd = 0) ∨ (0 < cd ∧ cd < 9 ∧ ((codeN cd : Nat) : Int) = cd) := by
    unfold codeN
    by_cases h1 : cd ≤ 0
    · left; exact ⟨h1, if_neg (by omega)⟩
    by_cases h2 : 9 ≤ cd
    · right; left; exact ⟨h2, if_neg (by omega)⟩
    · right; right; exact ⟨by omega, by omega, by rw [if_pos (by omega)]; omega⟩
  generalize nmL (codeN cd) = na at *
  generalize codeN cd = kn at *
  generalize Lib.itoa pl = it at *
  generalize na ++ [32, 97, 116, 32] = nb at *
  generalize nb ++ it = nc at *
  have Hte := Lib.hid hte
  have HB := Lib.hid (And.intro hb0 hq0); clear hte hb0 hq0 hl1 hlen hp
  have HCn := Lib.hid hcn; clear hcn
  go_enter Tryd.func9, Tryd.ntmps9
  go_upto_region 1 with fail
  generalize hw1 : w.alloc (.cells #[.int .i64 cd, .int .i64 pl] 35) = w1 at *
  have hg1 : w1.heap.size = w.heap.size + 1 := by rw [← hw1]; simp
  have Hw1 := Lib.hid (And.intro hw1 hg1); clear hw1 hg1
  have hb1 : Below w1.heap.size w1 (w1.alloc (.cells #[.string ⟨#[110, 111, 110, 101]⟩, .string ⟨#[105, 108, 108, 101, 103, 97, 108]⟩, .string ⟨#[101, 110, 100]⟩, .string ⟨#[98, 101, 103, 105, 110]⟩, .string ⟨#[104, 97, 108, 116]⟩, .string ⟨#[111, 117, 116]⟩, .string ⟨#[103, 111, 101, 115]⟩, .string ⟨#[117, 110, 115, 101, 116]⟩, .string ⟨#[110, 101, 118, 101, 114]⟩] 9)) := (Below.refl _ w1).alloc (Nat.le_refl _) _
  have hq1 : Holds (w1.alloc (.cells #[.string ⟨#[110, 111, 110, 101]⟩, .string ⟨#[105, 108, 108, 101, 103, 97, 108]⟩, .string ⟨#[101, 110, 100]⟩, .string ⟨#[98, 101, 103, 105, 110]⟩, .string ⟨#[104, 97, 108, 116]⟩, .string ⟨#[111, 117, 116]⟩, .string ⟨#[103, 111, 101, 115]⟩, .string ⟨#[117, 110, 115, 101, 116]⟩, .string ⟨#[110, 101, 118, 101, 114]⟩] 9)) w1.heap.size 9 rowL := Holds.new w1 9 rowL
  have HQ := Lib.hid (And.intro (HB.out.1.trans (hb1.mono HB.out.1.size)) (And.intro (HB.out.2.below hb1) hq1)); clear hb1 hq1
  go_upto_region 2 with fail
  generalize w1.alloc (.cells #[.string ⟨#[110, 111, 110, 101]⟩, .string ⟨#[105, 108, 108, 101, 103, 97, 108]⟩, .string ⟨#[101, 110, 100]⟩, .string ⟨#[98, 101, 103, 105, 110]⟩, .string ⟨#[104, 97, 108, 116]⟩, .string ⟨#[111, 117, 116]⟩, .string ⟨#[103, 111, 101, 115]⟩, .string ⟨#[117, 110, 115, 101, 116]⟩, .string ⟨#[110, 101, 118, 101, 114]⟩] 9) = w2 at *
  have k0 := HQ.out.2.1.cell (i := 0) rfl
  have k1 := HQ.out.2.1.cell (i := 1) rfl
  have k2 := HQ.out.2.2.cell HCn.out
  have HC : Hid (∀ V : World, Below w2.heap.size w2 V → V.cell? ⟨w1.heap.size, kn, none⟩ = some (.string ⟨na.toArray⟩) ∧ Below w.heap.size w V) := Lib.hid fun V hV => ⟨(HQ.out.2.2.below hV).cell HCn.out, HQ.out.1.trans (hV.mono HQ.out.1.size)⟩
  rcases hcase with ⟨h1, h2⟩ | ⟨h1, h2⟩ | ⟨h1, h2, h3⟩
  · have d1 : decide (0 < cd) = false := decide_eq_false (by omega)
    clear h1
    subst h2
    go_wp2_with fail
    refine (HD.out _).mono ?_
    rintro e w3 ⟨rfl, hb3⟩
    obtain ⟨c3, hb3⟩ := HC.out _ hb3
    have Hb3 := Lib.hid hb3; clear hb3 k0 k1 k2 HC HD
    go_wp2_with fail
    go_ret
    exact ⟨by rw [Hte.out]; rfl, Hb3.out⟩
  · have d1 : decide (0 < cd) = true := decide_eq_true (by omega)
    have d2 : decide (cd < 9) = false := decide_eq_false (by omega)
    clear h1
    subst h2
    go_wp2_with fail
    refine (HD.out _).mono ?_
    rintro e w3 ⟨rfl, hb3⟩
    obtain ⟨c3, hb3⟩ := HC.out _ hb3
    have Hb3 := Lib.hid hb3; clear hb3 k0 k1 k2 HC HD
    go_wp2_with fail
    go_ret
    exact ⟨by rw [Hte.out]; rfl, Hb3.out⟩
  · have d1 : decide (0 < cd) = true := decide_eq_true (by omega)
    have d2 : decide (cd < 9) = true := decide_eq_true (by omega)
    have d3 : decide (0 < kn) = true := decide_eq_true (by omega)
    have d4 : decide (kn < 9) = true := decide_eq_true (by omega)
    subst h3
    have hki : (0 : Int) ≤ (kn : Int) ∧ (kn : Int) < 9 := by omega
    clear h1 h2
    go_wp2_with fail
    refine (HD.out _).mono ?_
    rintro e w3 ⟨rfl, hb3⟩
    obtain ⟨c3, hb3⟩ := HC.out _ hb3
    have Hb3 := Lib.hid hb3; clear hb3 k0 k1 k2 HC HD
    go_wp2_with fail
    go_ret
    exact ⟨by rw [Hte.out]; rfl, Hb3.out⟩
end Go.Proofs.YteijhcibdglkeaaDoor
