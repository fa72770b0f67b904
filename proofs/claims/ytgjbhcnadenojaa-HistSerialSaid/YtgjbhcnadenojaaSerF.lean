/- serial: the history of blocks one behind the other. Conditions: those stated in each theorem. -/
import Derived.Test.YtgjbhcnadenojaaSerFa
import Derived.Test.YtgjbhcnadenojaaSerFb
namespace Go.Proofs.Ytgjbhcnadenojaa
open Go.RowKit Go.BigFrame Go.Maps

set_option maxRecDepth 100000 in
set_option maxHeartbeats 4000000 in
theorem serial_any {a : Option Addr} {ca lo g cap : Nat} {xs : List BkV} {words : List Int} (w00 w : World) (hx : BksIn w00 a xs) (h0 : Below w00.heap.size w00 w) (h00 : w00.heap.size ≤ g) (hr : w.ownsRow lo 46 1 (.slice (some ⟨g, 0, none⟩) words.length cap) words.length (words.map (.int .u64))) (hn : xs.length ≤ 12) (hN : words.length ≤ 60) :
    Calls Try.prog 24 #[.slice a xs.length ca, .slice (some ⟨g, 0, none⟩) words.length cap] w fun e w' =>
      (e = .returned (.tuple #[.slice none 0 0, .bool false]) ∨ ((∀ x ∈ xs, x.b.Ok words.length ∧ x.b.ops.length ≤ 40) ∧ ∃ v, e = .returned (.tuple #[v, .bool true]) ∧ w'.ownsRow w.heap.size 61 9 v (serH [] words (xs.map BkV.b)).length (flatE (serH [] words (xs.map BkV.b))) ∧
        w'.ownsRow lo 46 1 (.slice (some ⟨g, 0, none⟩) words.length cap) words.length ((serW words (xs.map BkV.b)).map (.int .u64)))) ∧ Tch (fun x => x = g) w w' := by
  have Hx := Lib.hid hx; clear hx
  have H0 := Lib.hid h0; clear h0
  have hsz0 := H0.out.size
  obtain ⟨i0, hi0, hz0, hz1, hz2⟩ := info_parts Try.infoEv
  have Hi := Lib.hid hi0; clear hi0
  have Hz0 := Lib.hid hz0; clear hz0
  have Hz1 := Lib.hid hz1; clear hz1
  have Hz2 := Lib.hid hz2; clear hz2
  have hgl := (owns_lt hr (g := g) rfl).2
  have hse : SEs w (w.alloc (.cells (manyL []).toArray 100)) lo g cap w.heap.size words [] (.slice none 0 0) :=
    ⟨World.ownsRow_nil _ _ _ _, Holds.new w _ _, World.ownsRow.alloc hr _, (Tch.refl _ w).alloc _⟩
  have HS := Lib.hid hse; clear hse hr
  go_enter Try.func24, Try.ntmps24
  go_wp2_with fail
  obtain ⟨w0, hw0⟩ : ∃ w0, w.alloc (.cells (manyL []).toArray 100) = w0 := ⟨_, rfl⟩
  rw [hw0] at HS
  have hw0' : w.alloc (.cells #[.int .i64 0, .int .i64 0, .int .i64 0, .int .i64 0] 100) = w0 := hw0
  rw [hw0']
  clear hw0 hw0'
  go_loopw [6, 8, 9, 10, 11, 12, 13, 14] (fun u6 u8 _ _ _ _ _ _ wr => ∃ k : Nat, k ≤ xs.length ∧ u8 = .int .i64 k ∧ (∀ x ∈ xs.take k, x.b.Ok words.length ∧ x.b.ops.length ≤ 40) ∧ SEs w wr lo g cap w.heap.size words ((xs.take k).map BkV.b) u6) (fun _ i _ _ _ _ _ _ _ => xs.length - (intOf i).toNat)
  case atStart => exact ⟨0, by omega, by simp, by simp, HS.out⟩
  case round =>
    obtain ⟨k, hk, rfl, hok, hse⟩ := hrel
    have HS := Lib.hid hse; clear hse
    have Hok := Lib.hid hok; clear hok
    by_cases hlt : k < xs.length
    · obtain ⟨y, hy⟩ : ∃ y, xs[k]? = some y := ⟨xs[k], List.getElem?_eq_getElem hlt⟩
      have htk : (xs.take (k + 1)).map BkV.b = (xs.take k).map BkV.b ++ [y.b] := by rw [List.take_add_one, hy]; simp
      obtain ⟨q, c, rfl, hq, hrow⟩ := Hx.out.1.row hy
      have hqg : q ≠ g := by omega
      have hqw : q < w.heap.size := by omega
      have hops := Hx.out.2 y (List.mem_of_getElem? hy)
      have hrw : wr.rangeAt q (c + k * 4) y.cells := fun i v hi => by rw [← hrow i v hi]; exact World.cell?_of_block (a := ⟨q, c + k * 4 + i, none⟩) ((HS.out.tch.block q hqw hqg).trans (H0.out.block q hq))
      obtain ⟨⟨co, la, ops, ab⟩, oa, oc⟩ := y
      have r0 : wr.cell? ⟨q, c + k * 4, none⟩ = some (.int .i64 co) := hrw 0 _ rfl
      have r1 : wr.cell? ⟨q, c + k * 4 + 1, none⟩ = some (.int .i64 la) := hrw 1 _ rfl
      have r2 : wr.cell? ⟨q, c + k * 4 + 2, none⟩ = some (.slice oa ops.length oc) := hrw 2 _ rfl
      have r3 : wr.cell? ⟨q, c + k * 4 + 3, none⟩ = some (.bool ab) := hrw 3 _ rfl
      have hbk : (0 : Int) ≤ k ∧ (k : Int) < xs.length := by omega
      have Htk := Lib.hid htk; clear htk
      have Hops := Lib.hid hops; clear hops
      have Hy := Lib.hid hy
      clear hrw hrow hy
      go_upto_region 7 with (fail)
      have hb9 : Holds (wr.alloc (.cells #[.int .i64 co, .int .i64 la, .slice oa ops.length oc, .bool ab] 103)) wr.heap.size 103 [.int .i64 co, .int .i64 la, .slice oa ops.length oc, .bool ab] := Holds.new wr _ _
      have HS1 := Lib.hid (HS.out.idle ((Below.refl _ wr).alloc (Nat.le_refl _) (.cells #[.int .i64 co, .int .i64 la, .slice oa ops.length oc, .bool ab] 103)))
      have Hlt9 := Lib.hid HS.out.tch.size
      clear HS r0 r1 r2 r3
      obtain ⟨b9, hb9e⟩ : ∃ b9, wr.heap.size = b9 := ⟨_, rfl⟩
      rw [hb9e] at hb9 Hlt9 ⊢
      generalize wr.alloc (.cells #[.int .i64 co, .int .i64 la, .slice oa ops.length oc, .bool ab] 103) = w1 at *
      clear hb9e
      have c0 := hb9.cell (i := 0) rfl
      have c1 := hb9.cell (i := 1) rfl
      have c2 := hb9.cell (i := 2) rfl
      have c3 := hb9.cell (i := 3) rfl
      by_cases f1 : co < 0
      · have d1 : decide (co < 0) = true := by simp; omega
        go_wp2_with fail
        exact bodyPost_ret (results_tmp2 rfl _ _ _) rfl ⟨.inl rfl, HS1.out.tch⟩
      have d1 : decide (co < 0) = false := by simp; omega
      by_cases f2 : 3 < co
      · have d2 : decide (3 < co) = true := by simp; omega
        go_wp2_with fail
        exact bodyPost_ret (results_tmp2 rfl _ _ _) rfl ⟨.inl rfl, HS1.out.tch⟩
      have d2 : decide (3 < co) = false := by simp; omega
      by_cases f3 : la < 1
      · have d3 : decide (la < 1) = true := by simp; omega
        go_wp2_with fail
        exact bodyPost_ret (results_tmp2 rfl _ _ _) rfl ⟨.inl rfl, HS1.out.tch⟩
      have d3 : decide (la < 1) = false := by simp; omega
      by_cases f4 : 4 < la
      · have d4 : decide (4 < la) = true := by simp; omega
        go_wp2_with fail
        exact bodyPost_ret (results_tmp2 rfl _ _ _) rfl ⟨.inl rfl, HS1.out.tch⟩
      have d4 : decide (4 < la) = false := by simp; omega
      by_cases f5 : 40 < ops.length
      · have d5 : decide (40 < (ops.length : Int)) = true := by simp; omega
        go_wp2_with fail
        exact bodyPost_ret (results_tmp2 rfl _ _ _) rfl ⟨.inl rfl, HS1.out.tch⟩
      have d5 : decide (40 < (ops.length : Int)) = false := by simp; omega
      have hco : 0 ≤ co ∧ co < 4 := by omega
      have hla : 1 ≤ la ∧ la ≤ 4 := by omega
      have m0 := HS1.out.many.cell (manyL_at _ hco)
      have hcl := cnt_le ((xs.take k).map BkV.b) co
      have hcn := cnt_nn ((xs.take k).map BkV.b) co
      have hkl : ((xs.take k).map BkV.b).length ≤ 12 := by simp; omega
      obtain ⟨pre, hpre⟩ : ∃ pre, (xs.take k).map BkV.b = pre := ⟨_, rfl⟩
      rw [hpre] at HS1 m0 hcl hcn hkl
      have hlen : ∀ x ∈ (xs.take k).map BkV.b, x.ops.length ≤ 40 := fun x hx => by
        obtain ⟨y, hy, rfl⟩ := List.mem_map.1 hx
        exact (Hok.out y hy).2
      have Hlen := Lib.hid hlen; clear hlen
      have Hpre := Lib.hid hpre; clear hpre
      obtain ⟨n, hne⟩ : ∃ n, cnt pre co = n := ⟨_, rfl⟩
      rw [hne] at m0 hcl hcn
      have Hne := Lib.hid hne; clear hne
      have hcb : 0 ≤ co ∧ co < (4 : Nat) := by omega
      have hcb0 : (0 : Int) ≤ co := hco.1
      have hcb4 : co < 4 := hco.2
      have lb9 := hb9.lt
      have lbm := HS1.out.many.lt
      have Hb9 := Lib.hid hb9; clear hb9
      go_upto_region 9 with (fail)
      go_region
      have hW2 : Below w1.heap.size w1 (w1.alloc (.cells #[.int .i64 1, .int .i64 0, .int .i64 co, .int .i64 n, .int .i64 0, .int .i64 la, .int .i64 0, .int .u64 0, .int .i64 0] 61)).drew := below_drew1 ((Below.refl _ w1).alloc (Nat.le_refl _) _)
      have hb10 : Holds (w1.alloc (.cells #[.int .i64 1, .int .i64 0, .int .i64 co, .int .i64 n, .int .i64 0, .int .i64 la, .int .i64 0, .int .u64 0, .int .i64 0] 61)).drew w1.heap.size 61 [.int .i64 1, .int .i64 0, .int .i64 co, .int .i64 n, .int .i64 0, .int .i64 la, .int .i64 0, .int .u64 0, .int .i64 0] := (Holds.new w1 _ _).drew
      have hs1 := HS1.out.idle hW2
      have hse : SEr w (w1.alloc (.cells #[.int .i64 1, .int .i64 0, .int .i64 co, .int .i64 n, .int .i64 0, .int .i64 la, .int .i64 0, .int .u64 0, .int .i64 0] 61)).drew lo g cap words.length (serH [] words pre) pre (serW words pre) u6 b9 w1.heap.size [.int .i64 co, .int .i64 la, .slice oa ops.length oc, .bool ab] [.int .i64 1, .int .i64 0, .int .i64 co, .int .i64 n, .int .i64 0, .int .i64 la, .int .i64 0, .int .u64 0, .int .i64 0] :=
        ⟨hs1.row, hs1.many, hs1.words, hs1.tch, (hW2.block _ Hb9.out.lt).trans Hb9.out, hb10, fun x hx => by have := (owns_lt HS1.out.row hx).2; omega, by have := HS1.out.many.lt; omega⟩
      have HR := Lib.hid hse
      clear hse hs1 hb10 hW2 HS1 Hb9 lb9 lbm c0 c1 c2 c3 m0
      go_upto_region 10 with (fail)
      obtain ⟨b10, hb10e⟩ : ∃ b10, w1.heap.size = b10 := ⟨_, rfl⟩
      rw [hb10e] at HR ⊢
      generalize (w1.alloc (.cells #[.int .i64 1, .int .i64 0, .int .i64 co, .int .i64 n, .int .i64 0, .int .i64 la, .int .i64 0, .int .u64 0, .int .i64 0] 61)).drew = w2 at *
      clear hb10e
      have c0 := HR.out.blk.cell (i := 0) rfl
      have c1 := HR.out.blk.cell (i := 1) rfl
      have c2 := HR.out.blk.cell (i := 2) rfl
      have c3 := HR.out.blk.cell (i := 3) rfl
      have m0 : w2.cell? ⟨w.heap.size, co.toNat, none⟩ = some (.int .i64 n) := by have := HR.out.many.cell (manyL_at _ hco); rwa [Hne.out] at this
      have mf := HR.out.many.free co.toNat
      have hn1 : IntKind.i64.wrap (n + 1) = n + 1 := by rw [IntKind.wrap_i64]; omega
      have hml : Holds (w2.setCell ⟨w.heap.size, co.toNat, none⟩ (.int .i64 (n + 1))) w.heap.size 100 (manyL (pre ++ [⟨co, la, ops, ab⟩])) := by
        have h1 := HR.out.many.set co.toNat (.int .i64 (n + 1))
        rw [← Hne.out, manyL_next pre (b := ⟨co, la, ops, ab⟩) hco] at h1
        rw [← Hne.out]
        exact h1
      have hTm : Tch (fun x => x = w.heap.size) w2 (w2.setCell ⟨w.heap.size, co.toNat, none⟩ (.int .i64 (n + 1))) := Tch.setCell (C := fun x => x = w.heap.size) (Tch.refl _ w2) (p := ⟨w.heap.size, co.toNat, none⟩) (.inl rfl) _
      have hnt : ∀ (t : TypeId) (b : Nat), t ≠ 100 → (∃ cs : Array Value, w2.heap[b]? = some (Obj.cells cs t (0, 0))) → b ≠ w.heap.size := fun t b ht hb e => by
        subst e
        obtain ⟨cs, hcs⟩ := hb
        have := HR.out.many
        unfold Holds at this
        rw [hcs] at this
        simp only [Option.some.injEq, Obj.cells.injEq] at this
        exact ht this.2.1
      have hse : SEr w (w2.setCell ⟨w.heap.size, co.toNat, none⟩ (.int .i64 (n + 1))) lo g cap words.length (serH [] words pre) (pre ++ [⟨co, la, ops, ab⟩]) (serW words pre) u6 b9 b10 [.int .i64 co, .int .i64 la, .slice oa ops.length oc, .bool ab] [.int .i64 1, .int .i64 0, .int .i64 co, .int .i64 n, .int .i64 0, .int .i64 la, .int .i64 0, .int .u64 0, .int .i64 0] :=
        ⟨owns_same HR.out.row (fun g' e => hTm.block g' (owns_lt HR.out.row e).2 (hnt _ _ (by decide) (owns_kind HR.out.row e))), hml, owns_same HR.out.words (fun g' e => hTm.block g' (owns_lt HR.out.words e).2 (hnt _ _ (by decide) (owns_kind HR.out.words e))),
          ⟨HR.out.tch.os, HR.out.tch.tape, HR.out.tch.output, Nat.le_trans HR.out.tch.size hTm.size, fun k hk hc => (hTm.block k (Nat.lt_of_lt_of_le hk HR.out.tch.size) (by omega)).trans (HR.out.tch.block k hk hc)⟩,
          hTm.holds (hnt _ _ (by decide) ⟨_, HR.out.blk⟩) HR.out.blk, hTm.holds (hnt _ _ (by decide) ⟨_, HR.out.evb⟩) HR.out.evb, HR.out.sep, HR.out.b10w⟩
      have HR2 := Lib.hid hse
      clear hse hml hTm hnt
      go_upto_region 11 with (fail)
      generalize w2.setCell ⟨w.heap.size, co.toNat, none⟩ (.int .i64 (n + 1)) = w3 at *
      clear HR c0 c1 c2 c3 m0 mf
      have v0 := HR2.out.evb.cell (i := 0) rfl
      have v1 := HR2.out.evb.cell (i := 1) rfl
      have v2 := HR2.out.evb.cell (i := 2) rfl
      have v3 := HR2.out.evb.cell (i := 3) rfl
      have v4 := HR2.out.evb.cell (i := 4) rfl
      have v5 := HR2.out.evb.cell (i := 5) rfl
      have v6 := HR2.out.evb.cell (i := 6) rfl
      have v7 := HR2.out.evb.cell (i := 7) rfl
      have v8 := HR2.out.evb.cell (i := 8) rfl
      have hsl := serH_len pre [] words (fun x hx => Hlen.out x (by rw [Hpre.out]; exact hx))
      go_wp2_with (at_builtin; refine wpList_append_own_at _ rfl (.tmp 65) (.tmp 67) 22 rfl w.heap.size 61 i0 _ 9 72 Try.underlying22 Hi.out Hz0.out Hz1.out Hz2.out rfl (by decide) u6 (serH [] words pre).length (flatE (serH [] words pre)) rfl (World.ownsRow.alloc HR2.out.row _) ⟨w3.heap.size, 0, none⟩ 1 1 [.int .i64 1, .int .i64 0, .int .i64 co, .int .i64 n, .int .i64 0, .int .i64 la, .int .i64 0, .int .u64 0, .int .i64 0] rfl rfl (World.news_of_block (cs := #[.int .i64 1, .int .i64 0, .int .i64 co, .int .i64 n, .int .i64 0, .int .i64 la, .int .i64 0, .int .u64 0, .int .i64 0]) (t := 61) (fr := (0, 0)) (new_block w3 _)) (by simp [Value.oneCell']) (by unfold maxLen; omega) (by omega) (by have := HR2.out.tch.size; simp; omega) ?_; intro v4' w4 hown4 hgrow4 _ hat4; refine Hid.out ?_)
      refine Lib.hid ?_
      have HR4 := Lib.hid (HR2.out.push (e := who ⟨co, la, ops, ab⟩ n 1 0 0 0) hown4 ((Below.refl _ w3).alloc (Nat.le_refl _) _) hgrow4 hat4 hgl)
      clear hown4 hgrow4 hat4 HR2 v0 v1 v2 v3 v4 v5 v6 v7 v8
      obtain ⟨bb, hbb⟩ : ∃ bb : Bk, bb = ⟨co, la, ops, ab⟩ := ⟨_, rfl⟩
      obtain ⟨j0, hj0, hy0, hy1, hy2⟩ := info_parts Try.infoU
      have HJ := Lib.hid hj0; clear hj0
      have HY0 := Lib.hid hy0; clear hy0
      have HY1 := Lib.hid hy1; clear hy1
      have HY2 := Lib.hid hy2; clear hy2
      have hwl : (serW words pre).length = words.length := serW_len pre words
      have hba : Below w4.heap.size w4 (w4.alloc (.cells #[] 46)) := (Below.refl _ w4).alloc (Nat.le_refl _) _
      have HBA := Lib.hid hba; clear hba
      have HR5 := Lib.hid (HR4.out.idle HBA.out)
      go_wp2_with (at_builtin; refine wpList_append_own_at _ rfl (.tmp 69) (.tmp 70) 51 rfl w4.heap.size 46 j0 _ 1 8 Try.underlying51 HJ.out HY0.out HY1.out HY2.out rfl (by decide) (.slice (some ⟨w4.heap.size, 0, none⟩) 0 0) 0 [] rfl (ownsU_zero w4) ⟨g, 0, none⟩ words.length cap ((serW words pre).map (.int .u64)) rfl (by rw [List.length_map, hwl, Nat.mul_one]) (World.ownsRow.cells HR5.out.words rfl) (wordU_one _) (by unfold maxLen; omega) (by omega) (by simp) ?_; intro v5 w5 hown5 hgrow5 _ hat5; refine Hid.out ?_)
      refine Lib.hid ?_
      have hb5 : Below w4.heap.size w4 w5 := HBA.out.grown hgrow5 HBA.out.size (fun g' e => by cases e; exact Nat.le_refl _)
      obtain ⟨g2, cap2, rfl, -⟩ : ∃ g2 cap2, v5 = .slice (some ⟨g2, 0, none⟩) words.length cap2 ∧ True := by
        rcases owns_form hown5 with ⟨rfl, _, _⟩ | ⟨g2, cap2, rfl, _⟩
        · rcases hat5 with h | h <;> cases h
        · exact ⟨g2, cap2, by rw [Nat.zero_add], trivial⟩
      rw [Nat.zero_add, List.nil_append] at hown5
      have hso : SEo w w5 lo g cap words.length (serH [] words pre ++ [who ⟨co, la, ops, ab⟩ n 1 0 0 0]) (pre ++ [⟨co, la, ops, ab⟩]) (serW words pre) v4' b9 b10 [.int .i64 co, .int .i64 la, .slice oa ops.length oc, .bool ab] [.int .i64 1, .int .i64 0, .int .i64 co, .int .i64 n, .int .i64 0, .int .i64 la, .int .i64 0, .int .u64 0, .int .i64 0] w4.heap.size g2 cap2 (serW words pre) :=
        ⟨HR4.out.idle hb5, hown5, HR4.out.tch.size⟩
      have HS5 := Lib.hid hso
      clear HR4 HR5 hso hown5 hgrow5 hat5 hb5 HBA
      generalize w4.heap.size = B at *
      obtain ⟨W0, hW0⟩ : ∃ W0, serW words pre = W0 := ⟨_, rfl⟩
      rw [hW0] at HS5 hwl
      have HW0 := Lib.hid hW0; clear hW0
      obtain ⟨hs0, hhs⟩ : ∃ hs0, serH [] words pre ++ [who ⟨co, la, ops, ab⟩ n 1 0 0 0] = hs0 := ⟨_, rfl⟩
      rw [hhs] at HS5
      have hsl0 : hs0.length ≤ 43 * pre.length + 1 := by rw [← hhs, List.length_append, List.length_singleton]; omega
      have HHS := Lib.hid hhs; clear hhs hsl
      obtain ⟨ml, hml⟩ : ∃ ml, pre ++ [⟨co, la, ops, ab⟩] = ml := ⟨_, rfl⟩
      rw [hml] at HS5
      have Hml := Lib.hid hml; clear hml
      have hx40 : ops.length ≤ 40 := by omega
      go_wp2_with fail
      refine ser_loop _ _ _ _ _ _ _ _ _ _ _ _ _ _ _ _ _ _ _ _ _ _ _ _ _ _ _ _ _ _ _ _ _ _ _ _ _ _ _ _ _ _ _ _ _ _ _ _ _ _ _ _ _ _ _ _ _ _ _ _ _ _ _ _ _ _ _ _ _ _ _ _ _ _ _ _ _ _ _ _ _ _ _ _ _ _ _ _ _ _ _ _ _ _ _ _ _ _ _ _ _ _ _ _ _ _ _ _ _ _ _ _ _ _ _ _ _ _ _ _ _ _ _ _ _ _ _ _ _ _ _ _ _ _ _ _ _ _ _ _ _ _ H0.out h00 Hops.out hgl hN hx40 (by omega) hwl hco hla HS5.out ?_ ?_
      · intro u4 u5 u6 u13 u72 u73 u74 u75 u76 u77 u78 u79 u80 u81 u82 u83 u84 u85 u86 u87 u88 u89 u90 u91 u92 u93 u94 u95 u96 u97 u98 u99 u100 u101 u102 u103 u104 u105 u106 u107 u108 u109 u110 u111 u112 u113 u114 u115 u116 u117 u118 u119 u120 u121 u122 u123 u124 u125 u126 u127 w8 hok3 hs8
        have Hok3 := Lib.hid hok3; clear hok3 HS5
        have HS8 := Lib.hid hs8; clear hs8
        have hevl : (hs0 ++ evsL ⟨co, la, ops, ab⟩ n W0 ops).length ≤ 557 := by rw [List.length_append, evsL_len]; omega
        rename_i hK
        refine hK _ _ ?_
        refine ser_tail _ _ _ _ _ _ _ _ _ _ _ _ _ _ _ _ _ _ _ _ _ _ _ _ _ _ _ _ _ _ _ _ _ _ _ _ _ _ _ _ _ _ _ _ _ _ _ _ _ _ _ _ _ _ _ _ _ _ _ _ _ _ _ _ _ _ _ _ _ _ _ _ _ _ _ _ _ _ _ _ _ _ _ _ _ _ _ _ _ _ _ _ _ _ _ _ _ _ _ _ _ _ _ _ _ _ _ _ _ _ _ _ _ _ _ _ _ _ _ _ _ _ _ _ _ _ _ _ _ _ _ _ _ _ _ _ _ _ _ _ _ _ _ hgl hN hx40 hevl hco hla HS8.out ?_
        intro u6 u14 u128 u129 u130 u131 u132 u133 u134 u135 u136 u137 u138 u139 u140 u141 u142 u143 u144 u145 w9 X hs9
        have HZ := Lib.hid hs9; clear hs9 HS8
        go_wp2_with fail
        go_roundw
        case rel =>
          refine ⟨k + 1, by omega, by go_num, fun x hx => ?_, ?_⟩
          · rw [List.take_add_one, Hy.out, List.mem_append] at hx
            rcases hx with hx | hx
            · exact Hok.out x hx
            · simp at hx; subst hx; exact ⟨⟨hco, hla, Hok3.out⟩, hx40⟩
          · rw [Htk.out, Hpre.out]
            exact HZ.out.leave Hml.out.symm (by rw [← HHS.out]; exact serH_next pre words ⟨co, la, ops, ab⟩ Hne.out HW0.out rfl) (by rw [serW_snoc, HW0.out]; cases ab <;> rfl) rfl
        case measure => simp [intOf]; omega
      · intro a w8 h1 h2 h3 h4
        go_wp2_with fail
        refine bodyPost_ret (results_tmp2 rfl _ _ _) h1 ?_
        rw [h2, h3]
        exact ⟨.inl rfl, h4⟩
    · obtain rfl : k = xs.length := by omega
      have hse := HS.out
      have hok := Hok.out
      rw [List.take_length] at hse hok
      have HS := Lib.hid hse; clear hse
      have Hok := Lib.hid hok; clear hok
      go_wp2_with fail
      exact bodyPost_ret (results_tmp2 rfl _ _ _) rfl ⟨.inr ⟨Hok.out, _, rfl, HS.out.row, HS.out.words⟩, HS.out.tch⟩

end Go.Proofs.Ytgjbhcnadenojaa
