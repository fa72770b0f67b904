/- A numeral behind a row of bytes: strconv.AppendInt, at base ten. Conditions: those stated in each theorem. -/
import Derived.Test.YteijhcibdglkeaaGreatDoorTxtU
namespace Go.Proofs.YteijhcibdglkeaaGreatDoor
open Go.RowKit Go.BigFrame

set_option maxHeartbeats 2000000 in
set_option maxRecDepth 100000 in
theorem aint_in (B n : Nat) (i : Int) (h0 : -9223372036854775808 ≤ i) (h1 : i ≤ 9223372036854775807) (v : Value) (xs : List Value) (w : World) (hown : RowM w B v n xs) (hB : B ≤ w.heap.size) (hl : n + 21 ≤ 140737488355328)
    (htab : ∀ w', GrowM w w' v v → Lib.TabIs Tryz.prog w' "internal/strconv.uint64pow10" .u64 Lib.pow10Tab) :
    Calls Tryz.prog 100 #[v, .int .i64 i, .int .i64 10] w fun e w' => ∃ v', e = .returned v' ∧ RowM w' B v' (n + (Lib.itoa i).length) (xs ++ Lib.byteCells (Lib.itoa i)) ∧ GrowM w w' v v' := by
  by_cases hneg : i < 0
  · obtain ⟨u, rfl⟩ : ∃ u : Nat, i = -(u : Int) := ⟨i.natAbs, by omega⟩
    obtain ⟨i0, hi, hz, hs, hy⟩ := info_u8
    have hu64 : u < 18446744073709551616 := by omega
    have hwr : IntKind.u64.wrap (-IntKind.u64.wrap (-(u : Int))) = (u : Int) := by rw [IntKind.wrap_u64, IntKind.wrap_u64]; omega
    rw [Lib.itoa_neg u (by omega)]
    have hui := fun v1 xs1 W h1 h2 h3 => uint_any B (n + 1) u hu64 v1 xs1 W h1 h2 (by omega) h3
    have Hui := Lib.hid hui; clear hui
    have Htab := Lib.hid htab; clear htab
    have Hi := Lib.hid hi; clear hi
    have Hown := Lib.hid hown; clear hown
    go_enter Tryz.func100, Tryz.ntmps100
    go_wp2_with (at_builtin; refine wpList_append_M _ rfl _ _ 128 128 rfl B i0 Tryz.underlying128 Hi.out hz hs hy v n xs rfl (below_old ((Below.refl _ _).alloc (Nat.le_refl _) _) Hown.out) (.slice (some ⟨w.heap.size, 0, none⟩) 1 1) 1 [.int .u8 45] rfl (.inr ⟨rfl, _, _, rfl, rfl, ?c1, ?c2⟩) (by omega) (by simp; omega) ?_)
    case c1 => intro y hy; rw [List.mem_singleton.1 hy]; rfl
    case c2 => intro j y hj; match j, hj with | 0, hj => simp at hj; subst hj; simp [Addr.add]
    intro v2 w2 hown2 hg2
    have hg2' := GrowM.idle ((Below.refl _ w).alloc (Nat.le_refl _) _) hg2
    have ht2 := Htab.out w2 ⟨hg2'.1, fun k hk => .inl hk⟩
    have hB2 : B ≤ w2.heap.size := Nat.le_trans hB hg2'.1.size
    have Hg2 := Lib.hid hg2'; clear hg2 hg2'
    go_wp2_with (go_at_call 112; refine (Hui.out v2 _ w2 hown2 hB2 ht2).mono ?_; rintro e w3 ⟨v3, rfl, hown3, hg3⟩)
    go_ret
    refine ⟨v3, rfl, ?_, Hg2.out.trans hg3⟩
    have e1 : n + ((Lib.decDigits u).length + 1) = n + 1 + (Lib.decDigits u).length := by omega
    have e2 : xs ++ Lib.byteCells (45 :: Lib.decDigits u) = xs ++ [Value.int .u8 45] ++ Lib.byteCells (Lib.decDigits u) := by simp [Lib.byteCells]
    rw [e1, e2]
    exact hown3
  · obtain ⟨u, rfl⟩ : ∃ u : Nat, i = u := ⟨i.toNat, by omega⟩
    have hu64 : u < 18446744073709551616 := by omega
    rw [Lib.itoa_nonneg]
    have hui := uint_any B n u hu64 v xs w hown hB (by omega) (htab w ⟨⟨rfl, rfl, rfl, Nat.le_refl _, fun _ _ _ => rfl⟩, fun k hk => .inl hk⟩)
    have Hui := Lib.hid hui; clear hui htab
    go_enter Tryz.func100, Tryz.ntmps100
    go_wp2_with (go_at_call 112; refine Hui.out.mono ?_; rintro e w3 ⟨v3, rfl, hown3, hg3⟩)
    go_ret
    exact ⟨v3, rfl, hown3, hg3⟩

set_option maxHeartbeats 1000000 in
theorem aint_any (B n : Nat) (i : Int) (h0 : -9223372036854775808 ≤ i) (h1 : i ≤ 9223372036854775807) (v : Value) (xs : List Value) (w : World) (hown : RowM w B v n xs) (hB : B ≤ w.heap.size) (hl : n + 21 ≤ 140737488355328)
    (htab : ∀ w', GrowM w w' v v → Lib.TabIs Tryz.prog w' "internal/strconv.uint64pow10" .u64 Lib.pow10Tab) :
    Calls Tryz.prog 86 #[v, .int .i64 i, .int .i64 10] w fun e w' => ∃ v', e = .returned v' ∧ RowM w' B v' (n + (Lib.itoa i).length) (xs ++ Lib.byteCells (Lib.itoa i)) ∧ GrowM w w' v v' := by
  have hui := aint_in B n i h0 h1 v xs w hown hB hl htab
  have Hui := Lib.hid hui; clear hui htab hown
  go_enter Tryz.func86, Tryz.ntmps86
  go_wp2_with (go_at_call 100; refine Hui.out.mono ?_; rintro e w3 ⟨v3, rfl, hown3, hg3⟩)
  go_ret
  exact ⟨v3, rfl, hown3, hg3⟩

end Go.Proofs.YteijhcibdglkeaaGreatDoor
