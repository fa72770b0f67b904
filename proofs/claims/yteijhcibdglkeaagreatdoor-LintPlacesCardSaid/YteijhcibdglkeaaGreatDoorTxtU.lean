/- A numeral behind a row of bytes, marked or not: strconv.AppendInt. Conditions: those stated in each theorem. -/
import Derived.Test.YteijhcibdglkeaaGreatDoorTxtM
import Derived.BigCall
import Derived.BigGuard
import Derived.Shelf.Strconv.Itoa1
import Derived.Shelf.Strconv.Itoa2
namespace Go.Proofs.YteijhcibdglkeaaGreatDoor
open Go.RowKit Go.BigFrame

theorem below_old {w w' : World} (h : Below w.heap.size w w') : ∀ {B n : Nat} {v : Value} {xs : List Value}, RowM w B v n xs → RowM w' B v n xs := fun hr => hr.kept (fun _ hg => h.block _ (hr.lt hg).2)
theorem info_u8 : ∃ i, Tryz.prog.info? 5 = some i ∧ i.zero = some (.int .u8 0) ∧ i.size = 1 ∧ i.bytes = 1 := Go.info_parts (P := Tryz.prog) (e := 5) (z := .int .u8 0) (size := 1) (bytes := 1) (by kernel_rfl)
theorem small_at (u : Nat) (h : u < 100) (w : World) : Calls Tryz.prog 57 #[.int .i64 u] w fun e w' => e = .returned (.string ⟨(Lib.decDigits u).toArray⟩) ∧ w' = w := Any.internal_strconv_small { Tryz.laysM176 with } u h w
theorem nDigits_at (u : Nat) (h1 : 1 ≤ u) (h2 : u < 18446744073709551616) (w : World) (htab : Lib.TabIs Tryz.prog w "internal/strconv.uint64pow10" .u64 Lib.pow10Tab) : Calls Tryz.prog 58 #[.int .u64 u] w fun e w' => e = .returned (.int .i64 (Lib.nDigits u)) ∧ w' = w := Any.internal_strconv_numDigits { Tryz.laysM176 with } u h1 h2 w htab

set_option maxHeartbeats 1000000 in
set_option maxRecDepth 100000 in
theorem uint_few (B n u : Nat) (hu : u < 100) (v : Value) (xs : List Value) (w : World) (hown : RowM w B v n xs) (hB : B ≤ w.heap.size) (hl : n + 20 ≤ 140737488355328) :
    Calls Tryz.prog 112 #[v, .int .u64 u, .int .i64 10] w fun e w' => ∃ v', e = .returned v' ∧ RowM w' B v' (n + (Lib.decDigits u).length) (xs ++ Lib.byteCells (Lib.decDigits u)) ∧ GrowM w w' v v' := by
  obtain ⟨i0, hi, hz, hs, hy⟩ := info_u8
  have hlen : (Lib.decDigits u).length ≤ 20 := by
    rw [Lib.decDigits_length]
    by_cases h10 : u < 10
    · rw [Lib.nDigits_small h10]; omega
    · rw [Lib.nDigits_big h10, Lib.nDigits_small (show u / 10 < 10 by omega)]; omega
  have hsz : (⟨(Lib.decDigits u).toArray⟩ : ByteArray).size = (Lib.decDigits u).length := by simp [ByteArray.size]
  have hsm := small_at u hu
  have Hi := Lib.hid hi; clear hi
  have Hsz := Lib.hid hsz; clear hsz
  go_enter Tryz.func112, Tryz.ntmps112
  go_wp2_with (first
    | (go_at_call 57; refine (hsm _).mono ?_; rintro e w' ⟨rfl, rfl⟩)
    | (at_builtin; refine wpList_append_M _ rfl _ _ 128 9 rfl B i0 Tryz.underlying128 Hi.out hz hs hy v n xs rfl hown (.string ⟨(Lib.decDigits u).toArray⟩) (Lib.decDigits u).length (Lib.byteCells (Lib.decDigits u)) rfl (.inl ⟨_, rfl, Tryz.underlying9, Hsz.out.symm, rfl⟩) (by omega) hB ?_; intro v2 w2 hown2 hg2))
  go_ret
  exact ⟨v2, rfl, hown2, hg2⟩

set_option maxHeartbeats 2000000 in
set_option maxRecDepth 100000 in
theorem uint_many (B n u : Nat) (hu : 100 ≤ u) (hu64 : u < 18446744073709551616) (v : Value) (xs : List Value) (w : World) (hown : RowM w B v n xs) (hB : B ≤ w.heap.size) (hl : n + 20 ≤ 140737488355328)
    (htab : Lib.TabIs Tryz.prog w "internal/strconv.uint64pow10" .u64 Lib.pow10Tab) :
    Calls Tryz.prog 112 #[v, .int .u64 u, .int .i64 10] w fun e w' => ∃ v', e = .returned v' ∧ RowM w' B v' (n + (Lib.decDigits u).length) (xs ++ Lib.byteCells (Lib.decDigits u)) ∧ GrowM w w' v v' := by
  obtain ⟨i0, hi, hz, hs, hy⟩ := info_u8
  have hu1 : 1 ≤ u := by omega
  have hnd : Lib.nDigits u ≤ 20 := by have := Lib.numDigits_eq u hu1 hu64; split at this <;> omega
  have hal : Tryz.prog.arrayLen 125 = 24 := by kernel_rfl
  have hsl : ∀ W, (Instr.sliceAt 125 (.pointer (some ⟨w.heap.size, 0, none⟩)) none (some (.int .i64 (Lib.nDigits u : Int))) none).run Tryz.prog W = .ok (.slice (some ⟨w.heap.size, 0, none⟩) (Lib.nDigits u) 24) W := fun W => by
    rw [run_sliceAt_array_h W 125 ⟨w.heap.size, 0, none⟩ (by simp [Program.arrayLen, Program.elem, Tryz.underlying109]) .i64 (Lib.nDigits u : Int) (by omega) (by rw [hal]; omega)]
    go_simp
  have hH0 := Lib.holds_zero0 w 125 (Lib.nDigits u) (by omega)
  have hfmt := Any.internal_strconv_formatBase10 { Tryz.laysM176 with } w.heap.size 0 24 u (Array.replicate (Lib.nDigits u) 0) (w.alloc (.cells Lib.zeros24 125)) hH0 (by rw [Array.size_replicate]; exact Lib.lt_pow_nDigits u) hu64 (by rw [Array.size_replicate]; omega)
  rw [Array.size_replicate] at hfmt
  have hfmt : Calls Tryz.prog 59 #[.slice (some ⟨w.heap.size, 0, none⟩) (Lib.nDigits u) 24, .int .u64 u] (w.alloc (.cells Lib.zeros24 125)) fun e w' => e = .returned (.tuple #[]) ∧ Below w.heap.size w w' ∧ ∀ j y, (Lib.byteCells (Lib.decDigits u))[j]? = some y → w'.cell? ((⟨w.heap.size, 0, none⟩ : Addr).add j) = some y := by
    refine Calls.mono (show Calls Tryz.prog 59 _ _ _ from hfmt) ?_
    rintro e w' ⟨rfl, k, v', dk, rfl, hF⟩
    refine ⟨rfl, ?_, fun j y hj => ?_⟩
    · obtain ⟨os, eo⟩ := Lib.fin_at w (.cells Lib.zeros24 125) dk k 0
      rw [eo]; exact Lib.below_grow w.heap.size w (Nat.le_refl _) k os
    · have hjl : j < (Lib.decDigits u).length := by
        have h5 := (List.getElem?_eq_some_iff.1 hj).1
        rwa [Lib.byteCells_length] at h5
      have e5 : (Lib.byteCells (Lib.decDigits u))[j]? = some (Value.int .u8 ((Lib.decDigits u)[j].toNat : Int)) := by simp [Lib.byteCells, hjl]
      rw [e5] at hj
      cases hj
      rw [Lib.row_is_numeral hF j hjl, Lib.add_plain, World.cell?_drewN]
      exact Sort.cell?_putRow (fun (b : UInt8) => Value.int .u8 (b.toNat : Int)) _ w.heap.size 0 _ dk hH0 (by rw [hF.size, Array.size_replicate]) j (by rw [hF.size]; rw [Lib.decDigits_length] at hjl; exact hjl)
  have hnn := fun W h => nDigits_at u hu1 hu64 W h
  have Htab := Lib.hid htab; clear htab
  have Hi := Lib.hid hi; clear hi
  have Hf := Lib.hid hfmt; clear hfmt
  have Hown := Lib.hid hown; clear hown
  have iu : (100 : Int) ≤ (u : Int) := by omega
  clear hH0 hal
  go_enter Tryz.func112, Tryz.ntmps112
  go_wp2_with (first
    | (go_at_call 58; refine (hnn _ (Lib.tabIs_alloc Htab.out _)).mono ?_; rintro e w' ⟨rfl, rfl⟩)
    | (go_at_call 59; refine Hf.out.mono ?_; rintro e w' ⟨rfl, hb2, hc2⟩; have Hb2 := Lib.hid hb2; clear hb2; have Hc2 := Lib.hid hc2; clear hc2)
    | (at_builtin; refine wpList_append_M _ rfl _ _ 128 128 rfl B i0 Tryz.underlying128 Hi.out hz hs hy v n xs rfl (below_old Hb2.out Hown.out) (.slice (some ⟨w.heap.size, 0, none⟩) (Lib.nDigits u) 24) (Lib.nDigits u) (Lib.byteCells (Lib.decDigits u)) rfl (.inr ⟨rfl, _, _, rfl, ?c0, ?c1, Hc2.out⟩) (by omega) (by have := Hb2.out.size; omega) ?_))
  case c0 => rw [Lib.byteCells_length, Lib.decDigits_length]
  case c1 => intro y hy; simp only [Lib.byteCells, List.mem_map] at hy; obtain ⟨b, _, rfl⟩ := hy; rfl
  intro v2 w2 hown2 hg2
  go_wp2
  go_ret
  rw [Lib.decDigits_length]
  exact ⟨v2, rfl, hown2, GrowM.idle Hb2.out hg2⟩

theorem uint_any (B n u : Nat) (hu64 : u < 18446744073709551616) (v : Value) (xs : List Value) (w : World) (hown : RowM w B v n xs) (hB : B ≤ w.heap.size) (hl : n + 20 ≤ 140737488355328)
    (htab : Lib.TabIs Tryz.prog w "internal/strconv.uint64pow10" .u64 Lib.pow10Tab) :
    Calls Tryz.prog 112 #[v, .int .u64 u, .int .i64 10] w fun e w' => ∃ v', e = .returned v' ∧ RowM w' B v' (n + (Lib.decDigits u).length) (xs ++ Lib.byteCells (Lib.decDigits u)) ∧ GrowM w w' v v' := by
  by_cases h : u < 100
  · exact uint_few B n u h v xs w hown hB hl
  · exact uint_many B n u (by omega) hu64 v xs w hown hB hl htab

end Go.Proofs.YteijhcibdglkeaaGreatDoor
