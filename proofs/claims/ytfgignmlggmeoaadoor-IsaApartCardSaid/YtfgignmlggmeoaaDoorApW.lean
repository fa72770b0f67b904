/- IsaApart: the law's walk. Conditions: those stated in each theorem. -/
import Derived.Test.YtfgignmlggmeoaaDoorApM
namespace Go.Proofs.YtfgignmlggmeoaaDoor
open Go.RowKit Go.BigFrame
attribute [local go_sem ↓ high] same_self
theorem yield_undef : (yielded.match_1 (fun _ => Option Bool) (some undef) (fun b => some b) (fun _ => none)) = none := rfl
attribute [local go_sem] yield_undef

set_option maxRecDepth 100000 in
set_option maxHeartbeats 8000000 in
theorem apart_any (i : In) (x y : L8) (s t : Int) (h0 : 0 ≤ s ∧ s < 65536) (h1 : 0 ≤ t ∧ t < 65536) (hx : x.Ok) (hy : y.Ok) (w : World) (hs : Std w) :
    Calls Tryd.prog 8 #[i.val, .agg (x.cells ++ y.cells).toArray, .agg #[.int .u16 s, .int .u16 t]] w fun e w' => e = .returned (.bool true) ∧ Below w.heap.size w w' := by
  obtain ⟨op, a, b, c, m⟩ := i
  have HN := Lib.hid (ABx.start hs op a b c m x y s t)
  have HS := Lib.hid hs; clear hs
  have ws : IntKind.i64.wrap s = s := by rw [IntKind.wrap_i64]; omega
  have wt : IntKind.i64.wrap t = t := by rw [IntKind.wrap_i64]; omega
  have rs : s.tmod 1024 = s % 1024 := Int.tmod_eq_emod_of_nonneg h0.1
  have rt : t.tmod 1024 = t % 1024 := Int.tmod_eq_emod_of_nonneg h1.1
  have hd := fun W (hW : Std W) => do_any ⟨op, a, b, c, m⟩ x (s % 1024) W hW.forms hx
  have hl := named_any op
  unfold NamedOut at hl
  generalize he : doP ⟨op, a, b, c, m⟩ x (s % 1024) = e at hd
  generalize hl0 : nmP op 1 = l0 at hl
  generalize hl1 : nmP op 2 = l1 at hl
  generalize hl2 : nmP op 3 = l2 at hl
  obtain ⟨e0, e1, e2, e3, e4⟩ := e
  simp only [In.val, L8.val, Ef.value] at hd
  have HD := Lib.hid hd; clear hd
  have HLn := Lib.hid hl; clear hl
  have HE := Lib.hid he; clear he
  have HL0 := Lib.hid hl0; clear hl0
  have HL1 := Lib.hid hl1; clear hl1
  have HL2 := Lib.hid hl2; clear hl2
  go_enter Tryd.func8, Tryd.ntmps8
  unfold In.val L8.cells
  go_upto_region 4 with (go_at_call 21; refine (alive_any _ HN.out.std).mono ?_; rintro e w2 ⟨rfl, hb2⟩; have hn := HN.out.next hb2; clear HN hb2; have HN := Lib.hid hn; clear hn)
  have hn := HN.out
  have t0 := hn.ats.cell (i := 0) rfl
  have t1 := hn.ats.cell (i := 1) rfl
  generalize hq : w.heap.size = q at *
  clear hn
  go_region
  have hn := HN.out.next (below_drew1 (Below.refl _ w2))
  clear HN t0 t1 ws wt rs rt
  have i0 := hn.ins.cell (i := 0) rfl
  have i1 := hn.ins.cell (i := 1) rfl
  have i2 := hn.ins.cell (i := 2) rfl
  have i3 := hn.ins.cell (i := 3) rfl
  have i4 := hn.ins.cell (i := 4) rfl
  have c0 := hn.regs.cell (i := 0) rfl
  have c1 := hn.regs.cell (i := 1) rfl
  have c2 := hn.regs.cell (i := 2) rfl
  have c3 := hn.regs.cell (i := 3) rfl
  have c4 := hn.regs.cell (i := 4) rfl
  have c5 := hn.regs.cell (i := 5) rfl
  have c6 := hn.regs.cell (i := 6) rfl
  have c7 := hn.regs.cell (i := 7) rfl
  have HN := Lib.hid hn; clear hn
  go_upto_region 6 with (go_at_call 10; refine (HD.out _ HN.out.std).mono ?_; rintro e w3 ⟨rfl, hb⟩; have hn := HN.out.next hb; clear HN hb; have HN := Lib.hid hn; clear hn)
  clear i0 i1 i2 i3 i4 c0 c1 c2 c3 c4 c5 c6 c7
  have hE : Holds (w3.alloc (.cells #[.int .i64 e0, .int .i64 e1, .int .i64 e2, .int .u64 e3, .int .u64 e4] 27)) w3.heap.size 27 [.int .i64 e0, .int .i64 e1, .int .i64 e2, .int .u64 e3, .int .u64 e4] := Holds.new w3 _ _
  have hn := HN.out.next ((Below.refl _ w3).alloc (Nat.le_refl _) (.cells #[.int .i64 e0, .int .i64 e1, .int .i64 e2, .int .u64 e3, .int .u64 e4] 27))
  clear HN
  generalize w3.alloc (.cells #[.int .i64 e0, .int .i64 e1, .int .i64 e2, .int .u64 e3, .int .u64 e4] 27) = V3 at *
  generalize w3.heap.size = qe at *
  have i0 := hn.ins.cell (i := 0) rfl
  have i1 := hn.ins.cell (i := 1) rfl
  have i2 := hn.ins.cell (i := 2) rfl
  have i3 := hn.ins.cell (i := 3) rfl
  have i4 := hn.ins.cell (i := 4) rfl
  have HN := Lib.hid hn; clear hn
  have HEb := Lib.hid hE; clear hE
  go_upto_region 7 with (go_at_call 23; refine (HLn.out _).mono ?_; rintro e w4 ⟨rfl, hb⟩; have hn := HN.out.next hb; have hE := HEb.out.below hb; clear HN HEb hb; have HN := Lib.hid hn; clear hn; have HEb := Lib.hid hE; clear hE)
  clear i0 i1 i2 i3 i4
  have hL : Holds (w4.alloc (.cells #[.bool l0, .bool l1, .bool l2] 50)) w4.heap.size 50 [.bool l0, .bool l1, .bool l2] := Holds.new w4 _ _
  have hb4 := (Below.refl _ w4).alloc (Nat.le_refl _) (.cells #[.bool l0, .bool l1, .bool l2] 50)
  have hn := HN.out.next hb4
  have hE := HEb.out.below hb4
  clear HN HEb hb4
  generalize w4.alloc (.cells #[.bool l0, .bool l1, .bool l2] 50) = V4 at *
  generalize w4.heap.size = ql at *
  have i0 := hn.ins.cell (i := 0) rfl
  have i1 := hn.ins.cell (i := 1) rfl
  have i2 := hn.ins.cell (i := 2) rfl
  have i3 := hn.ins.cell (i := 3) rfl
  have i4 := hn.ins.cell (i := 4) rfl
  have y0 := hn.regs.cell (i := 8) rfl
  have y1 := hn.regs.cell (i := 9) rfl
  have y2 := hn.regs.cell (i := 10) rfl
  have y3 := hn.regs.cell (i := 11) rfl
  have y4 := hn.regs.cell (i := 12) rfl
  have y5 := hn.regs.cell (i := 13) rfl
  have y6 := hn.regs.cell (i := 14) rfl
  have y7 := hn.regs.cell (i := 15) rfl
  have HN := Lib.hid hn; clear hn
  have HEb := Lib.hid hE; clear hE
  have HLb := Lib.hid hL; clear hL
  go_upto_region 8 with (fail)
  clear i0 i1 i2 i3 i4 y0 y1 y2 y3 y4 y5 y6 y7
  have HG : w.heap.size ≤ V4.heap.size := HN.out.below.size
  have hR : Holds (V4.alloc (.cells #[.int .u64 y.x0, .int .u64 y.x1, .int .u64 y.x2, .int .u64 y.x3, .int .u64 y.x4, .int .u64 y.x5, .int .u64 y.x6, .int .u64 y.x7] 25)) V4.heap.size 25 [.int .u64 y.x0, .int .u64 y.x1, .int .u64 y.x2, .int .u64 y.x3, .int .u64 y.x4, .int .u64 y.x5, .int .u64 y.x6, .int .u64 y.x7] := Holds.new V4 _ _
  have hb5 := (Below.refl _ V4).alloc (Nat.le_refl _) (.cells #[.int .u64 y.x0, .int .u64 y.x1, .int .u64 y.x2, .int .u64 y.x3, .int .u64 y.x4, .int .u64 y.x5, .int .u64 y.x6, .int .u64 y.x7] 25)
  have hn := HN.out.next hb5
  have hE := HEb.out.below hb5
  have hL := HLb.out.below hb5
  clear HN HEb HLb hb5
  generalize V4.alloc (.cells #[.int .u64 y.x0, .int .u64 y.x1, .int .u64 y.x2, .int .u64 y.x3, .int .u64 y.x4, .int .u64 y.x5, .int .u64 y.x6, .int .u64 y.x7] 25) = V5 at *
  generalize V4.heap.size = qr at *
  have i0 := hn.ins.cell (i := 0) rfl
  have i1 := hn.ins.cell (i := 1) rfl
  have i2 := hn.ins.cell (i := 2) rfl
  have i3 := hn.ins.cell (i := 3) rfl
  have i4 := hn.ins.cell (i := 4) rfl
  have HN := Lib.hid hn; clear hn
  have HEb := Lib.hid hE; clear hE
  have HLb := Lib.hid hL; clear hL
  have HRb := Lib.hid hR; clear hR
  go_upto_region 9 with (fail)
  clear i0 i1 i2 i3 i4
  have hM : Holds (V5.alloc (.cells #[.int .i64 a, .int .i64 b, .int .i64 c] 52)) V5.heap.size 52 [.int .i64 a, .int .i64 b, .int .i64 c] := Holds.new V5 _ _
  have hb6 := (Below.refl _ V5).alloc (Nat.le_refl _) (.cells #[.int .i64 a, .int .i64 b, .int .i64 c] 52)
  have hn := HN.out.next hb6
  have hE := HEb.out.below hb6
  have hL := HLb.out.below hb6
  have hR := HRb.out.below hb6
  have hne : w.heap.size ≤ qr := HG
  clear HN HEb HLb HRb hb6
  generalize V5.alloc (.cells #[.int .i64 a, .int .i64 b, .int .i64 c] 52) = V6 at *
  generalize V5.heap.size = qn at *
  have HA := Lib.hid (⟨hn, hE, hL, hM, hR, hne, hy, fun k hk => absurd hk (by omega)⟩ : ABm w q qe ql qn qr ⟨op, a, b, c, m⟩ x y s t ⟨e0, e1, e2, e3, e4⟩ l0 l1 l2 0 y V6)
  clear hn hE hL hM hR hne
  go_wp2_with fail
  go_loopw [14] (fun k14 wr => ∃ k : Nat, k ≤ 3 ∧ k14 = .int .i64 k ∧ ∃ z, ABm w q qe ql qn qr ⟨op, a, b, c, m⟩ x y s t ⟨e0, e1, e2, e3, e4⟩ l0 l1 l2 k z wr) (fun i _ => 3 - (intOf i).toNat)
  case atStart => exact ⟨0, by omega, rfl, y, HA.out⟩
  case round =>
    obtain ⟨k, hk, rfl, z, ha⟩ := hrel
    clear HA
    by_cases hlt : k < 3
    · have hk3 : k = 0 ∨ k = 1 ∨ k = 2 := by omega
      rcases hk3 with rfl | rfl | rfl
      · have n0 : wr.cell? ⟨ql, 0, none⟩ = some (.bool l0) := ha.nam.cell (i := 0) rfl
        have m0 : wr.cell? ⟨qn, 0, none⟩ = some (.int .i64 a) := ha.num.cell (i := 0) rfl
        by_cases hl : l0 = true
        · rw [hl] at n0
          by_cases hlo : 0 ≤ a
          · by_cases hhi : a < 8
            · obtain ⟨n, hn⟩ := Int.eq_ofNat_of_zero_le hlo
              have hn8 : n < 8 := by omega
              have hz : Hid (ABm w q qe ql qn qr ⟨op, a, b, c, m⟩ x y s t ⟨e0, e1, e2, e3, e4⟩ l0 l1 l2 1 (z.set n (x.get n)) (wr.setCell ⟨qr, n, none⟩ (.int .u64 (x.get n)))) := Lib.hid (ha.put HS.out hx hn8 hn)
              rw [hn] at m0
              have d0 : (0 : Int) ≤ n := by omega
              have d1 : (n : Int) < 8 := by omega
              have xc : wr.cell? ⟨q + 1, n, none⟩ = some (.int .u64 (x.get n)) := ha.base.regs.cell (i := n) (by rw [List.getElem?_append_left (by simpa [L8.cells] using hn8)]; exact x.cell_get hn8)
              have zc : wr.cell? ⟨qr, n, none⟩ = some (.int .u64 (z.get n)) := ha.row.cell (i := n) (z.cell_get hn8)
              have zf := ha.row.free n
              clear ha hlo hhi hl hn
              go_upto_region 13 with fail
              go_region
              go_wp2
              go_roundw
              case rel => exact ⟨1, by omega, by simp, z.set n (x.get n), hz.out.next (below_drew1 (Below.refl _ _))⟩
              case measure => simp [intOf]
            · have d0 : (0 : Int) ≤ a := hlo
              have d1 : decide (a < 8) = false := by simpa using hhi
              have hz := Lib.hid (ha.skip (by simp [In.get]; omega))
              clear ha hlo hhi hl
              go_wp2
              go_roundw
              case rel => exact ⟨1, by omega, by simp, z, hz.out⟩
              case measure => simp [intOf]
          · have d0 : decide (0 ≤ a) = false := by simpa using hlo
            have d1 : a < 0 := by omega
            have hz := Lib.hid (ha.skip (by simp [In.get]; omega))
            clear ha hlo hl
            go_wp2
            go_roundw
            case rel => exact ⟨1, by omega, by simp, z, hz.out⟩
            case measure => simp [intOf]
        · have hl' : l0 = false := by simpa using hl
          rw [hl'] at n0
          have hz := Lib.hid (ha.skip (by simp [hl']))
          clear ha hl hl'
          go_wp2
          go_roundw
          case rel => exact ⟨1, by omega, by simp, z, hz.out⟩
          case measure => simp [intOf]
      · have n0 : wr.cell? ⟨ql, 1, none⟩ = some (.bool l1) := ha.nam.cell (i := 1) rfl
        have m0 : wr.cell? ⟨qn, 1, none⟩ = some (.int .i64 b) := ha.num.cell (i := 1) rfl
        by_cases hl : l1 = true
        · rw [hl] at n0
          by_cases hlo : 0 ≤ b
          · by_cases hhi : b < 8
            · obtain ⟨n, hn⟩ := Int.eq_ofNat_of_zero_le hlo
              have hn8 : n < 8 := by omega
              have hz : Hid (ABm w q qe ql qn qr ⟨op, a, b, c, m⟩ x y s t ⟨e0, e1, e2, e3, e4⟩ l0 l1 l2 2 (z.set n (x.get n)) (wr.setCell ⟨qr, n, none⟩ (.int .u64 (x.get n)))) := Lib.hid (ha.put HS.out hx hn8 hn)
              rw [hn] at m0
              have d0 : (0 : Int) ≤ n := by omega
              have d1 : (n : Int) < 8 := by omega
              have xc : wr.cell? ⟨q + 1, n, none⟩ = some (.int .u64 (x.get n)) := ha.base.regs.cell (i := n) (by rw [List.getElem?_append_left (by simpa [L8.cells] using hn8)]; exact x.cell_get hn8)
              have zc : wr.cell? ⟨qr, n, none⟩ = some (.int .u64 (z.get n)) := ha.row.cell (i := n) (z.cell_get hn8)
              have zf := ha.row.free n
              clear ha hlo hhi hl hn
              go_upto_region 13 with fail
              go_region
              go_wp2
              go_roundw
              case rel => exact ⟨2, by omega, by simp, z.set n (x.get n), hz.out.next (below_drew1 (Below.refl _ _))⟩
              case measure => simp [intOf]
            · have d0 : (0 : Int) ≤ b := hlo
              have d1 : decide (b < 8) = false := by simpa using hhi
              have hz := Lib.hid (ha.skip (by simp [In.get]; omega))
              clear ha hlo hhi hl
              go_wp2
              go_roundw
              case rel => exact ⟨2, by omega, by simp, z, hz.out⟩
              case measure => simp [intOf]
          · have d0 : decide (0 ≤ b) = false := by simpa using hlo
            have d1 : b < 0 := by omega
            have hz := Lib.hid (ha.skip (by simp [In.get]; omega))
            clear ha hlo hl
            go_wp2
            go_roundw
            case rel => exact ⟨2, by omega, by simp, z, hz.out⟩
            case measure => simp [intOf]
        · have hl' : l1 = false := by simpa using hl
          rw [hl'] at n0
          have hz := Lib.hid (ha.skip (by simp [hl']))
          clear ha hl hl'
          go_wp2
          go_roundw
          case rel => exact ⟨2, by omega, by simp, z, hz.out⟩
          case measure => simp [intOf]
      · have n0 : wr.cell? ⟨ql, 2, none⟩ = some (.bool l2) := ha.nam.cell (i := 2) rfl
        have m0 : wr.cell? ⟨qn, 2, none⟩ = some (.int .i64 c) := ha.num.cell (i := 2) rfl
        by_cases hl : l2 = true
        · rw [hl] at n0
          by_cases hlo : 0 ≤ c
          · by_cases hhi : c < 8
            · obtain ⟨n, hn⟩ := Int.eq_ofNat_of_zero_le hlo
              have hn8 : n < 8 := by omega
              have hz : Hid (ABm w q qe ql qn qr ⟨op, a, b, c, m⟩ x y s t ⟨e0, e1, e2, e3, e4⟩ l0 l1 l2 3 (z.set n (x.get n)) (wr.setCell ⟨qr, n, none⟩ (.int .u64 (x.get n)))) := Lib.hid (ha.put HS.out hx hn8 hn)
              rw [hn] at m0
              have d0 : (0 : Int) ≤ n := by omega
              have d1 : (n : Int) < 8 := by omega
              have xc : wr.cell? ⟨q + 1, n, none⟩ = some (.int .u64 (x.get n)) := ha.base.regs.cell (i := n) (by rw [List.getElem?_append_left (by simpa [L8.cells] using hn8)]; exact x.cell_get hn8)
              have zc : wr.cell? ⟨qr, n, none⟩ = some (.int .u64 (z.get n)) := ha.row.cell (i := n) (z.cell_get hn8)
              have zf := ha.row.free n
              clear ha hlo hhi hl hn
              go_upto_region 13 with fail
              go_region
              go_wp2
              go_roundw
              case rel => exact ⟨3, by omega, by simp, z.set n (x.get n), hz.out.next (below_drew1 (Below.refl _ _))⟩
              case measure => simp [intOf]
            · have d0 : (0 : Int) ≤ c := hlo
              have d1 : decide (c < 8) = false := by simpa using hhi
              have hz := Lib.hid (ha.skip (by simp [In.get]; omega))
              clear ha hlo hhi hl
              go_wp2
              go_roundw
              case rel => exact ⟨3, by omega, by simp, z, hz.out⟩
              case measure => simp [intOf]
          · have d0 : decide (0 ≤ c) = false := by simpa using hlo
            have d1 : c < 0 := by omega
            have hz := Lib.hid (ha.skip (by simp [In.get]; omega))
            clear ha hlo hl
            go_wp2
            go_roundw
            case rel => exact ⟨3, by omega, by simp, z, hz.out⟩
            case measure => simp [intOf]
        · have hl' : l2 = false := by simpa using hl
          rw [hl'] at n0
          have hz := Lib.hid (ha.skip (by simp [hl']))
          clear ha hl hl'
          go_wp2
          go_roundw
          case rel => exact ⟨3, by omega, by simp, z, hz.out⟩
          case measure => simp [intOf]
    · obtain rfl : k = 3 := by omega
      have hsame := ha.same HL0.out HL1.out HL2.out (s % 1024)
      have hdz := fun W (hW : Std W) => do_any ⟨op, a, b, c, m⟩ z (s % 1024) W hW.forms ha.ok
      rw [hsame, HE.out] at hdz
      simp only [In.val, L8.val, Ef.value] at hdz
      have HDz := Lib.hid hdz; clear hdz hsame
      have i0 := ha.base.ins.cell (i := 0) rfl
      have i1 := ha.base.ins.cell (i := 1) rfl
      have i2 := ha.base.ins.cell (i := 2) rfl
      have i3 := ha.base.ins.cell (i := 3) rfl
      have i4 := ha.base.ins.cell (i := 4) rfl
      have c0 := ha.row.cell (i := 0) rfl
      have c1 := ha.row.cell (i := 1) rfl
      have c2 := ha.row.cell (i := 2) rfl
      have c3 := ha.row.cell (i := 3) rfl
      have c4 := ha.row.cell (i := 4) rfl
      have c5 := ha.row.cell (i := 5) rfl
      have c6 := ha.row.cell (i := 6) rfl
      have c7 := ha.row.cell (i := 7) rfl
      have HA := Lib.hid ha; clear ha
      go_upto_region 15 with (go_at_call 10; refine (HDz.out _ HA.out.base.std).mono ?_; rintro e w7 ⟨rfl, hb⟩; have ha := HA.out.next hb; clear HA hb; have HA := Lib.hid ha; clear ha)
      have hF : Holds (w7.alloc (.cells #[.int .i64 e0, .int .i64 e1, .int .i64 e2, .int .u64 e3, .int .u64 e4] 27)) w7.heap.size 27 [.int .i64 e0, .int .i64 e1, .int .i64 e2, .int .u64 e3, .int .u64 e4] := Holds.new w7 _ _
      have ha := HA.out.next ((Below.refl _ w7).alloc (Nat.le_refl _) (.cells #[.int .i64 e0, .int .i64 e1, .int .i64 e2, .int .u64 e3, .int .u64 e4] 27))
      clear HA i0 i1 i2 i3 i4 c0 c1 c2 c3 c4 c5 c6 c7
      generalize w7.alloc (.cells #[.int .i64 e0, .int .i64 e1, .int .i64 e2, .int .u64 e3, .int .u64 e4] 27) = V8 at *
      generalize w7.heap.size = qf at *
      have i0 := ha.base.ins.cell (i := 0) rfl
      have i1 := ha.base.ins.cell (i := 1) rfl
      have i2 := ha.base.ins.cell (i := 2) rfl
      have i3 := ha.base.ins.cell (i := 3) rfl
      have i4 := ha.base.ins.cell (i := 4) rfl
      have HA := Lib.hid ha; clear ha
      have HF := Lib.hid hF; clear hF
      go_upto_region 16 with (fail)
      clear i0 i1 i2 i3 i4
      have hJ : Holds (V8.alloc (.cells #[.int .i64 op, .int .i64 a, .int .i64 b, .int .i64 c, .int .i64 m] 23)) V8.heap.size 23 [.int .i64 op, .int .i64 a, .int .i64 b, .int .i64 c, .int .i64 m] := Holds.new V8 _ _
      have hb8 := (Below.refl _ V8).alloc (Nat.le_refl _) (.cells #[.int .i64 op, .int .i64 a, .int .i64 b, .int .i64 c, .int .i64 m] 23)
      have hj : AJm w q qe ql qf V8.heap.size ⟨op, a, b, c, m⟩ x y s t ⟨e0, e1, e2, e3, e4⟩ l0 l1 l2 a b c (V8.alloc (.cells #[.int .i64 op, .int .i64 a, .int .i64 b, .int .i64 c, .int .i64 m] 23)) :=
        ⟨HA.out.base.next hb8, HA.out.eff.below hb8, HA.out.nam.below hb8, HF.out.below hb8, hJ, HA.out.base.below.size, Nat.ne_of_lt HA.out.base.ins.lt⟩
      clear HA HF hJ hb8
      generalize V8.alloc (.cells #[.int .i64 op, .int .i64 a, .int .i64 b, .int .i64 c, .int .i64 m] 23) = V9 at *
      generalize V8.heap.size = qj at *
      have n0 := hj.nam.cell (i := 0) rfl
      have HJ0 := Lib.hid hj; clear hj
      go_cut [83] from 81 to 83 (fun v wx => v = .bool (!l0) ∧ AJm w q qe ql qf qj ⟨op, a, b, c, m⟩ x y s t ⟨e0, e1, e2, e3, e4⟩ l0 l1 l2 a b c wx)
      case first =>
        go_wp2_with fail
        go_meet
        case rel => exact ⟨rfl, HJ0.out⟩
      case rest =>
      clear n0 HJ0
      obtain ⟨hv, hj⟩ := hcut
      obtain ⟨v0, rfl, hv0⟩ : ∃ v : Bool, _ = Value.bool v ∧ v = !l0 := ⟨_, hv, rfl⟩
      clear hv
      have HJ0 := Lib.hid hj; clear hj
      have HV0 := Lib.hid hv0; clear hv0
      go_upto_if 83 with (fail)
      go_cut [83] from 84 to 84 (fun _ wx => AJm w q qe ql qf qj ⟨op, a, b, c, m⟩ x y s t ⟨e0, e1, e2, e3, e4⟩ l0 l1 l2 (if l0 = true then a else 77) b c wx)
      case first =>
        have k1 := HJ0.out.oth.cell (i := 1) rfl
        have kf := HJ0.out.oth.free 1
        cases v0 with
        | true =>
          have hl := not_tt HV0.out
          go_wp2_with fail
          go_meet
          case rel => rw [show (if l0 = true then a else 77) = 77 from if_neg (by rw [hl]; decide)]; exact HJ0.out.put HS.out 1 _ rfl
        | false =>
          have hl := not_ff HV0.out
          go_wp2_with fail
          go_meet
          case rel => rw [show (if l0 = true then a else 77) = a from if_pos hl]; exact HJ0.out
      case rest =>
      have hj := hcut; clear hcut HJ0 HV0
      go_upto_region 18 with (fail)
      have n1 := hj.nam.cell (i := 1) rfl
      have HJ1 := Lib.hid hj; clear hj
      go_cut [87] from 85 to 87 (fun v wx => v = .bool (!l1) ∧ AJm w q qe ql qf qj ⟨op, a, b, c, m⟩ x y s t ⟨e0, e1, e2, e3, e4⟩ l0 l1 l2 (if l0 = true then a else 77) b c wx)
      case first =>
        go_wp2_with fail
        go_meet
        case rel => exact ⟨rfl, HJ1.out⟩
      case rest =>
      clear n1 HJ1
      obtain ⟨hv, hj⟩ := hcut
      obtain ⟨v1, rfl, hv1⟩ : ∃ v : Bool, _ = Value.bool v ∧ v = !l1 := ⟨_, hv, rfl⟩
      clear hv
      have HJ1 := Lib.hid hj; clear hj
      have HV1 := Lib.hid hv1; clear hv1
      go_upto_if 87 with (fail)
      go_cut [87] from 88 to 88 (fun _ wx => AJm w q qe ql qf qj ⟨op, a, b, c, m⟩ x y s t ⟨e0, e1, e2, e3, e4⟩ l0 l1 l2 (if l0 = true then a else 77) (if l1 = true then b else -3) c wx)
      case first =>
        have k1 := HJ1.out.oth.cell (i := 2) rfl
        have kf := HJ1.out.oth.free 2
        cases v1 with
        | true =>
          have hl := not_tt HV1.out
          go_wp2_with fail
          go_meet
          case rel => rw [show (if l1 = true then b else -3) = -3 from if_neg (by rw [hl]; decide)]; exact HJ1.out.put HS.out 2 _ rfl
        | false =>
          have hl := not_ff HV1.out
          go_wp2_with fail
          go_meet
          case rel => rw [show (if l1 = true then b else -3) = b from if_pos hl]; exact HJ1.out
      case rest =>
      have hj := hcut; clear hcut HJ1 HV1
      go_upto_region 20 with (fail)
      have n2 := hj.nam.cell (i := 2) rfl
      have HJ2 := Lib.hid hj; clear hj
      go_cut [91] from 89 to 91 (fun v wx => v = .bool (!l2) ∧ AJm w q qe ql qf qj ⟨op, a, b, c, m⟩ x y s t ⟨e0, e1, e2, e3, e4⟩ l0 l1 l2 (if l0 = true then a else 77) (if l1 = true then b else -3) c wx)
      case first =>
        go_wp2_with fail
        go_meet
        case rel => exact ⟨rfl, HJ2.out⟩
      case rest =>
      clear n2 HJ2
      obtain ⟨hv, hj⟩ := hcut
      obtain ⟨v2, rfl, hv2⟩ : ∃ v : Bool, _ = Value.bool v ∧ v = !l2 := ⟨_, hv, rfl⟩
      clear hv
      have HJ2 := Lib.hid hj; clear hj
      have HV2 := Lib.hid hv2; clear hv2
      go_upto_if 91 with (fail)
      go_cut [91] from 92 to 92 (fun _ wx => AJm w q qe ql qf qj ⟨op, a, b, c, m⟩ x y s t ⟨e0, e1, e2, e3, e4⟩ l0 l1 l2 (if l0 = true then a else 77) (if l1 = true then b else -3) (if l2 = true then c else 8) wx)
      case first =>
        have k1 := HJ2.out.oth.cell (i := 3) rfl
        have kf := HJ2.out.oth.free 3
        cases v2 with
        | true =>
          have hl := not_tt HV2.out
          go_wp2_with fail
          go_meet
          case rel => rw [show (if l2 = true then c else 8) = 8 from if_neg (by rw [hl]; decide)]; exact HJ2.out.put HS.out 3 _ rfl
        | false =>
          have hl := not_ff HV2.out
          go_wp2_with fail
          go_meet
          case rel => rw [show (if l2 = true then c else 8) = c from if_pos hl]; exact HJ2.out
      case rest =>
      have hj := hcut; clear hcut HJ2 HV2
      go_upto_region 22 with (fail)
      obtain ⟨aj, haj⟩ : ∃ v, (if l0 = true then a else 77) = v := ⟨_, rfl⟩
      obtain ⟨bj, hbj⟩ : ∃ v, (if l1 = true then b else -3) = v := ⟨_, rfl⟩
      obtain ⟨cj, hcj⟩ : ∃ v, (if l2 = true then c else 8) = v := ⟨_, rfl⟩
      rw [haj, hbj, hcj] at hj
      have ja : nmP op 1 = true → aj = a := fun g => by rw [← haj, if_pos (HL0.out ▸ g)]
      have jb : nmP op 2 = true → bj = b := fun g => by rw [← hbj, if_pos (HL1.out ▸ g)]
      have jc : nmP op 3 = true → cj = c := fun g => by rw [← hcj, if_pos (HL2.out ▸ g)]
      have hLj := Lib.hid (legal_apart op a b c m aj bj cj ja jb jc)
      have hdj := fun W (hW : Std W) => do_any ⟨op, aj, bj, cj, m⟩ x (s % 1024) W hW.forms hx
      rw [← doP_apart op a b c m aj bj cj x (s % 1024) ja jb jc, HE.out] at hdj
      have hdq := fun W (hW : Std W) => do_any ⟨op, a, b, c, m⟩ x (t % 1024) W hW.forms hx
      have hpl := doP_place ⟨op, a, b, c, m⟩ x (s % 1024) (t % 1024) (by omega) (by omega)
      have hnx := doP_next ⟨op, a, b, c, m⟩ x (p := t % 1024) (by omega)
      rw [HE.out] at hpl
      generalize doP ⟨op, a, b, c, m⟩ x (t % 1024) = g at hdq hpl hnx
      obtain ⟨g0, g1, g2, g3, g4⟩ := g
      simp only [In.val, L8.val, Ef.value] at hdj hdq
      have HDj := Lib.hid hdj; clear hdj
      have HDq := Lib.hid hdq; clear hdq
      have HPL := Lib.hid hpl; clear hpl
      have HNX := Lib.hid hnx; clear hnx
      clear haj hbj hcj ja jb jc
      have HK := Lib.hid hj; clear hj
      have j0 := HK.out.oth.cell (i := 0) rfl
      have j1 := HK.out.oth.cell (i := 1) rfl
      have j2 := HK.out.oth.cell (i := 2) rfl
      have j3 := HK.out.oth.cell (i := 3) rfl
      have j4 := HK.out.oth.cell (i := 4) rfl
      have c0 := HK.out.base.regs.cell (i := 0) rfl
      have c1 := HK.out.base.regs.cell (i := 1) rfl
      have c2 := HK.out.base.regs.cell (i := 2) rfl
      have c3 := HK.out.base.regs.cell (i := 3) rfl
      have c4 := HK.out.base.regs.cell (i := 4) rfl
      have c5 := HK.out.base.regs.cell (i := 5) rfl
      have c6 := HK.out.base.regs.cell (i := 6) rfl
      have c7 := HK.out.base.regs.cell (i := 7) rfl
      go_upto_region 23 with (go_at_call 10; refine (HDj.out _ HK.out.base.std).mono ?_; rintro e wa ⟨rfl, hb⟩; have hj := HK.out.next hb; clear HK hb; have HK := Lib.hid hj; clear hj)
      clear j0 j1 j2 j3 j4 c0 c1 c2 c3 c4 c5 c6 c7
      have hG : Holds (wa.alloc (.cells #[.int .i64 e0, .int .i64 e1, .int .i64 e2, .int .u64 e3, .int .u64 e4] 27)) wa.heap.size 27 [.int .i64 e0, .int .i64 e1, .int .i64 e2, .int .u64 e3, .int .u64 e4] := Holds.new wa _ _
      have hj := HK.out.next ((Below.refl _ wa).alloc (Nat.le_refl _) (.cells #[.int .i64 e0, .int .i64 e1, .int .i64 e2, .int .u64 e3, .int .u64 e4] 27))
      clear HK
      generalize wa.alloc (.cells #[.int .i64 e0, .int .i64 e1, .int .i64 e2, .int .u64 e3, .int .u64 e4] 27) = Va at *
      generalize wa.heap.size = qg at *
      have HK := Lib.hid hj; clear hj
      have HG := Lib.hid hG; clear hG
      have i0 := HK.out.base.ins.cell (i := 0) rfl
      have i1 := HK.out.base.ins.cell (i := 1) rfl
      have i2 := HK.out.base.ins.cell (i := 2) rfl
      have i3 := HK.out.base.ins.cell (i := 3) rfl
      have i4 := HK.out.base.ins.cell (i := 4) rfl
      have c0 := HK.out.base.regs.cell (i := 0) rfl
      have c1 := HK.out.base.regs.cell (i := 1) rfl
      have c2 := HK.out.base.regs.cell (i := 2) rfl
      have c3 := HK.out.base.regs.cell (i := 3) rfl
      have c4 := HK.out.base.regs.cell (i := 4) rfl
      have c5 := HK.out.base.regs.cell (i := 5) rfl
      have c6 := HK.out.base.regs.cell (i := 6) rfl
      have c7 := HK.out.base.regs.cell (i := 7) rfl
      go_upto_region 24 with (go_at_call 10; refine (HDq.out _ HK.out.base.std).mono ?_; rintro e wb ⟨rfl, hb⟩; have hj := HK.out.next hb; have hG := HG.out.below hb; clear HK HG hb; have HK := Lib.hid hj; clear hj; have HG := Lib.hid hG; clear hG)
      clear i0 i1 i2 i3 i4 c0 c1 c2 c3 c4 c5 c6 c7
      have hH : Holds (wb.alloc (.cells #[.int .i64 g0, .int .i64 g1, .int .i64 g2, .int .u64 g3, .int .u64 g4] 27)) wb.heap.size 27 [.int .i64 g0, .int .i64 g1, .int .i64 g2, .int .u64 g3, .int .u64 g4] := Holds.new wb _ _
      have hbb := (Below.refl _ wb).alloc (Nat.le_refl _) (.cells #[.int .i64 g0, .int .i64 g1, .int .i64 g2, .int .u64 g3, .int .u64 g4] 27)
      have hk : AKm w q qe ql qf qj qg wb.heap.size ⟨op, a, b, c, m⟩ x y s t ⟨e0, e1, e2, e3, e4⟩ l0 l1 l2 aj bj cj ⟨g0, g1, g2, g3, g4⟩ (wb.alloc (.cells #[.int .i64 g0, .int .i64 g1, .int .i64 g2, .int .u64 g3, .int .u64 g4] 27)) :=
        ⟨HK.out.next hbb, HG.out.below hbb, hH, HK.out.base.below.size, Nat.ne_of_lt HK.out.eff.lt, Nat.ne_of_lt HK.out.two.lt, Nat.ne_of_lt HG.out.lt⟩
      clear HK HG hH hbb
      generalize wb.alloc (.cells #[.int .i64 g0, .int .i64 g1, .int .i64 g2, .int .u64 g3, .int .u64 g4] 27) = Vb at *
      generalize wb.heap.size = qh at *
      have HK2 := Lib.hid hk; clear hk
      have k0 := HK2.out.on.eff.cell (i := 0) rfl
      have k1 := HK2.out.on.eff.cell (i := 1) rfl
      have i4 := HK2.out.on.base.ins.cell (i := 4) rfl
      have hpw : IntKind.i64.wrap (s % 1024 + 1) = s % 1024 + 1 := by rw [IntKind.wrap_i64]; omega
      go_cut [125] from 103 to 125 (fun v wx => v = .bool (decide (e1 = s % 1024 + 1 ∧ e0 ≠ 0 ∧ ¬(e0 = 2 ∧ m = s % 1024 + 1))) ∧ AKm w q qe ql qf qj qg qh ⟨op, a, b, c, m⟩ x y s t ⟨e0, e1, e2, e3, e4⟩ l0 l1 l2 aj bj cj ⟨g0, g1, g2, g3, g4⟩ wx)
      case first =>
        by_cases h1 : e1 = s % 1024 + 1
        · have b1 : (e1 == s % 1024 + 1) = true := by simpa using h1
          by_cases h2 : e0 = 0
          · have b2 : (e0 != 0) = false := by simpa using h2
            have H1 := Lib.hid h1; clear h1
            have H2 := Lib.hid h2; clear h2
            go_wp2_with fail
            go_meet
            case rel => exact ⟨by simp [H2.out], HK2.out⟩
          · have b2 : (e0 != 0) = true := by simpa using h2
            by_cases h3 : e0 = 2
            · have b3 : (e0 == 2) = true := by simpa using h3
              by_cases h4 : m = s % 1024 + 1
              · have b4 : (m == s % 1024 + 1) = true := by simpa using h4
                have H1 := Lib.hid h1; clear h1
                have H2 := Lib.hid h2; clear h2
                have H3 := Lib.hid h3; clear h3
                have H4 := Lib.hid h4; clear h4
                go_wp2_with fail
                go_meet
                case rel => exact ⟨by simp [H3.out, H4.out], HK2.out⟩
              · have b4 : (m == s % 1024 + 1) = false := by simpa using h4
                have H1 := Lib.hid h1; clear h1
                have H2 := Lib.hid h2; clear h2
                have H3 := Lib.hid h3; clear h3
                have H4 := Lib.hid h4; clear h4
                go_wp2_with fail
                go_meet
                case rel => exact ⟨by simp [H1.out, H3.out, H4.out], HK2.out⟩
            · have b3 : (e0 == 2) = false := by simpa using h3
              have H1 := Lib.hid h1; clear h1
              have H2 := Lib.hid h2; clear h2
              have H3 := Lib.hid h3; clear h3
              go_wp2_with fail
              go_meet
              case rel => exact ⟨by simp [H1.out, H2.out, H3.out], HK2.out⟩
        · have b1 : (e1 == s % 1024 + 1) = false := by simpa using h1
          have H1 := Lib.hid h1; clear h1
          go_wp2_with fail
          go_meet
          case rel => exact ⟨by simp [H1.out], HK2.out⟩
      case rest =>
      clear k0 k1 i4 HK2
      obtain ⟨hv, hk⟩ := hcut
      obtain ⟨v, rfl, hv'⟩ : ∃ v : Bool, _ = Value.bool v ∧ v = decide (e1 = s % 1024 + 1 ∧ e0 ≠ 0 ∧ ¬(e0 = 2 ∧ m = s % 1024 + 1)) := ⟨_, hv, rfl⟩
      clear hv
      have HK2 := Lib.hid hk; clear hk
      have HV := Lib.hid hv'; clear hv'
      have hqw : IntKind.i64.wrap (t % 1024 + 1) = t % 1024 + 1 := by rw [IntKind.wrap_i64]; omega
      go_upto_if 125 with (fail)
      go_cut [125] from 126 to 134 (fun _ wx => AKm w q qe ql qf qj qg qh ⟨op, a, b, c, m⟩ x y s t ⟨e0, e1, e2, e3, e4⟩ l0 l1 l2 aj bj cj (movedP m (s % 1024) (t % 1024) ⟨e0, e1, e2, e3, e4⟩ ⟨g0, g1, g2, g3, g4⟩) wx)
      case first =>
        cases v with
        | true =>
          have hC := of_decide_eq_true HV.out.symm
          have hx1 : 0 ≤ g1 ∧ g1 ≤ 1024 := HNX.out
          have k1 := HK2.out.on.eff.cell (i := 1) rfl
          have f1 := HK2.out.four.cell (i := 1) rfl
          have ff := HK2.out.four.free 1
          have w2 : IntKind.i64.wrap (g1 - (t % 1024 + 1)) = g1 - (t % 1024 + 1) := by rw [IntKind.wrap_i64]; omega
          have w3 : IntKind.i64.wrap (e1 + (g1 - (t % 1024 + 1))) = e1 + (g1 - (t % 1024 + 1)) := by rw [IntKind.wrap_i64]; omega
          have hfin := HK2.out.put HS.out (e1 + (g1 - (t % 1024 + 1)))
          have hmv : (movedP m (s % 1024) (t % 1024) ⟨e0, e1, e2, e3, e4⟩ ⟨g0, g1, g2, g3, g4⟩) = ⟨g0, e1 + (g1 - (t % 1024 + 1)), g2, g3, g4⟩ := if_pos hC
          have HF := Lib.hid hfin; clear hfin
          have HM := Lib.hid hmv; clear hmv hx1 hC
          go_wp2_with fail
          go_meet
          case rel => rw [HM.out]; exact HF.out
        | false =>
          have hC := of_decide_eq_false HV.out.symm
          have HM := Lib.hid (show (movedP m (s % 1024) (t % 1024) ⟨e0, e1, e2, e3, e4⟩ ⟨g0, g1, g2, g3, g4⟩) = ⟨g0, g1, g2, g3, g4⟩ from if_neg hC); clear hC
          go_wp2_with fail
          go_meet
          case rel => rw [HM.out]; exact HK2.out
      case rest =>
      have hk := hcut; clear hcut HK2 HV
      go_upto_region 26 with (fail)
      have hpl : (⟨e0, e1, e2, e3, e4⟩ : Ef) = (movedP m (s % 1024) (t % 1024) ⟨e0, e1, e2, e3, e4⟩ ⟨g0, g1, g2, g3, g4⟩) ∨ (e0 = 2 ∧ (movedP m (s % 1024) (t % 1024) ⟨e0, e1, e2, e3, e4⟩ ⟨g0, g1, g2, g3, g4⟩).kind = 2 ∧ m = s % 1024 + 1) := HPL.out
      have hli := fun W (hW : Std W) => legal_any ⟨op, a, b, c, m⟩ W hW.forms
      have hlj := fun W (hW : Std W) => legal_any ⟨op, aj, bj, cj, m⟩ W hW.forms
      rw [← hLj.out] at hlj
      generalize legalP ⟨op, a, b, c, m⟩ = lg at hli hlj
      simp only [In.val] at hli hlj
      have HLi := Lib.hid hli; clear hli
      have HLj := Lib.hid hlj; clear hlj
      clear HPL hLj HDj HDq HNX HDz HD HLn HE HL0 HL1 HL2
      generalize (movedP m (s % 1024) (t % 1024) ⟨e0, e1, e2, e3, e4⟩ ⟨g0, g1, g2, g3, g4⟩) = h' at hk hpl
      obtain ⟨f0, f1, f2, f3, f4⟩ := h'
      by_cases heq : (e0, e1, e2, e3, e4) = (f0, f1, f2, f3, f4)
      · cases heq
        clear hpl
        have hP := hk.next (below_drew1 (Below.refl _ _)); clear hk
        have HKc : Hid (∀ V, AKm w q qe ql qf qj qg qh ⟨op, a, b, c, m⟩ x y s t ⟨e0, e1, e2, e3, e4⟩ l0 l1 l2 aj bj cj ⟨e0, e1, e2, e3, e4⟩ V → V.cell? ⟨qe, 0, none⟩ = some (.int .i64 e0) ∧ V.cell? ⟨qe, 1, none⟩ = some (.int .i64 e1) ∧ V.cell? ⟨qe, 2, none⟩ = some (.int .i64 e2) ∧ V.cell? ⟨qe, 3, none⟩ = some (.int .u64 e3) ∧ V.cell? ⟨qe, 4, none⟩ = some (.int .u64 e4) ∧ V.cell? ⟨qf, 0, none⟩ = some (.int .i64 e0) ∧ V.cell? ⟨qf, 1, none⟩ = some (.int .i64 e1) ∧ V.cell? ⟨qf, 2, none⟩ = some (.int .i64 e2) ∧ V.cell? ⟨qf, 3, none⟩ = some (.int .u64 e3) ∧ V.cell? ⟨qf, 4, none⟩ = some (.int .u64 e4) ∧ V.cell? ⟨qg, 0, none⟩ = some (.int .i64 e0) ∧ V.cell? ⟨qg, 1, none⟩ = some (.int .i64 e1) ∧ V.cell? ⟨qg, 2, none⟩ = some (.int .i64 e2) ∧ V.cell? ⟨qg, 3, none⟩ = some (.int .u64 e3) ∧ V.cell? ⟨qg, 4, none⟩ = some (.int .u64 e4) ∧ V.cell? ⟨qh, 0, none⟩ = some (.int .i64 e0) ∧ V.cell? ⟨qh, 1, none⟩ = some (.int .i64 e1) ∧ V.cell? ⟨qh, 2, none⟩ = some (.int .i64 e2) ∧ V.cell? ⟨qh, 3, none⟩ = some (.int .u64 e3) ∧ V.cell? ⟨qh, 4, none⟩ = some (.int .u64 e4) ∧ V.cell? ⟨q, 0, none⟩ = some (.int .i64 op) ∧ V.cell? ⟨q, 1, none⟩ = some (.int .i64 a) ∧ V.cell? ⟨q, 2, none⟩ = some (.int .i64 b) ∧ V.cell? ⟨q, 3, none⟩ = some (.int .i64 c) ∧ V.cell? ⟨q, 4, none⟩ = some (.int .i64 m) ∧ V.cell? ⟨qj, 0, none⟩ = some (.int .i64 op) ∧ V.cell? ⟨qj, 1, none⟩ = some (.int .i64 aj) ∧ V.cell? ⟨qj, 2, none⟩ = some (.int .i64 bj) ∧ V.cell? ⟨qj, 3, none⟩ = some (.int .i64 cj) ∧ V.cell? ⟨qj, 4, none⟩ = some (.int .i64 m)) := Lib.hid (fun V h => h.all)
        refine wp_region_held_drew (S := (fun V => V.cell? ⟨qe, 0, none⟩ = some (.int .i64 e0) ∧ V.cell? ⟨qe, 1, none⟩ = some (.int .i64 e1) ∧ V.cell? ⟨qe, 2, none⟩ = some (.int .i64 e2) ∧ V.cell? ⟨qe, 3, none⟩ = some (.int .u64 e3) ∧ V.cell? ⟨qe, 4, none⟩ = some (.int .u64 e4) ∧ V.cell? ⟨qf, 0, none⟩ = some (.int .i64 e0) ∧ V.cell? ⟨qf, 1, none⟩ = some (.int .i64 e1) ∧ V.cell? ⟨qf, 2, none⟩ = some (.int .i64 e2) ∧ V.cell? ⟨qf, 3, none⟩ = some (.int .u64 e3) ∧ V.cell? ⟨qf, 4, none⟩ = some (.int .u64 e4) ∧ V.cell? ⟨qg, 0, none⟩ = some (.int .i64 e0) ∧ V.cell? ⟨qg, 1, none⟩ = some (.int .i64 e1) ∧ V.cell? ⟨qg, 2, none⟩ = some (.int .i64 e2) ∧ V.cell? ⟨qg, 3, none⟩ = some (.int .u64 e3) ∧ V.cell? ⟨qg, 4, none⟩ = some (.int .u64 e4) ∧ V.cell? ⟨qh, 0, none⟩ = some (.int .i64 e0) ∧ V.cell? ⟨qh, 1, none⟩ = some (.int .i64 e1) ∧ V.cell? ⟨qh, 2, none⟩ = some (.int .i64 e2) ∧ V.cell? ⟨qh, 3, none⟩ = some (.int .u64 e3) ∧ V.cell? ⟨qh, 4, none⟩ = some (.int .u64 e4) ∧ V.cell? ⟨q, 0, none⟩ = some (.int .i64 op) ∧ V.cell? ⟨q, 1, none⟩ = some (.int .i64 a) ∧ V.cell? ⟨q, 2, none⟩ = some (.int .i64 b) ∧ V.cell? ⟨q, 3, none⟩ = some (.int .i64 c) ∧ V.cell? ⟨q, 4, none⟩ = some (.int .i64 m) ∧ V.cell? ⟨qj, 0, none⟩ = some (.int .i64 op) ∧ V.cell? ⟨qj, 1, none⟩ = some (.int .i64 aj) ∧ V.cell? ⟨qj, 2, none⟩ = some (.int .i64 bj) ∧ V.cell? ⟨qj, 3, none⟩ = some (.int .i64 cj) ∧ V.cell? ⟨qj, 4, none⟩ = some (.int .i64 m))) (by kernel_rfl) ?_ (fun hHeld => ?_)
        · exact HKc.out _ hP
        refine wpAnyH_take (i := 0) (oi := { dst := some 135, op := Go.Op.move (Go.Operand.tmp 7), type := 4, pos := "outright.go:142", after := #[], guard := none }) (v := ?v0) rfl (by kernel_rfl) (by kernel_rfl) (by kernel_rfl) (fun _ _ _ h => h) (Or.inl ⟨by rfl, ?y0⟩) (by assumption) ?r0
        case y0 => ((intro W hSw; (try dsimp only at hSw); go_simp) <;> (with_reducible rfl))
        try simp only [Act.put, List.setIfInBounds_toArray, List.set_cons_zero, List.set_cons_succ]
        refine wpAnyH_take (i := 1) (oi := { dst := some 136, op := Go.Op.move (Go.Operand.tmp 135), type := 4, pos := "outright.go:142", after := #[{ on := 0, ground := Go.Ground.data }], guard := none }) (v := ?v1) rfl (by kernel_rfl) (by kernel_rfl) (by kernel_rfl) (fun _ _ _ h => h) (Or.inl ⟨by rfl, ?y1⟩) (by assumption) ?r1
        case y1 => ((intro W hSw; (try dsimp only at hSw); go_simp) <;> (with_reducible rfl))
        try simp only [Act.put, List.setIfInBounds_toArray, List.set_cons_zero, List.set_cons_succ]
        refine wpAnyH_take (i := 2) (oi := { dst := some 137, op := Go.Op.load 27 (Go.Operand.tmp 10), type := 27, pos := "outright.go:142", after := #[{ on := 1, ground := Go.Ground.guard }], guard := some (1, true) }) (v := ?v2) rfl (by kernel_rfl) (by kernel_rfl) (by kernel_rfl) (fun _ _ _ h => h) (Or.inl ⟨by rfl, ?y2⟩) (by assumption) ?r2
        case y2 => ((intro W hSw; (try dsimp only at hSw); go_simp) <;> (with_reducible rfl))
        try simp only [Act.put, List.setIfInBounds_toArray, List.set_cons_zero, List.set_cons_succ]
        refine wpAnyH_take (i := 3) (oi := { dst := some 138, op := Go.Op.load 27 (Go.Operand.tmp 15), type := 27, pos := "outright.go:142", after := #[{ on := 1, ground := Go.Ground.guard }], guard := some (1, true) }) (v := ?v3) rfl (by kernel_rfl) (by kernel_rfl) (by kernel_rfl) (fun _ _ _ h => h) (Or.inl ⟨by rfl, ?y3⟩) (by assumption) ?r3
        case y3 => ((intro W hSw; (try dsimp only at hSw); go_simp) <;> (with_reducible rfl))
        try simp only [Act.put, List.setIfInBounds_toArray, List.set_cons_zero, List.set_cons_succ]
        refine wpAnyH_take (i := 4) (oi := { dst := some 139, op := Go.Op.binOp Go.BinOp.eql 27 (Go.Operand.tmp 137) (Go.Operand.tmp 138) 27, type := 4, pos := "outright.go:142", after := #[{ on := 2, ground := Go.Ground.data }, { on := 3, ground := Go.Ground.data }, { on := 1, ground := Go.Ground.guard }], guard := some (1, true) }) (v := ?v4) rfl (by kernel_rfl) (by kernel_rfl) (by kernel_rfl) (fun _ _ _ h => h) (Or.inl ⟨by rfl, ?y4⟩) (by assumption) ?r4
        case y4 => ((intro W hSw; (try dsimp only at hSw); go_simp) <;> (with_reducible rfl))
        try simp only [Act.put, List.setIfInBounds_toArray, List.set_cons_zero, List.set_cons_succ]
        refine wpAnyH_take (i := 5) (oi := { dst := some 140, op := Go.Op.pick (Go.Operand.tmp 136) (Go.Operand.tmp 139) (Go.Operand.const (Go.Value.bool false)), type := 4, pos := "outright.go:142", after := #[{ on := 1, ground := Go.Ground.data }, { on := 4, ground := Go.Ground.data }], guard := none }) (v := ?v5) rfl (by kernel_rfl) (by kernel_rfl) (by kernel_rfl) (fun _ _ _ h => h) (Or.inl ⟨by rfl, ?y5⟩) (by assumption) ?r5
        case y5 => ((intro W hSw; (try dsimp only at hSw); go_simp) <;> (with_reducible rfl))
        try simp only [Act.put, List.setIfInBounds_toArray, List.set_cons_zero, List.set_cons_succ]
        refine wpAnyH_take (i := 6) (oi := { dst := some 141, op := Go.Op.move (Go.Operand.tmp 140), type := 4, pos := "outright.go:142", after := #[{ on := 5, ground := Go.Ground.data }, { on := 1, ground := Go.Ground.chain }], guard := none }) (v := ?v6) rfl (by kernel_rfl) (by kernel_rfl) (by kernel_rfl) (fun _ _ _ h => h) (Or.inl ⟨by rfl, ?y6⟩) (by assumption) ?r6
        case y6 => ((intro W hSw; (try dsimp only at hSw); go_simp) <;> (with_reducible rfl))
        try simp only [Act.put, List.setIfInBounds_toArray, List.set_cons_zero, List.set_cons_succ]
        refine wpAnyH_take (i := 7) (oi := { dst := some 142, op := Go.Op.load 27 (Go.Operand.tmp 10), type := 27, pos := "outright.go:142", after := #[{ on := 6, ground := Go.Ground.guard }], guard := some (6, true) }) (v := ?v7) rfl (by kernel_rfl) (by kernel_rfl) (by kernel_rfl) (fun _ _ _ h => h) (Or.inl ⟨by rfl, ?y7⟩) (by assumption) ?r7
        case y7 => ((intro W hSw; (try dsimp only at hSw); go_simp) <;> (with_reducible rfl))
        try simp only [Act.put, List.setIfInBounds_toArray, List.set_cons_zero, List.set_cons_succ]
        refine wpAnyH_take (i := 8) (oi := { dst := some 143, op := Go.Op.load 27 (Go.Operand.tmp 17), type := 27, pos := "outright.go:142", after := #[{ on := 6, ground := Go.Ground.guard }], guard := some (6, true) }) (v := ?v8) rfl (by kernel_rfl) (by kernel_rfl) (by kernel_rfl) (fun _ _ _ h => h) (Or.inl ⟨by rfl, ?y8⟩) (by assumption) ?r8
        case y8 => ((intro W hSw; (try dsimp only at hSw); go_simp) <;> (with_reducible rfl))
        try simp only [Act.put, List.setIfInBounds_toArray, List.set_cons_zero, List.set_cons_succ]
        refine wpAnyH_take (i := 9) (oi := { dst := some 144, op := Go.Op.binOp Go.BinOp.eql 27 (Go.Operand.tmp 142) (Go.Operand.tmp 143) 27, type := 4, pos := "outright.go:142", after := #[{ on := 7, ground := Go.Ground.data }, { on := 8, ground := Go.Ground.data }, { on := 6, ground := Go.Ground.guard }], guard := some (6, true) }) (v := ?v9) rfl (by kernel_rfl) (by kernel_rfl) (by kernel_rfl) (fun _ _ _ h => h) (Or.inl ⟨by rfl, ?y9⟩) (by assumption) ?r9
        case y9 => ((intro W hSw; (try dsimp only at hSw); go_simp) <;> (with_reducible rfl))
        try simp only [Act.put, List.setIfInBounds_toArray, List.set_cons_zero, List.set_cons_succ]
        refine wpAnyH_take (i := 10) (oi := { dst := some 145, op := Go.Op.pick (Go.Operand.tmp 141) (Go.Operand.tmp 144) (Go.Operand.const (Go.Value.bool false)), type := 4, pos := "outright.go:142", after := #[{ on := 6, ground := Go.Ground.data }, { on := 9, ground := Go.Ground.data }], guard := none }) (v := ?v10) rfl (by kernel_rfl) (by kernel_rfl) (by kernel_rfl) (fun _ _ _ h => h) (Or.inl ⟨by rfl, ?y10⟩) (by assumption) ?r10
        case y10 => ((intro W hSw; (try dsimp only at hSw); go_simp) <;> (with_reducible rfl))
        try simp only [Act.put, List.setIfInBounds_toArray, List.set_cons_zero, List.set_cons_succ]
        refine wpAnyH_take (i := 11) (oi := { dst := some 146, op := Go.Op.move (Go.Operand.tmp 145), type := 4, pos := "outright.go:142", after := #[{ on := 10, ground := Go.Ground.data }, { on := 6, ground := Go.Ground.chain }], guard := none }) (v := ?v11) rfl (by kernel_rfl) (by kernel_rfl) (by kernel_rfl) (fun _ _ _ h => h) (Or.inl ⟨by rfl, ?y11⟩) (by assumption) ?r11
        case y11 => ((intro W hSw; (try dsimp only at hSw); go_simp) <;> (with_reducible rfl))
        try simp only [Act.put, List.setIfInBounds_toArray, List.set_cons_zero, List.set_cons_succ]
        refine wpAnyH_take (i := 12) (oi := { dst := some 147, op := Go.Op.load 27 (Go.Operand.tmp 10), type := 27, pos := "outright.go:142", after := #[{ on := 11, ground := Go.Ground.guard }], guard := some (11, true) }) (v := ?v12) rfl (by kernel_rfl) (by kernel_rfl) (by kernel_rfl) (fun _ _ _ h => h) (Or.inl ⟨by rfl, ?y12⟩) (by assumption) ?r12
        case y12 => ((intro W hSw; (try dsimp only at hSw); go_simp) <;> (with_reducible rfl))
        try simp only [Act.put, List.setIfInBounds_toArray, List.set_cons_zero, List.set_cons_succ]
        refine wpAnyH_take (i := 13) (oi := { dst := some 148, op := Go.Op.load 27 (Go.Operand.tmp 18), type := 27, pos := "outright.go:142", after := #[{ on := 11, ground := Go.Ground.guard }], guard := some (11, true) }) (v := ?v13) rfl (by kernel_rfl) (by kernel_rfl) (by kernel_rfl) (fun _ _ _ h => h) (Or.inl ⟨by rfl, ?y13⟩) (by assumption) ?r13
        case y13 => ((intro W hSw; (try dsimp only at hSw); go_simp) <;> (with_reducible rfl))
        try simp only [Act.put, List.setIfInBounds_toArray, List.set_cons_zero, List.set_cons_succ]
        refine wpAnyH_take (i := 14) (oi := { dst := some 149, op := Go.Op.binOp Go.BinOp.eql 27 (Go.Operand.tmp 147) (Go.Operand.tmp 148) 27, type := 4, pos := "outright.go:142", after := #[{ on := 12, ground := Go.Ground.data }, { on := 13, ground := Go.Ground.data }, { on := 11, ground := Go.Ground.guard }], guard := some (11, true) }) (v := ?v14) rfl (by kernel_rfl) (by kernel_rfl) (by kernel_rfl) (fun _ _ _ h => h) (Or.inl ⟨by rfl, ?y14⟩) (by assumption) ?r14
        case y14 => ((intro W hSw; (try dsimp only at hSw); go_simp) <;> (with_reducible rfl))
        try simp only [Act.put, List.setIfInBounds_toArray, List.set_cons_zero, List.set_cons_succ]
        refine wpAnyH_take (i := 15) (oi := { dst := some 150, op := Go.Op.move (Go.Operand.tmp 149), type := 4, pos := "outright.go:142", after := #[{ on := 14, ground := Go.Ground.data }, { on := 11, ground := Go.Ground.chain }, { on := 11, ground := Go.Ground.guard }], guard := some (11, true) }) (v := ?v15) rfl (by kernel_rfl) (by kernel_rfl) (by kernel_rfl) (fun _ _ _ h => h) (Or.inl ⟨by rfl, ?y15⟩) (by assumption) ?r15
        case y15 => ((intro W hSw; (try dsimp only at hSw); go_simp) <;> (with_reducible rfl))
        try simp only [Act.put, List.setIfInBounds_toArray, List.set_cons_zero, List.set_cons_succ]
        refine wpAnyH_take (i := 16) (oi := { dst := some 151, op := Go.Op.fieldAddr 27 (Go.Operand.tmp 10) 0, type := 0, pos := "outright.go:142", after := #[{ on := 15, ground := Go.Ground.guard }], guard := some (15, false) }) (v := undef) rfl (by kernel_rfl) (by kernel_rfl) (by kernel_rfl) (fun _ _ _ h => h) (Or.inr ⟨by rfl, rfl⟩) (by assumption) ?r16
        try simp only [Act.put, List.setIfInBounds_toArray, List.set_cons_zero, List.set_cons_succ]
        refine wpAnyH_take (i := 17) (oi := { dst := some 152, op := Go.Op.load 3 (Go.Operand.tmp 151), type := 3, pos := "outright.go:142", after := #[{ on := 16, ground := Go.Ground.data }, { on := 15, ground := Go.Ground.guard }], guard := some (15, false) }) (v := undef) rfl (by kernel_rfl) (by kernel_rfl) (by kernel_rfl) (fun _ _ _ h => h) (Or.inr ⟨by rfl, rfl⟩) (by assumption) ?r17
        try simp only [Act.put, List.setIfInBounds_toArray, List.set_cons_zero, List.set_cons_succ]
        refine wpAnyH_take (i := 18) (oi := { dst := some 153, op := Go.Op.binOp Go.BinOp.eql 3 (Go.Operand.tmp 152) (Go.Operand.const (Go.Value.int Go.IntKind.i64 2)) 3, type := 4, pos := "outright.go:142", after := #[{ on := 17, ground := Go.Ground.data }, { on := 15, ground := Go.Ground.guard }], guard := some (15, false) }) (v := undef) rfl (by kernel_rfl) (by kernel_rfl) (by kernel_rfl) (fun _ _ _ h => h) (Or.inr ⟨by rfl, rfl⟩) (by assumption) ?r18
        try simp only [Act.put, List.setIfInBounds_toArray, List.set_cons_zero, List.set_cons_succ]
        refine wpAnyH_take (i := 19) (oi := { dst := some 154, op := Go.Op.move (Go.Operand.tmp 153), type := 4, pos := "outright.go:142", after := #[{ on := 18, ground := Go.Ground.data }, { on := 15, ground := Go.Ground.chain }, { on := 15, ground := Go.Ground.guard }], guard := some (15, false) }) (v := undef) rfl (by kernel_rfl) (by kernel_rfl) (by kernel_rfl) (fun _ _ _ h => h) (Or.inr ⟨by rfl, rfl⟩) (by assumption) ?r19
        try simp only [Act.put, List.setIfInBounds_toArray, List.set_cons_zero, List.set_cons_succ]
        refine wpAnyH_take (i := 20) (oi := { dst := some 155, op := Go.Op.fieldAddr 27 (Go.Operand.tmp 18) 0, type := 0, pos := "outright.go:142", after := #[{ on := 19, ground := Go.Ground.guard }], guard := some (19, true) }) (v := undef) rfl (by kernel_rfl) (by kernel_rfl) (by kernel_rfl) (fun _ _ _ h => h) (Or.inr ⟨by rfl, rfl⟩) (by assumption) ?r20
        try simp only [Act.put, List.setIfInBounds_toArray, List.set_cons_zero, List.set_cons_succ]
        refine wpAnyH_take (i := 21) (oi := { dst := some 156, op := Go.Op.load 3 (Go.Operand.tmp 155), type := 3, pos := "outright.go:142", after := #[{ on := 20, ground := Go.Ground.data }, { on := 19, ground := Go.Ground.guard }], guard := some (19, true) }) (v := undef) rfl (by kernel_rfl) (by kernel_rfl) (by kernel_rfl) (fun _ _ _ h => h) (Or.inr ⟨by rfl, rfl⟩) (by assumption) ?r21
        try simp only [Act.put, List.setIfInBounds_toArray, List.set_cons_zero, List.set_cons_succ]
        refine wpAnyH_take (i := 22) (oi := { dst := some 157, op := Go.Op.binOp Go.BinOp.eql 3 (Go.Operand.tmp 156) (Go.Operand.const (Go.Value.int Go.IntKind.i64 2)) 3, type := 4, pos := "outright.go:142", after := #[{ on := 21, ground := Go.Ground.data }, { on := 19, ground := Go.Ground.guard }], guard := some (19, true) }) (v := undef) rfl (by kernel_rfl) (by kernel_rfl) (by kernel_rfl) (fun _ _ _ h => h) (Or.inr ⟨by rfl, rfl⟩) (by assumption) ?r22
        try simp only [Act.put, List.setIfInBounds_toArray, List.set_cons_zero, List.set_cons_succ]
        refine wpAnyH_take (i := 23) (oi := { dst := some 158, op := Go.Op.pick (Go.Operand.tmp 154) (Go.Operand.tmp 157) (Go.Operand.const (Go.Value.bool false)), type := 4, pos := "outright.go:142", after := #[{ on := 19, ground := Go.Ground.data }, { on := 22, ground := Go.Ground.data }, { on := 15, ground := Go.Ground.guard }], guard := some (15, false) }) (v := undef) rfl (by kernel_rfl) (by kernel_rfl) (by kernel_rfl) (fun _ _ _ h => h) (Or.inr ⟨by rfl, rfl⟩) (by assumption) ?r23
        try simp only [Act.put, List.setIfInBounds_toArray, List.set_cons_zero, List.set_cons_succ]
        refine wpAnyH_take (i := 24) (oi := { dst := some 159, op := Go.Op.move (Go.Operand.tmp 158), type := 4, pos := "outright.go:142", after := #[{ on := 23, ground := Go.Ground.data }, { on := 19, ground := Go.Ground.chain }, { on := 15, ground := Go.Ground.guard }], guard := some (15, false) }) (v := undef) rfl (by kernel_rfl) (by kernel_rfl) (by kernel_rfl) (fun _ _ _ h => h) (Or.inr ⟨by rfl, rfl⟩) (by assumption) ?r24
        try simp only [Act.put, List.setIfInBounds_toArray, List.set_cons_zero, List.set_cons_succ]
        refine wpAnyH_take (i := 25) (oi := { dst := some 160, op := Go.Op.fieldAddr 23 (Go.Operand.tmp 3) 4, type := 0, pos := "outright.go:142", after := #[{ on := 24, ground := Go.Ground.guard }], guard := some (24, true) }) (v := undef) rfl (by kernel_rfl) (by kernel_rfl) (by kernel_rfl) (fun _ _ _ h => h) (Or.inr ⟨by rfl, rfl⟩) (by assumption) ?r25
        try simp only [Act.put, List.setIfInBounds_toArray, List.set_cons_zero, List.set_cons_succ]
        refine wpAnyH_take (i := 26) (oi := { dst := some 161, op := Go.Op.load 3 (Go.Operand.tmp 160), type := 3, pos := "outright.go:142", after := #[{ on := 25, ground := Go.Ground.data }, { on := 24, ground := Go.Ground.guard }], guard := some (24, true) }) (v := undef) rfl (by kernel_rfl) (by kernel_rfl) (by kernel_rfl) (fun _ _ _ h => h) (Or.inr ⟨by rfl, rfl⟩) (by assumption) ?r26
        try simp only [Act.put, List.setIfInBounds_toArray, List.set_cons_zero, List.set_cons_succ]
        refine wpAnyH_take (i := 27) (oi := { dst := some 162, op := Go.Op.move (Go.Operand.tmp 8), type := 3, pos := "outright.go:142", after := #[{ on := 24, ground := Go.Ground.guard }], guard := some (24, true) }) (v := undef) rfl (by kernel_rfl) (by kernel_rfl) (by kernel_rfl) (fun _ _ _ h => h) (Or.inr ⟨by rfl, rfl⟩) (by assumption) ?r27
        try simp only [Act.put, List.setIfInBounds_toArray, List.set_cons_zero, List.set_cons_succ]
        refine wpAnyH_take (i := 28) (oi := { dst := some 163, op := Go.Op.binOp Go.BinOp.add 3 (Go.Operand.tmp 162) (Go.Operand.const (Go.Value.int Go.IntKind.i64 1)) 3, type := 3, pos := "outright.go:142", after := #[{ on := 27, ground := Go.Ground.data }, { on := 24, ground := Go.Ground.guard }], guard := some (24, true) }) (v := undef) rfl (by kernel_rfl) (by kernel_rfl) (by kernel_rfl) (fun _ _ _ h => h) (Or.inr ⟨by rfl, rfl⟩) (by assumption) ?r28
        try simp only [Act.put, List.setIfInBounds_toArray, List.set_cons_zero, List.set_cons_succ]
        refine wpAnyH_take (i := 29) (oi := { dst := some 164, op := Go.Op.binOp Go.BinOp.eql 3 (Go.Operand.tmp 161) (Go.Operand.tmp 163) 3, type := 4, pos := "outright.go:142", after := #[{ on := 26, ground := Go.Ground.data }, { on := 28, ground := Go.Ground.data }, { on := 24, ground := Go.Ground.guard }], guard := some (24, true) }) (v := undef) rfl (by kernel_rfl) (by kernel_rfl) (by kernel_rfl) (fun _ _ _ h => h) (Or.inr ⟨by rfl, rfl⟩) (by assumption) ?r29
        try simp only [Act.put, List.setIfInBounds_toArray, List.set_cons_zero, List.set_cons_succ]
        refine wpAnyH_take (i := 30) (oi := { dst := some 165, op := Go.Op.pick (Go.Operand.tmp 159) (Go.Operand.tmp 164) (Go.Operand.const (Go.Value.bool false)), type := 4, pos := "outright.go:142", after := #[{ on := 24, ground := Go.Ground.data }, { on := 29, ground := Go.Ground.data }, { on := 15, ground := Go.Ground.guard }], guard := some (15, false) }) (v := undef) rfl (by kernel_rfl) (by kernel_rfl) (by kernel_rfl) (fun _ _ _ h => h) (Or.inr ⟨by rfl, rfl⟩) (by assumption) ?r30
        try simp only [Act.put, List.setIfInBounds_toArray, List.set_cons_zero, List.set_cons_succ]
        refine wpAnyH_take (i := 31) (oi := { dst := some 166, op := Go.Op.pick (Go.Operand.tmp 150) (Go.Operand.const (Go.Value.bool true)) (Go.Operand.tmp 165), type := 4, pos := "outright.go:142", after := #[{ on := 15, ground := Go.Ground.data }, { on := 30, ground := Go.Ground.data }, { on := 11, ground := Go.Ground.guard }], guard := some (11, true) }) (v := ?v31) rfl (by kernel_rfl) (by kernel_rfl) (by kernel_rfl) (fun _ _ _ h => h) (Or.inl ⟨by rfl, ?y31⟩) (by assumption) ?r31
        case y31 => ((intro W hSw; (try dsimp only at hSw); go_simp) <;> (with_reducible rfl))
        try simp only [Act.put, List.setIfInBounds_toArray, List.set_cons_zero, List.set_cons_succ]
        refine wpAnyH_take (i := 32) (oi := { dst := some 167, op := Go.Op.pick (Go.Operand.tmp 146) (Go.Operand.tmp 166) (Go.Operand.const (Go.Value.bool false)), type := 4, pos := "outright.go:142", after := #[{ on := 11, ground := Go.Ground.data }, { on := 31, ground := Go.Ground.data }], guard := none }) (v := ?v32) rfl (by kernel_rfl) (by kernel_rfl) (by kernel_rfl) (fun _ _ _ h => h) (Or.inl ⟨by rfl, ?y32⟩) (by assumption) ?r32
        case y32 => ((intro W hSw; (try dsimp only at hSw); go_simp) <;> (with_reducible rfl))
        try simp only [Act.put, List.setIfInBounds_toArray, List.set_cons_zero, List.set_cons_succ]
        refine wpAnyH_take (i := 33) (oi := { dst := some 168, op := Go.Op.move (Go.Operand.tmp 167), type := 4, pos := "outright.go:142", after := #[{ on := 32, ground := Go.Ground.data }, { on := 24, ground := Go.Ground.chain }], guard := none }) (v := ?v33) rfl (by kernel_rfl) (by kernel_rfl) (by kernel_rfl) (fun _ _ _ h => h) (Or.inl ⟨by rfl, ?y33⟩) (by assumption) ?r33
        case y33 => ((intro W hSw; (try dsimp only at hSw); go_simp) <;> (with_reducible rfl))
        try simp only [Act.put, List.setIfInBounds_toArray, List.set_cons_zero, List.set_cons_succ]
        refine wpAnyH_take (i := 34) (oi := { dst := some 169, op := Go.Op.load 23 (Go.Operand.tmp 3), type := 23, pos := "outright.go:142", after := #[{ on := 33, ground := Go.Ground.guard }], guard := some (33, true) }) (v := ?v34) rfl (by kernel_rfl) (by kernel_rfl) (by kernel_rfl) (fun _ _ _ h => h) (Or.inl ⟨by rfl, ?y34⟩) (by assumption) ?r34
        case y34 => ((intro W hSw; (try dsimp only at hSw); go_simp) <;> (with_reducible rfl))
        try simp only [Act.put, List.setIfInBounds_toArray, List.set_cons_zero, List.set_cons_succ]
        refine wpAnyH_take (i := 36) (oi := { dst := some 171, op := Go.Op.load 23 (Go.Operand.tmp 16), type := 23, pos := "outright.go:142", after := #[{ on := 33, ground := Go.Ground.guard }], guard := some (33, true) }) (v := ?v36) rfl (by kernel_rfl) (by kernel_rfl) (by kernel_rfl) (fun _ _ _ h => h) (Or.inl ⟨by rfl, ?y36⟩) (by assumption) ?r36
        case y36 => ((intro W hSw; (try dsimp only at hSw); go_simp) <;> (with_reducible rfl))
        try simp only [Act.put, List.setIfInBounds_toArray, List.set_cons_zero, List.set_cons_succ]
        refine wpAnyH_ready (rs := [35]) (by kernel_rfl) (by simp) ?_
        refine AllReadyH.cons (o := { dst := some 170, op := Go.Op.call { callee := Go.Callee.value (Go.Operand.func 12), args := #[Go.Operand.tmp 169], argTypes := #[23] }, type := 4, pos := "outright.go:142", after := #[{ on := 34, ground := Go.Ground.data }, { on := 33, ground := Go.Ground.chain }, { on := 33, ground := Go.Ground.guard }], guard := some (33, true) }) rfl (fun K hK => ?_) AllReadyH.nil
        go_simp
        go_at_call 12
        with_reducible refine (HLi.out _ hP.on.base.std).mono ?_
        rintro e V ⟨rfl, hb⟩
        replace hP := hP.next hb
        clear hb
        try (go_wp2_with fail)
        refine hK.out _ _ ?_ (fun hHeld => ?_)
        · first | exact HKc.out _ hP | (dsimp only; exact HKc.out _ hP)
        clear hK K
        try simp only [Act.put, List.setIfInBounds_toArray, List.set_cons_zero, List.set_cons_succ]
        refine wpAnyH_ready (rs := [37]) (by kernel_rfl) (by simp) ?_
        refine AllReadyH.cons (o := { dst := some 172, op := Go.Op.call { callee := Go.Callee.value (Go.Operand.func 12), args := #[Go.Operand.tmp 171], argTypes := #[23] }, type := 4, pos := "outright.go:142", after := #[{ on := 36, ground := Go.Ground.data }, { on := 35, ground := Go.Ground.chain }, { on := 33, ground := Go.Ground.guard }], guard := some (33, true) }) rfl (fun K hK => ?_) AllReadyH.nil
        go_simp
        go_at_call 12
        with_reducible refine (HLj.out _ hP.on.base.std).mono ?_
        rintro e V ⟨rfl, hb⟩
        replace hP := hP.next hb
        clear hb
        try (go_wp2_with fail)
        refine hK.out _ _ ?_ (fun hHeld => ?_)
        · first | exact HKc.out _ hP | (dsimp only; exact HKc.out _ hP)
        clear hK K
        try simp only [Act.put, List.setIfInBounds_toArray, List.set_cons_zero, List.set_cons_succ]
        refine wpAnyH_take (i := 38) (oi := { dst := some 173, op := Go.Op.binOp Go.BinOp.eql 4 (Go.Operand.tmp 170) (Go.Operand.tmp 172) 4, type := 4, pos := "outright.go:142", after := #[{ on := 35, ground := Go.Ground.data }, { on := 37, ground := Go.Ground.data }, { on := 33, ground := Go.Ground.guard }], guard := some (33, true) }) (v := ?v38) rfl (by kernel_rfl) (by kernel_rfl) (by kernel_rfl) (fun _ _ _ h => h) (Or.inl ⟨by rfl, ?y38⟩) (by assumption) ?r38
        case y38 => ((intro W hSw; (try dsimp only at hSw); go_simp) <;> (with_reducible rfl))
        try simp only [Act.put, List.setIfInBounds_toArray, List.set_cons_zero, List.set_cons_succ]
        refine wpAnyH_take (i := 39) (oi := { dst := some 174, op := Go.Op.pick (Go.Operand.tmp 168) (Go.Operand.tmp 173) (Go.Operand.const (Go.Value.bool false)), type := 4, pos := "outright.go:142", after := #[{ on := 33, ground := Go.Ground.data }, { on := 38, ground := Go.Ground.data }], guard := none }) (v := ?v39) rfl (by kernel_rfl) (by kernel_rfl) (by kernel_rfl) (fun _ _ _ h => h) (Or.inl ⟨by rfl, ?y39⟩) (by assumption) ?r39
        case y39 => ((intro W hSw; (try dsimp only at hSw); go_simp) <;> (with_reducible rfl))
        try simp only [Act.put, List.setIfInBounds_toArray, List.set_cons_zero, List.set_cons_succ]
        refine wpAnyH_take (i := 40) (oi := { dst := some 6, op := Go.Op.assign (Go.Operand.tmp 174), type := 4, pos := "outright.go:142", after := #[{ on := 39, ground := Go.Ground.data }, { on := 37, ground := Go.Ground.chain }, { on := 0, ground := Go.Ground.phase }, { on := 1, ground := Go.Ground.phase }, { on := 2, ground := Go.Ground.phase }, { on := 3, ground := Go.Ground.phase }, { on := 4, ground := Go.Ground.phase }, { on := 5, ground := Go.Ground.phase }, { on := 6, ground := Go.Ground.phase }, { on := 7, ground := Go.Ground.phase }, { on := 8, ground := Go.Ground.phase }, { on := 9, ground := Go.Ground.phase }, { on := 10, ground := Go.Ground.phase }, { on := 11, ground := Go.Ground.phase }, { on := 12, ground := Go.Ground.phase }, { on := 13, ground := Go.Ground.phase }, { on := 14, ground := Go.Ground.phase }, { on := 15, ground := Go.Ground.phase }, { on := 16, ground := Go.Ground.phase }, { on := 17, ground := Go.Ground.phase }, { on := 18, ground := Go.Ground.phase }, { on := 19, ground := Go.Ground.phase }, { on := 20, ground := Go.Ground.phase }, { on := 21, ground := Go.Ground.phase }, { on := 22, ground := Go.Ground.phase }, { on := 23, ground := Go.Ground.phase }, { on := 24, ground := Go.Ground.phase }, { on := 25, ground := Go.Ground.phase }, { on := 26, ground := Go.Ground.phase }, { on := 27, ground := Go.Ground.phase }, { on := 28, ground := Go.Ground.phase }, { on := 29, ground := Go.Ground.phase }, { on := 30, ground := Go.Ground.phase }, { on := 31, ground := Go.Ground.phase }, { on := 32, ground := Go.Ground.phase }, { on := 33, ground := Go.Ground.phase }, { on := 34, ground := Go.Ground.phase }, { on := 35, ground := Go.Ground.phase }, { on := 36, ground := Go.Ground.phase }, { on := 37, ground := Go.Ground.phase }, { on := 38, ground := Go.Ground.phase }, { on := 39, ground := Go.Ground.phase }], guard := none }) (v := ?v40) rfl (by kernel_rfl) (by kernel_rfl) (by kernel_rfl) (fun _ _ _ h => h) (Or.inl ⟨by rfl, ?y40⟩) (by assumption) ?r40
        case y40 => ((intro W hSw; (try dsimp only at hSw); go_simp) <;> (with_reducible rfl))
        try simp only [Act.put, List.setIfInBounds_toArray, List.set_cons_zero, List.set_cons_succ]
        refine wpAnyH_done (by kernel_rfl) ?_ _
        all_goals
          have HBw := Lib.hid hP.on.base.below; clear hP HKc
          go_wp2
          exact bodyPost_ret (results_tmp rfl _ _ _) rfl ⟨by simp, hq ▸ HBw.out⟩
      · rcases hpl with hpl | ⟨r0, r1, r2⟩
        · cases hpl; exact absurd rfl heq
        · have hne : ∀ W : World, (Op.equalIn 10000 27 (.agg #[.int .i64 e0, .int .i64 e1, .int .i64 e2, .int .u64 e3, .int .u64 e4]) (.agg #[.int .i64 f0, .int .i64 f1, .int .i64 f2, .int .u64 f3, .int .u64 f4])).run Tryd.prog W = .ok false W := fun W => by
            rw [same_ef]; simp only [heq, decide_false]
          clear heq
          have b1 : (e0 == 2) = true := by simpa using r0
          have b2 : (f0 == 2) = true := by simpa using r1
          have b3 : (m == s % 1024 + 1) = true := by simpa using r2
          clear r0 r1 r2
          have hP := hk.next (below_drew1 (Below.refl _ _)); clear hk
          have HKc : Hid (∀ V, AKm w q qe ql qf qj qg qh ⟨op, a, b, c, m⟩ x y s t ⟨e0, e1, e2, e3, e4⟩ l0 l1 l2 aj bj cj ⟨f0, f1, f2, f3, f4⟩ V → V.cell? ⟨qe, 0, none⟩ = some (.int .i64 e0) ∧ V.cell? ⟨qe, 1, none⟩ = some (.int .i64 e1) ∧ V.cell? ⟨qe, 2, none⟩ = some (.int .i64 e2) ∧ V.cell? ⟨qe, 3, none⟩ = some (.int .u64 e3) ∧ V.cell? ⟨qe, 4, none⟩ = some (.int .u64 e4) ∧ V.cell? ⟨qf, 0, none⟩ = some (.int .i64 e0) ∧ V.cell? ⟨qf, 1, none⟩ = some (.int .i64 e1) ∧ V.cell? ⟨qf, 2, none⟩ = some (.int .i64 e2) ∧ V.cell? ⟨qf, 3, none⟩ = some (.int .u64 e3) ∧ V.cell? ⟨qf, 4, none⟩ = some (.int .u64 e4) ∧ V.cell? ⟨qg, 0, none⟩ = some (.int .i64 e0) ∧ V.cell? ⟨qg, 1, none⟩ = some (.int .i64 e1) ∧ V.cell? ⟨qg, 2, none⟩ = some (.int .i64 e2) ∧ V.cell? ⟨qg, 3, none⟩ = some (.int .u64 e3) ∧ V.cell? ⟨qg, 4, none⟩ = some (.int .u64 e4) ∧ V.cell? ⟨qh, 0, none⟩ = some (.int .i64 f0) ∧ V.cell? ⟨qh, 1, none⟩ = some (.int .i64 f1) ∧ V.cell? ⟨qh, 2, none⟩ = some (.int .i64 f2) ∧ V.cell? ⟨qh, 3, none⟩ = some (.int .u64 f3) ∧ V.cell? ⟨qh, 4, none⟩ = some (.int .u64 f4) ∧ V.cell? ⟨q, 0, none⟩ = some (.int .i64 op) ∧ V.cell? ⟨q, 1, none⟩ = some (.int .i64 a) ∧ V.cell? ⟨q, 2, none⟩ = some (.int .i64 b) ∧ V.cell? ⟨q, 3, none⟩ = some (.int .i64 c) ∧ V.cell? ⟨q, 4, none⟩ = some (.int .i64 m) ∧ V.cell? ⟨qj, 0, none⟩ = some (.int .i64 op) ∧ V.cell? ⟨qj, 1, none⟩ = some (.int .i64 aj) ∧ V.cell? ⟨qj, 2, none⟩ = some (.int .i64 bj) ∧ V.cell? ⟨qj, 3, none⟩ = some (.int .i64 cj) ∧ V.cell? ⟨qj, 4, none⟩ = some (.int .i64 m)) := Lib.hid (fun V h => h.all)
          go_region_held3 (fun V => V.cell? ⟨qe, 0, none⟩ = some (.int .i64 e0) ∧ V.cell? ⟨qe, 1, none⟩ = some (.int .i64 e1) ∧ V.cell? ⟨qe, 2, none⟩ = some (.int .i64 e2) ∧ V.cell? ⟨qe, 3, none⟩ = some (.int .u64 e3) ∧ V.cell? ⟨qe, 4, none⟩ = some (.int .u64 e4) ∧ V.cell? ⟨qf, 0, none⟩ = some (.int .i64 e0) ∧ V.cell? ⟨qf, 1, none⟩ = some (.int .i64 e1) ∧ V.cell? ⟨qf, 2, none⟩ = some (.int .i64 e2) ∧ V.cell? ⟨qf, 3, none⟩ = some (.int .u64 e3) ∧ V.cell? ⟨qf, 4, none⟩ = some (.int .u64 e4) ∧ V.cell? ⟨qg, 0, none⟩ = some (.int .i64 e0) ∧ V.cell? ⟨qg, 1, none⟩ = some (.int .i64 e1) ∧ V.cell? ⟨qg, 2, none⟩ = some (.int .i64 e2) ∧ V.cell? ⟨qg, 3, none⟩ = some (.int .u64 e3) ∧ V.cell? ⟨qg, 4, none⟩ = some (.int .u64 e4) ∧ V.cell? ⟨qh, 0, none⟩ = some (.int .i64 f0) ∧ V.cell? ⟨qh, 1, none⟩ = some (.int .i64 f1) ∧ V.cell? ⟨qh, 2, none⟩ = some (.int .i64 f2) ∧ V.cell? ⟨qh, 3, none⟩ = some (.int .u64 f3) ∧ V.cell? ⟨qh, 4, none⟩ = some (.int .u64 f4) ∧ V.cell? ⟨q, 0, none⟩ = some (.int .i64 op) ∧ V.cell? ⟨q, 1, none⟩ = some (.int .i64 a) ∧ V.cell? ⟨q, 2, none⟩ = some (.int .i64 b) ∧ V.cell? ⟨q, 3, none⟩ = some (.int .i64 c) ∧ V.cell? ⟨q, 4, none⟩ = some (.int .i64 m) ∧ V.cell? ⟨qj, 0, none⟩ = some (.int .i64 op) ∧ V.cell? ⟨qj, 1, none⟩ = some (.int .i64 aj) ∧ V.cell? ⟨qj, 2, none⟩ = some (.int .i64 bj) ∧ V.cell? ⟨qj, 3, none⟩ = some (.int .i64 cj) ∧ V.cell? ⟨qj, 4, none⟩ = some (.int .i64 m)) (first | with_reducible exact HKc.out _ hP) (first | (go_at_call 12; (with_reducible refine (HLi.out _ hP.on.base.std).mono ?_); rintro e V ⟨rfl, hb⟩; replace hP := hP.next hb; clear hb) | (go_at_call 12; (with_reducible refine (HLj.out _ hP.on.base.std).mono ?_); rintro e V ⟨rfl, hb⟩; replace hP := hP.next hb; clear hb))
          all_goals
            have HBw := Lib.hid hP.on.base.below; clear hP HKc
            go_wp2
            exact bodyPost_ret (results_tmp rfl _ _ _) rfl ⟨by simp, hq ▸ HBw.out⟩

end Go.Proofs.YtfgignmlggmeoaaDoor
