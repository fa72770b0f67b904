/- SoftLong: the walk. It answers true, and turns nothing that was there. -/
import Derived.Test.YthepmejfgbfilaaSoftLx
import Derived.Laws.AppendOwnNone
namespace Go.Proofs.Ythepmejfgbfilaa
open Go.RowKit Go.BigFrame Go.Maps

set_option maxRecDepth 100000 in
set_option maxHeartbeats 8000000 in
theorem slong_nil (R N : Nat) (w : World) (hR : R ≤ 200) (hN : N ≤ 200)  :
    Calls Try.prog 4 #[.int .i64 R, .int .i64 N, .slice none 0 0] w fun e w' => e = .returned (.bool true) ∧ Below w.heap.size w w' := by
  obtain ⟨xs, hxs⟩ : ∃ xs : List OpQ, xs = [] := ⟨_, rfl⟩
  have HXN := Lib.hid hxs
  have HG : Hid (∀ x ∈ xs, x.good) := Lib.hid (by rw [hxs]; intro x hx; cases hx)
  have hl : xs.length = 0 := by rw [hxs]; rfl
  clear hxs
  have d1 : decide ((R : Int) < 0) = false := by simp
  have d2 : decide ((N : Int) < 0) = false := by simp
  have d3 : decide ((200 : Int) < (R : Int)) = false := by simp; omega
  have d4 : decide ((200 : Int) < (N : Int)) = false := by simp; omega
  obtain ⟨z0, hz3, hinf⟩ := Try.infoOp
  obtain ⟨i0, hi, hz0, hz1, hz2⟩ := info_parts' hinf
  have HI := Lib.hid hi; clear hi hinf
  have HZ0 := Lib.hid hz0; clear hz0
  have HZ1 := Lib.hid hz1; clear hz1
  have HZ2 := Lib.hid hz2; clear hz2
  have HZ3 := Lib.hid hz3; clear hz3
  have hmm := @run_makeMap Try.prog
  go_enter Try.func4, Try.ntmps4
  go_wp2_with fail
  refine (new_a (Aparts.nil w)).mono ?_
  rintro e w1 ⟨p, rfl, h⟩
  have HS0 := Lib.hid (by have := ops_new (start_a h) (opz 0); simp only [World.size_alloc] at this; exact this)
  clear h d1 d2 d3 d4
  go_wp2
  change Code.wp _ _ _ _ (((w1.alloc (.cells #[.int .i64 0, .int .u64 0, .int .i64 0, .int .u64 0, .int .u64 0, .int .i64 0, .int .i64 0, .int .i64 0, .int .u64 0, .int .u64 0, .slice none 0 0, .slice none 0 0, .bool false, .bool false, .int .i64 0, .int .i64 0] 31)).alloc (.map #[] 0)).alloc (.cells (opz 0).cells.toArray 36))
  generalize ((w1.alloc (.cells #[.int .i64 0, .int .u64 0, .int .i64 0, .int .u64 0, .int .u64 0, .int .i64 0, .int .i64 0, .int .i64 0, .int .u64 0, .int .u64 0, .slice none 0 0, .slice none 0 0, .bool false, .bool false, .int .i64 0, .int .i64 0] 31)).alloc (.map #[] 0)) = w2 at *
  generalize w1.heap.size + 1 = b at *
  generalize w1.heap.size = q at *
  generalize w2.alloc (.cells (opz 0).cells.toArray 36) = w3 at *
  go_loopw [10, 11] (fun v i wr => ∃ k : Nat, k ≤ 5 ∧ i = .int .i64 k ∧ ∃ ys : List OpQ, ys.length = 1 + k ∧ (∀ y ∈ ys, y.good) ∧ Aparts w wr [pathP p PV.zero, refP q PV.zero, memP b 0 (fun _ => 0), opsP v ys]) (fun _ i _ => 5 - (intOf i).toNat)
  case atStart => exact ⟨0, by omega, rfl, _, by first | rfl | omega, fun y hy => by obtain rfl := List.mem_singleton.1 hy; exact opz_good (n := 0) (by omega), HS0.out⟩
  case round =>
    clear HS0
    obtain ⟨k, hk, rfl, ys, hyl, hyg, hs⟩ := hrel
    have HS := Lib.hid hs; clear hs
    have HY := Lib.hid hyg; clear hyg
    by_cases hlt : k < 5
    · have HR := Lib.hid (opsP_row HS.out (i := 3) rfl)
      go_wp2_with (at_builtin; refine wpList_append_own_at _ rfl _ _ 22 rfl 0 36 i0 z0 4 32 Try.underlying22 HI.out HZ0.out HZ1.out HZ2.out HZ3.out (by decide) u10 ys.length (opsC ys) rfl (World.ownsRow.alloc HR.out _) ⟨wr.heap.size, 0, none⟩ 1 1 [.int .i64 6, .int .i64 0, .int .u64 0, .bool false] rfl rfl (World.news_of_block (t := 36) (fr := (0, 0)) (new_block wr _)) (by simp [Value.oneCell']) (by unfold maxLen; omega) (by omega) (by omega) ?_; intro v' w5 hown5 hgrow5 hnil5 hat5; have H5 := Lib.hid (ops_grown (ys := [opz 6]) (HS.out.idle ((Below.refl _ _).alloc (Nat.le_refl _) _)) (i := 3) rfl hown5 hgrow5 hat5); clear hown5 hgrow5 hnil5 hat5)
      go_roundw
      case rel => exact ⟨k + 1, by omega, by go_num, ys ++ [opz 6], by simp; omega, fun y hy => by
        rcases List.mem_append.1 hy with h | h
        · exact HY.out y h
        · obtain rfl := List.mem_singleton.1 h; exact opz_good (by omega), H5.out⟩
      case measure => simp [intOf]; omega
    · obtain rfl : k = 5 := by omega
      rw [show ((5 : Nat) : Int) = 5 from rfl]
      have HS0 := HS; clear HS
      go_wp2
      go_loopw [10, 12] (fun v i wr => ∃ k : Nat, k ≤ R ∧ i = .int .i64 k ∧ ∃ ys : List OpQ, ys.length = 6 + 4 * k ∧ (∀ y ∈ ys, y.good) ∧ Aparts w wr [pathP p PV.zero, refP q PV.zero, memP b 0 (fun _ => 0), opsP v ys]) (fun _ i _ => R - (intOf i).toNat)
      case atStart => exact ⟨0, by omega, rfl, _, by first | rfl | omega, HY.out, HS0.out⟩
      case round =>
        clear HS0
        obtain ⟨k, hk, rfl, ys, hyl, hyg, hs⟩ := hrel
        have HS := Lib.hid hs; clear hs
        have HY := Lib.hid hyg; clear hyg
        by_cases hlt : k < R
        · have HR := Lib.hid (opsP_row HS.out (i := 3) rfl)
          go_wp2_with (at_builtin; refine wpList_append_own_at _ rfl _ _ 22 rfl 0 36 i0 z0 4 32 Try.underlying22 HI.out HZ0.out HZ1.out HZ2.out HZ3.out (by decide) u10 ys.length (opsC ys) rfl (World.ownsRow.alloc HR.out _) ⟨wr.heap.size, 0, none⟩ 4 4 [.int .i64 1, .int .i64 (8 + (k : Int)), .int .u64 0, .bool false, .int .i64 6, .int .i64 0, .int .u64 0, .bool false, .int .i64 6, .int .i64 0, .int .u64 0, .bool false, .int .i64 8, .int .i64 0, .int .u64 0, .bool false] rfl rfl (World.news_of_block (t := 36) (fr := (0, 0)) (new_block wr _)) (by simp [Value.oneCell']) (by unfold maxLen; omega) (by omega) (by omega) ?_; intro v' w5 hown5 hgrow5 hnil5 hat5; have H5 := Lib.hid (ops_grown (ys := [⟨1, 8 + (k : Int), 0, false⟩, opz 6, opz 6, opz 8]) (HS.out.idle ((Below.refl _ _).alloc (Nat.le_refl _) _)) (i := 3) rfl hown5 hgrow5 hat5); clear hown5 hgrow5 hnil5 hat5)
          go_roundw
          case rel => exact ⟨k + 1, by omega, by go_num, ys ++ [⟨1, 8 + (k : Int), 0, false⟩, opz 6, opz 6, opz 8], by simp; omega, fun y hy => by
            rcases List.mem_append.1 hy with h | h
            · exact HY.out y h
            · rcases List.mem_cons.1 h with rfl | h
              · exact op_good (by omega) (by omega) (by omega)
              · rcases List.mem_cons.1 h with rfl | h
                · exact opz_good (by omega)
                · rcases List.mem_cons.1 h with rfl | h
                  · exact opz_good (by omega)
                  · obtain rfl := List.mem_singleton.1 h; exact opz_good (by omega), H5.out⟩
          case measure => simp [intOf]; omega
        · obtain rfl : R = k := by omega
          have HS0 := HS; clear HS
          go_wp2
          go_loopw [10, 13] (fun v i wr => ∃ k : Nat, k ≤ N ∧ i = .int .i64 k ∧ ∃ ys : List OpQ, ys.length = 6 + 4 * R + 2 * k ∧ (∀ y ∈ ys, y.good) ∧ Aparts w wr [pathP p PV.zero, refP q PV.zero, memP b 0 (fun _ => 0), opsP v ys]) (fun _ i _ => N - (intOf i).toNat)
          case atStart => exact ⟨0, by omega, rfl, _, by first | rfl | omega, HY.out, HS0.out⟩
          case round =>
            clear HS0
            obtain ⟨k, hk, rfl, ys, hyl, hyg, hs⟩ := hrel
            have HS := Lib.hid hs; clear hs
            have HY := Lib.hid hyg; clear hyg
            by_cases hlt : k < N
            · have HR := Lib.hid (opsP_row HS.out (i := 3) rfl)
              go_wp2_with (at_builtin; refine wpList_append_own_at _ rfl _ _ 22 rfl 0 36 i0 z0 4 32 Try.underlying22 HI.out HZ0.out HZ1.out HZ2.out HZ3.out (by decide) u10 ys.length (opsC ys) rfl (World.ownsRow.alloc HR.out _) ⟨wr.heap.size, 0, none⟩ 2 2 [.int .i64 2, .int .i64 (8 + 2 * (k : Int)), .int .u64 (k : Int), .bool false, .int .i64 9, .int .i64 0, .int .u64 0, .bool false] rfl rfl (World.news_of_block (t := 36) (fr := (0, 0)) (new_block wr _)) (by simp [Value.oneCell']) (by unfold maxLen; omega) (by omega) (by omega) ?_; intro v' w5 hown5 hgrow5 hnil5 hat5; have H5 := Lib.hid (ops_grown (ys := [⟨2, 8 + 2 * (k : Int), (k : Int), false⟩, opz 9]) (HS.out.idle ((Below.refl _ _).alloc (Nat.le_refl _) _)) (i := 3) rfl hown5 hgrow5 hat5); clear hown5 hgrow5 hnil5 hat5)
              go_roundw
              case rel => exact ⟨k + 1, by omega, by go_num, ys ++ [⟨2, 8 + 2 * (k : Int), (k : Int), false⟩, opz 9], by simp; omega, fun y hy => by
                rcases List.mem_append.1 hy with h | h
                · exact HY.out y h
                · rcases List.mem_cons.1 h with rfl | h
                  · exact op_good (by omega) (by omega) (by omega)
                  · obtain rfl := List.mem_singleton.1 h; exact opz_good (by omega), H5.out⟩
              case measure => simp [intOf]; omega
            · obtain rfl : N = k := by omega
              obtain ⟨gz, cz, rfl, -, -⟩ := (opsP_row HS.out (i := 3) rfl).form (by omega)
              have HR := Lib.hid (opsP_row HS.out (i := 3) rfl)
              go_wp2_with (at_builtin; refine wpList_append_own_none rfl _ _ 22 rfl 0 36 i0 4 Try.underlying22 HI.out _ ys.length (opsC ys) rfl HR.out rfl ?_)
              obtain ⟨zs, hzs⟩ : ∃ zs, zs = ys ++ xs := ⟨_, rfl⟩
              have H6 : Aparts w wr [pathP p PV.zero, refP q PV.zero, memP b 0 (fun _ => 0), opsP (.slice (some ⟨gz, 0, none⟩) zs.length cz) zs] := by rw [hzs, HXN.out, List.append_nil]; exact HS.out
              clear HS HR
              first | rw [show 6 + 4 * R + 2 * N = zs.length from by rw [hzs, HXN.out, List.append_nil, hyl]] | rw [show ys.length = zs.length from by rw [hzs, HXN.out, List.append_nil]]
              have HZ := Lib.hid (show ∀ x ∈ zs, x.good from fun y hy => by
                rw [hzs] at hy
                rcases List.mem_append.1 hy with h | h
                · exact HY.out y h
                · exact HG.out y h)
              have hzl : zs.length ≤ 1506 := by rw [hzs, List.length_append, hyl]; omega
              clear hzs
              have HF := Lib.hid H6; clear H6
              go_wp2
              go_loopw [14] (fun i wr => ∃ (k c : Nat) (y : PV) (m : Int → Int), k ≤ zs.length ∧ c ≤ k ∧ y.ok ∧ 0 ≤ y.pts ∧ y.pts ≤ k ∧ i = .int .i64 k ∧ Aparts w wr [pathP p y, refP q y, memP b c m, opsP (.slice (some ⟨gz, 0, none⟩) zs.length cz) zs]) (fun i _ => zs.length - (intOf i).toNat)
              case atStart => exact ⟨0, 0, PV.zero, fun _ => 0, by omega, by omega, PV.ok_zero, by decide, by decide, rfl, HF.out⟩
              case round =>
                clear HF
                obtain ⟨k, c, y, m, hk2, hck, ho, p0, p9, rfl, hs⟩ := hrel
                have HS2 := Lib.hid hs; clear hs
                have HO := Lib.hid ho; clear ho
                by_cases hlt2 : k < zs.length
                · obtain ⟨x, hxk⟩ : ∃ x, zs[k]? = some x := ⟨zs[k], List.getElem?_eq_getElem hlt2⟩
                  have Hr := Lib.hid (ops_at (opsP_row HS2.out (i := 3) rfl) hxk)
                  have HD := Lib.hid (do_any HS2.out HO.out p0 (by omega) (by omega) x (HZ.out x (List.mem_of_getElem? hxk)))
                  clear hxk
                  go_wp2_with (first | (refine wpList_load_mid rfl 36 (.tmp 90) rfl gz (k * 4) rfl x.cells _ ?_ Try.underlying36 rfl Try.sizeOp ?_; exact Hr.out) | (go_at_call 11; refine HD.out.mono ?_; rintro e V ⟨rfl, y', c', m', e1, e2, e3, e4, h1⟩; have HV := Lib.hid h1; have HE := Lib.hid (And.intro e1 (And.intro e2 (And.intro e3 e4))); clear h1 e1 e2 e3 e4))
                  obtain ⟨e1, e2, e3, e4⟩ := HE.out
                  go_roundw
                  case rel => exact ⟨k + 1, c', y', m', by omega, by omega, e2, by omega, by omega, by go_num, HV.out⟩
                  case measure => simp [intOf]; omega
                · obtain rfl : k = zs.length := by omega
                  have HZ2 := Lib.hid (same_any (Aparts.init (l := [pathP p y, refP q y, memP b c m]) HS2.out))
                  have HB := Lib.hid HS2.out.below
                  go_wp2_with (go_at_call 12; refine HZ2.out.mono ?_; rintro e V ⟨rfl, hb⟩; have HV := Lib.hid (HB.out.trans (hb.mono HB.out.size)); clear hb)
                  go_ret
                  exact ⟨rfl, HV.out⟩

end Go.Proofs.Ythepmejfgbfilaa
