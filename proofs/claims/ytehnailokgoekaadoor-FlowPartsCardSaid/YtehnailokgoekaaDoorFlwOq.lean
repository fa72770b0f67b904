/- The document's Parts: the walk. Conditions: those stated in each theorem. -/
import Derived.Test.YtehnailokgoekaaDoorFlwOr
import Derived.Deep.CutRange
namespace Go.Proofs.YtehnailokgoekaaDoor
open Go.RowKit Go.BigFrame Go.Shelf
attribute [local go_sem ↓ high] appN_eq appQ_eq

set_option maxRecDepth 100000 in
set_option maxHeartbeats 4000000 in
theorem rparts_any (a : Option Addr) (cap : Nat) (c : List In) (hn : c.length ≤ 1024) (hi : ∀ i ∈ c, I64 i.imm) (W : World) (hr : RowsIn W a 5 In.cells c) :
    Calls Tryd.prog 6 #[.slice a c.length cap] W fun e w' => ∃ v, e = .returned v ∧ PartsAt w' W.heap.size v (partsP c) ∧ Below W.heap.size W w' := by
  obtain ⟨i1, hj0, hj1, hj2, hj3⟩ := flw_info Tryd.infoBoolF
  obtain ⟨i2, hk0, hk1, hk2, hk3⟩ := flw_info Tryd.infoIntF
  have Hj := Lib.hid (And.intro hj0 (And.intro hj1 (And.intro hj2 hj3))); clear hj0 hj1 hj2 hj3
  have Hk := Lib.hid (And.intro hk0 (And.intro hk1 (And.intro hk2 hk3))); clear hk0 hk1 hk2 hk3
  have H := Lib.hid (And.intro hr (And.intro hi hn)); clear hr hi hn
  have HG := Lib.hid (fun (V : World) (hV : Below W.heap.size W V) (k : Nat) (i : In) (h : c[k]? = some i) => rgoes_flow a cap c H.out.2.2 V (H.out.1.below hV) k i h (H.out.2.1 i (List.mem_of_getElem? h)))
  obtain ⟨N, hN⟩ : ∃ N, c.length + 1 = N := ⟨_, rfl⟩
  have hw1 : IntKind.i64.wrap ((c.length : Int) + 1) = (N : Int) := by rw [IntKind.wrap_i64]; have := H.out.2.2; omega
  have HN := Lib.hid hN; clear hN
  go_enter Tryd.func6, Tryd.ntmps6
  go_upto_region 2 with (at_make; refine wpList_make_full _ rfl _ _ 36 rfl W.heap.size 4 i1 _ 1 Tryd.underlying36 Hj.out.1 Hj.out.2.1 Hj.out.2.2.1 .i64 .i64 N N N rfl rfl rfl rfl (by rw [Hj.out.2.2.2]; have := H.out.2.2; have := HN.out; omega) (by unfold maxLen; have := H.out.2.2; have := HN.out; omega) (Nat.le_refl _) ?_; intro w2 ho2 hg2; have Ho2 := Lib.hid (owns_full ho2); have Hb2 := Lib.hid ((Below.refl W.heap.size W).grown hg2 (Nat.le_refl _) (fun g e => by cases e)); clear ho2 hg2)
  rw [made_bool] at Ho2
  have hrep : List.replicate N (Value.bool false) = cellsB (List.replicate N false) := by simp [cellsB]
  rw [hrep] at Ho2
  clear hrep Hj
  have hn0 : (0 : Int) < N := by have := HN.out; omega
  have c0 := Ho2.out.cell (i := 0) (v := .bool false) (by rw [cellsB, List.map_replicate, List.getElem?_replicate, if_pos (by have := HN.out; omega)])
  have f0 := Ho2.out.free 0
  have hst1 : FsL ((List.replicate N false).set 0 true) N (frsB c 0) := ((FsL.none N).set (q := 0) (by have := HN.out; omega)).congr (fun p _ => by simp [frsB])
  have hho1 : Holds (w2.setCell ⟨W.heap.size, 0, none⟩ (.bool true)) W.heap.size 4 (cellsB ((List.replicate N false).set 0 true)) := by
    have := Ho2.out.set 0 (.bool true)
    rwa [cellsB_set] at this
  have hbe1 : Below W.heap.size W (w2.setCell ⟨W.heap.size, 0, none⟩ (.bool true)) := Hb2.out.setCell (p := ⟨W.heap.size, 0, none⟩) (Nat.le_refl _) _
  have HS := Lib.hid (And.intro hbe1 (And.intro hho1 hst1)); clear hbe1 hho1 hst1 Ho2 Hb2
  go_wp2_with fail
  clear c0 f0
  go_loopw [4] (fun s4 V => ∃ (k : Nat) (L : List Bool), s4 = .int .i64 k ∧ k ≤ c.length ∧ Below W.heap.size W V ∧ Holds V W.heap.size 4 (cellsB L) ∧ FsL L N (frsB c k)) (fun s4 _ => c.length - (intOf s4).toNat)
  case atStart => exact ⟨0, _, rfl, Nat.zero_le _, HS.out.1, HS.out.2.1, HS.out.2.2⟩
  case round =>
    obtain ⟨k, L, rfl, hk, hbe, hho, hfs⟩ := hrel
    obtain ⟨wk, hwk⟩ : ∃ x, x = wr := ⟨_, rfl⟩
    subst hwk
    by_cases hlt : k < c.length
    · obtain ⟨i, hi⟩ : ∃ i, c[k]? = some i := ⟨_, List.getElem?_eq_getElem hlt⟩
      have hki : (0 : Int) ≤ (k : Int) ∧ (k : Int) < c.length := by omega
      have hkk : IntKind.i64.wrap ((k : Int) + 1) = (k : Int) + 1 := by rw [IntKind.wrap_i64]; have := H.out.2.2; omega
      have HR := Lib.hid (HG.out wk hbe k i hi)
      have HL := Lib.hid (And.intro hbe (And.intro hho (And.intro hfs (And.intro hi hlt)))); clear hbe hho hfs hi hlt hk HS
      go_wp2_with fail
      refine HR.out.mono ?_
      rintro e w3 ⟨v, rfl, hown, hb3⟩
      obtain ⟨ad, vc, rfl, hsm⟩ := owns_slice hown
      have H3 := Lib.hid (And.intro hown (And.intro (HL.out.1.trans (hb3.mono HL.out.1.size)) (And.intro (HL.out.2.1.below hb3) hsm))); clear hown hb3 hsm HR
      have hen := endsAt_some HL.out.2.2.2.1
      cases hv : endsP i with
      | false =>
        rw [hv] at hen
        have hnx : FsL L N (frsB c (k + 1)) := HL.out.2.2.1.congr (fun p _ => by rw [frsB_succ, hen]; simp)
        have HX := Lib.hid hnx; clear hnx hen hv
        go_wp2_with fail
        go_roundw
        case rel => exact ⟨k + 1, L, rfl, by have := HL.out.2.2.2.2; omega, H3.out.2.1, H3.out.2.2.1, HX.out⟩
        case measure => simp [intOf]; have := HL.out.2.2.2.2; omega
      | true =>
        rw [hv] at hen
        have Hen := Lib.hid hen; clear hen hv
        have hk1 : (0 : Int) ≤ (k : Int) + 1 ∧ (k : Int) + 1 < N := by have := HN.out; have := HL.out.2.2.2.2; omega
        have cm := H3.out.2.2.1.cell (i := k + 1) (v := .bool (isAt L (k + 1))) (by rw [cellsB, List.getElem?_map, isAt_get (by rw [HL.out.2.2.1.1]; have := HN.out; have := HL.out.2.2.2.2; omega)]; rfl)
        have fm := H3.out.2.2.1.free (k + 1)
        have hst4 : Below W.heap.size W (w3.setCell ⟨W.heap.size, k + 1, none⟩ (.bool true)) ∧ Holds (w3.setCell ⟨W.heap.size, k + 1, none⟩ (.bool true)) W.heap.size 4 (cellsB (L.set (k + 1) true)) ∧ FsL (L.set (k + 1) true) N (fun p => frsB c k p || (p == k + 1 || ((gosP c k).take 0).contains p)) ∧ (w3.setCell ⟨W.heap.size, k + 1, none⟩ (.bool true)).ownsRow wk.heap.size 3 1 (.slice ad (gosP c k).length vc) (gosP c k).length (cellsN (gosP c k)) := by
          refine ⟨H3.out.2.1.setCell (p := ⟨W.heap.size, k + 1, none⟩) (Nat.le_refl _) _, ?_, (HL.out.2.2.1.set (q := k + 1) (by have := HN.out; have := HL.out.2.2.2.2; omega)).congr (fun p _ => by simp), ints_keep H3.out.1 H3.out.2.2.1 _ _⟩
          have := H3.out.2.2.1.set (k + 1) (.bool true)
          rwa [cellsB_set] at this
        have H4 := Lib.hid hst4; clear hst4
        go_wp2_with fail
        clear cm fm hk1
        go_loopw [7] (fun s7 V => ∃ (j : Nat) (L' : List Bool), s7 = .int .i64 j ∧ j ≤ (gosP c k).length ∧ Below W.heap.size W V ∧ Holds V W.heap.size 4 (cellsB L') ∧ FsL L' N (fun p => frsB c k p || (p == k + 1 || ((gosP c k).take j).contains p)) ∧ V.ownsRow wk.heap.size 3 1 (.slice ad (gosP c k).length vc) (gosP c k).length (cellsN (gosP c k))) (fun s7 _ => (gosP c k).length - (intOf s7).toNat)
        case atStart => exact ⟨0, _, rfl, Nat.zero_le _, H4.out.1, H4.out.2.1, H4.out.2.2.1, H4.out.2.2.2⟩
        case round =>
          obtain ⟨j, L', rfl, hj, hbe4, hho4, hfs4, how4⟩ := hrel
          by_cases hjl : j < (gosP c k).length
          · obtain ⟨x, hx⟩ : ∃ x, (gosP c k)[j]? = some x := ⟨_, List.getElem?_eq_getElem hjl⟩
            obtain ⟨g, rfl⟩ := H3.out.2.2.2 (by omega)
            have cx := (owns_cell how4 (g := g) rfl (j := j) (u := .int .i64 (x : Nat)) (by simp [cellsN, hx])).1
            have hxl : x < c.length := gosP_lt (List.mem_of_getElem? hx)
            have hji : (0 : Int) ≤ (j : Int) ∧ (j : Int) < (gosP c k).length := by omega
            have hxi : (0 : Int) ≤ (x : Int) ∧ (x : Int) < N := by have := HN.out; omega
            have hjj : IntKind.i64.wrap ((j : Int) + 1) = (j : Int) + 1 := by rw [IntKind.wrap_i64]; have := gosP_len c k; omega
            have cm := hho4.cell (i := x) (v := .bool (isAt L' x)) (by rw [cellsB, List.getElem?_map, isAt_get (by rw [hfs4.1]; have := HN.out; omega)]; rfl)
            have fm := hho4.free x
            have htake : (gosP c k).take (j + 1) = (gosP c k).take j ++ [x] := by rw [List.take_add_one, hx]; rfl
            have hnx : FsL (L'.set x true) N (fun p => frsB c k p || (p == k + 1 || ((gosP c k).take (j + 1)).contains p)) := (hfs4.set (q := x) (by have := HN.out; omega)).congr (fun p _ => by
              rw [htake]
              simp only [List.contains_append, List.contains_cons, List.contains_nil, Bool.or_false]
              rw [Bool.or_assoc, Bool.or_assoc])
            have hho5 : Holds (wr.setCell ⟨W.heap.size, x, none⟩ (.bool true)) W.heap.size 4 (cellsB (L'.set x true)) := by
              have := hho4.set x (.bool true)
              rwa [cellsB_set] at this
            have HX := Lib.hid (And.intro (hbe4.setCell (p := ⟨W.heap.size, x, none⟩) (Nat.le_refl _) (.bool true)) (And.intro hho5 (And.intro hnx (ints_keep how4 hho4 x (.bool true))))); clear hbe4 hho4 hnx hfs4 how4 hho5 htake hxl
            have Hjl := Lib.hid (And.intro hjl hx); clear hjl hj hx
            go_wp2_with fail
            go_roundw
            case rel => exact ⟨j + 1, L'.set x true, rfl, by have := Hjl.out.1; omega, HX.out.1, HX.out.2.1, HX.out.2.2.1, HX.out.2.2.2⟩
            case measure => simp [intOf]; have := Hjl.out.1; omega
          · have hje : j = (gosP c k).length := by omega
            have hnx : FsL L' N (frsB c (k + 1)) := hfs4.congr (fun p _ => by
              rw [frsB_succ, Hen.out, hje, List.take_length]; simp)
            have HX := Lib.hid (And.intro hbe4 (And.intro hho4 hnx)); clear hbe4 hho4 hnx hfs4 how4 hjl hj
            subst hje
            go_wp2_with fail
            go_roundw
            case rel => exact ⟨k + 1, L', rfl, by have := HL.out.2.2.2.2; omega, HX.out.1, HX.out.2.1, HX.out.2.2⟩
            case measure => simp [intOf]; have := HL.out.2.2.2.2; omega
    · have hke : k = c.length := by omega
      subst hke
      have hfe : FsL L N (frsB c c.length) := hfs
      have HF := Lib.hid (And.intro hbe (And.intro hho hfe)); clear hbe hho hfs hfe hk hlt HS
      go_wp2_with (at_make; refine wpList_make_full _ rfl _ _ 30 rfl wk.heap.size 3 i2 _ 1 Tryd.underlying30 Hk.out.1 Hk.out.2.1 Hk.out.2.2.1 .i64 .i64 N N N rfl rfl rfl rfl (by rw [Hk.out.2.2.2]; have := H.out.2.2; have := HN.out; omega) (by unfold maxLen; have := H.out.2.2; have := HN.out; omega) (Nat.le_refl _) ?_; intro w5 ho5 hg5; have Ho5 := Lib.hid (owns_full ho5); have Hb5 := Lib.hid ((Below.refl wk.heap.size wk).grown hg5 (Nat.le_refl _) (fun g e => by cases e)); clear ho5 hg5)
      rw [made_int] at Ho5
      have hgn : W.heap.size < wk.heap.size := HF.out.2.1.lt
      have hst5 : PhB W c N wk.heap.size L 0 0 (.slice none 0 0) w5 := ⟨HF.out.1.trans (Hb5.out.mono HF.out.1.size), HF.out.2.1.below Hb5.out, ⟨_, by simp, Ho5.out, fun j h => by omega⟩, World.ownsRow_nil _ _ _ _⟩
      have H5 := Lib.hid (And.intro hst5 (And.intro hgn HF.out.2.2)); clear hst5 hgn Ho5 Hb5 HF Hk
      generalize wk.heap.size = gn at *
      go_loopw [9, 10] (fun s9 s10 V => ∃ k : Nat, s10 = .int .i64 k ∧ k ≤ c.length ∧ PhB W c N gn L k k s9 V) (fun _ s10 _ => c.length - (intOf s10).toNat)
      case atStart => exact ⟨0, rfl, Nat.zero_le _, H5.out.1⟩
      case round =>
        obtain ⟨k, rfl, hk, hph⟩ := hrel
        by_cases hlt : k < c.length
        · have hki : (0 : Int) ≤ (k : Int) ∧ (k : Int) < c.length := by omega
          have hkN : (0 : Int) ≤ (k : Int) ∧ (k : Int) < N := by have := HN.out; omega
          have hkk : IntKind.i64.wrap ((k : Int) + 1) = (k : Int) + 1 := by rw [IntKind.wrap_i64]; have := H.out.2.2; omega
          have hbL := begK_count c hlt
          have hml : IntKind.i64.wrap (((begK c (k + 1)).length : Int) - 1) = (numP c k : Nat) := by rw [hbL, IntKind.wrap_i64]; have := H.out.2.2; have : (begK c (k + 1)).length ≤ k + 1 := (by unfold begK; exact Nat.le_trans (List.length_filter_le _ _) (by simp)); omega
          have hat : isAt L k = firstP c k := by rw [H5.out.2.2.2 k (by have := HN.out; omega), frsB_end hlt]
          have cf := hph.fst.cell (i := k) (v := .bool (isAt L k)) (by rw [cellsB, List.getElem?_map, isAt_get (by rw [H5.out.2.2.1]; have := HN.out; omega)]; rfl)
          rw [hat] at cf
          have hle : (begK c k).length ≤ 1000000 := by have := H.out.2.2; have : (begK c k).length ≤ k := (by unfold begK; exact Nat.le_trans (List.length_filter_le _ _) (by simp)); omega
          have HP := Lib.hid (And.intro hph (And.intro hlt hle)); clear hph hlt hle hk hbL hat
          have Hkk := Lib.hid hkk; clear hkk
          cases hf : firstP c k with
          | false =>
            rw [hf] at cf
            have hph6 := HP.out.1.skip hf
            obtain ⟨ad, vc, rfl, -⟩ := owns_slice hph6.row
            obtain ⟨Nm, n1, n2, -⟩ := hph6.num
            have cn := n2.cell (i := k) (v := .int .i64 (Nm.getD k 0 : Nat)) (by have : k < Nm.length := (by have := HP.out.2.1; have := HN.out; omega); simp [cellsN, List.getD, this])
            have fn := n2.free k
            have H6 := Lib.hid (hph6.put H5.out.2.1 (by have := HP.out.2.1; have := HN.out; omega)); clear hph6 n1 n2 hf
            generalize (Nm.getD k 0) = old at cn
            have hkk := Hkk.out
            go_wp2_with fail
            go_roundw
            case rel => exact ⟨k + 1, rfl, by have := HP.out.2.1; omega, H6.out⟩
            case measure => simp [intOf]; have := HP.out.2.1; omega
          | true =>
            rw [hf] at cf
            obtain ⟨g6, cap6, w6, hap, hph6⟩ := HP.out.1.app hf HP.out.2.2
            obtain ⟨Nm, n1, n2, -⟩ := hph6.num
            have cn := n2.cell (i := k) (v := .int .i64 (Nm.getD k 0 : Nat)) (by have : k < Nm.length := (by have := HP.out.2.1; have := HN.out; omega); simp [cellsN, List.getD, this])
            have fn := n2.free k
            have H6 := Lib.hid (hph6.put H5.out.2.1 (by have := HP.out.2.1; have := HN.out; omega)); clear hph6 n1 n2 hf
            generalize (Nm.getD k 0) = old at cn
            have hkk := Hkk.out
            go_wp2_with fail
            go_roundw
            case rel => exact ⟨k + 1, rfl, by have := HP.out.2.1; omega, H6.out⟩
            case measure => simp [intOf]; have := HP.out.2.1; omega
        · have hke : k = c.length := by omega
          subst hke
          have hpc := PhC.start hph H5.out.2.1
          obtain ⟨ad, vc, rfl, hsm⟩ := owns_slice hpc.row
          have hbl : (bgV (begsP c)).length = (begsP c).length := hpc.len
          rw [hbl] at hsm ⊢
          rw [hbl] at hpc
          generalize wr.heap.size = B at hpc
          have hM : (begsP c).length ≤ 1024 := Nat.le_trans (begs_le c) H.out.2.2
          have HE := Lib.hid (And.intro hpc (And.intro hsm hM)); clear hpc hsm hM hph hk hlt
          go_wp2_with fail
          go_loopw [11] (fun s11 V => ∃ (n : Nat) (L3 : List PV), s11 = .int .i64 n ∧ n ≤ (begsP c).length ∧ PhC W c N gn B (.slice ad (begsP c).length vc) n L3 V) (fun s11 _ => (begsP c).length - (intOf s11).toNat)
          case atStart => exact ⟨0, _, rfl, Nat.zero_le _, HE.out.1⟩
          case round =>
            obtain ⟨n, L3, rfl, hnl, hpc⟩ := hrel
            obtain ⟨wn, hwn⟩ : ∃ x, x = wr := ⟨_, rfl⟩
            subst hwn
            by_cases hlt : n < (begsP c).length
            · obtain ⟨g, rfl⟩ := HE.out.2.1 (by omega)
              obtain ⟨x, hx⟩ : ∃ x, L3[n]? = some x := ⟨_, List.getElem?_eq_getElem (by rw [hpc.len]; exact hlt)⟩
              obtain ⟨y, hy, hxy, -⟩ := hpc.lo n x hx
              obtain ⟨-, c1, f1, -⟩ := hpc.cells hx
              have h7 := hpc.setHi hx c.length
              have hni : (0 : Int) ≤ (n : Int) ∧ (n : Int) < (begsP c).length := by omega
              have hnn : IntKind.i64.wrap ((n : Int) + 1) = (n : Int) + 1 := by rw [IntKind.wrap_i64]; have := HE.out.2.2; omega
              have Hn := Lib.hid (And.intro hlt (And.intro hx (And.intro hy hxy))); clear hlt hx hy hxy hnl
              have H7 := Lib.hid h7; clear h7 hpc
              go_upto_region 25 with fail
              clear c1 f1
              generalize wn.setCell ⟨g, n * 3 + 1, none⟩ (.int .i64 (c.length : Nat)) = w7 at *
              have hx7 : (L3.set n ⟨x.lo, c.length, x.nv⟩)[n]? = some ⟨x.lo, c.length, x.nv⟩ := by
                have := (List.getElem?_eq_some_iff.1 Hn.out.2.1).1
                simp [this]
              have Hx7 := Lib.hid hx7; clear hx7
              go_upto_if 93 with fail
              go_cut [] from 93 to 103 (fun wx => PhC W c N gn B (.slice (some ⟨g, 0, none⟩) (begsP c).length vc) n (L3.set n ⟨x.lo, y.2, x.nv⟩) wx)
              case first =>
                by_cases hl1 : n + 1 < (begsP c).length
                · have d1 : decide ((n : Int) + 1 < ((begsP c).length : Int)) = true := decide_eq_true (by omega)
                  obtain ⟨x', hx'⟩ : ∃ x', (L3.set n ⟨x.lo, c.length, x.nv⟩)[n + 1]? = some x' := ⟨_, List.getElem?_eq_getElem (by rw [H7.out.len]; exact hl1)⟩
                  obtain ⟨y', hy', hxy', -⟩ := H7.out.lo (n + 1) x' hx'
                  obtain ⟨c0, -, -, -⟩ := H7.out.cells hx'
                  obtain ⟨-, c1, f1, -⟩ := H7.out.cells Hx7.out
                  have he : y.2 = x'.lo := (spans_chain c.length (begsP c) n y y' Hn.out.2.2.1 hy').trans hxy'.symm
                  have h8 := H7.out.setHi Hx7.out x'.lo
                  rw [List.set_set, ← he] at h8
                  have H8 := Lib.hid h8; clear h8 hx' hy' hxy'
                  have hn1 : (0 : Int) ≤ (n : Int) + 1 ∧ (n : Int) + 1 < (begsP c).length := by omega
                  have He := Lib.hid he; clear he hl1
                  go_wp2_with fail
                  go_meet
                  case rel => rw [← He.out] at *; exact H8.out
                · have hl2 : n + 1 = (begsP c).length := by have := Hn.out.1; omega
                  have d1 : decide ((n : Int) + 1 < ((begsP c).length : Int)) = false := decide_eq_false (by omega)
                  have d2 : ¬ ((n : Int) + 1 < ((begsP c).length : Int)) := by omega
                  have d3 : decide (n + 1 < (begsP c).length) = false := decide_eq_false (by omega)
                  have he : y.2 = c.length := spans_end c.length (begsP c) y (by rw [← hl2, Nat.add_sub_cancel]; exact Hn.out.2.2.1)
                  have He := Lib.hid he; clear he hl1 hl2
                  go_wp2_with fail
                  go_meet
                  case rel => rw [He.out]; exact H7.out
              case rest =>
                have hx9 : (L3.set n ⟨x.lo, y.2, x.nv⟩)[n]? = some ⟨x.lo, y.2, x.nv⟩ := by
                  have := (List.getElem?_eq_some_iff.1 Hn.out.2.1).1
                  simp [this]
                obtain ⟨c0, c1, -, -⟩ := hcut.cells hx9
                have hyl : y.1 < y.2 ∧ y.2 ≤ c.length := spans_lt c.length (begsP c) (begs_sorted c) (fun _ => begs_lt) y (List.mem_of_getElem? Hn.out.2.2.1)
                obtain ⟨i, hi⟩ : ∃ i, c[y.2 - 1]? = some i := ⟨_, List.getElem?_eq_getElem (by omega)⟩
                have hw2 : IntKind.i64.wrap (((y.2 : Nat) : Int) - 1) = ((y.2 - 1 : Nat) : Int) := by rw [IntKind.wrap_i64]; have := H.out.2.2; omega
                have HR := Lib.hid (HG.out wc hcut.below (y.2 - 1) i hi)
                have H9 := Lib.hid (And.intro hcut (And.intro hx9 hyl)); clear hcut hx9 hyl hi c0 H7 Hx7
                obtain ⟨q, hq⟩ : ∃ q, y.2 - 1 = q := ⟨_, rfl⟩
                rw [hq] at hw2 HR
                have Hq := Lib.hid hq; clear hq
                go_wp2_with fail
                refine HR.out.mono ?_
                rintro e w10 ⟨v, rfl, hown, hb10⟩
                clear c1
                obtain ⟨ad, vc2, rfl, hsm⟩ := owns_slice hown
                have hcx := H9.out.1.stay hb10
                have hms := PhM.start hcx H9.out.2.1
                obtain ⟨Nm, n1, n2, n3⟩ := hcx.num
                have HX := Lib.hid (And.intro hcx (And.intro hown hsm)); clear hcx hown hsm hb10 HR
                have HNm := Lib.hid (And.intro n1 (And.intro n2 n3)); clear n1 n2 n3
                have HMs := Lib.hid hms; clear hms
                go_wp2_with fail
                go_loopw [14] (fun s14 V => ∃ (m : Nat) (nv : Value), s14 = .int .i64 m ∧ m ≤ (begsP c).length ∧ PhM W w10 g (begsP c).length vc n (L3.set n ⟨x.lo, y.2, x.nv⟩) ⟨x.lo, y.2, x.nv⟩ (nextK c y.2 m) nv V) (fun s14 _ => (begsP c).length - (intOf s14).toNat)
                case atStart => exact ⟨0, _, rfl, Nat.zero_le _, HMs.out⟩
                case round =>
                  obtain ⟨m, nv, rfl, hm, hpm⟩ := hrel
                  by_cases hml : m < (begsP c).length
                  · have hmm : IntKind.i64.wrap ((m : Int) + 1) = (m : Int) + 1 := by rw [IntKind.wrap_i64]; have := HE.out.2.2; omega
                    obtain ⟨wm, hwm⟩ : ∃ x, x = wr := ⟨_, rfl⟩
                    subst hwm
                    obtain ⟨cc, hck⟩ := owns_kind HX.out.1.row (k := g) rfl
                    have hgos : wm.ownsRow wc.heap.size 3 1 (.slice ad (gosP c q).length vc2) (gosP c q).length (cellsN (gosP c q)) := owns_same HX.out.2.1 (fun gg e => hpm.tch.block gg (owns_lt HX.out.2.1 e).2 (fun e2 => by
                      obtain ⟨c2, h2⟩ := owns_kind HX.out.2.1 e
                      rw [e2, hck] at h2; cases h2))
                    have hnum := hpm.tch.holds (fun e => HX.out.1.ne e) HNm.out.2.1
                    have hln : n < (L3.set n ⟨x.lo, y.2, x.nv⟩).length := (List.getElem?_eq_some_iff.1 H9.out.2.1).1
                    have hcn := (owns_cell hpm.row (g := g) rfl (j := n * 3 + 2) (u := nv) (by rw [flatV_at _ n 2 ⟨x.lo, y.2, nv⟩ (by rw [List.getElem?_set]; simp [(List.getElem?_eq_some_iff.1 Hn.out.2.1).1]) (by omega)]; rfl)).1
                    have hmi : (0 : Int) ≤ (m : Int) ∧ (m : Int) < (begsP c).length := by omega
                    have Hm := Lib.hid (And.intro hml (And.intro hmm (And.intro hpm (And.intro hgos hnum)))); clear hml hmm hpm hgos hnum hm hck HMs
                    have Hcn := Lib.hid (And.intro hcn hln); clear hcn hln
                    go_wp2_with fail
                    go_loopw [15, 16] (fun s15 s16 V => ∃ k : Nat, s16 = .int .i64 k ∧ k ≤ (gosP c q).length ∧ s15 = .bool ((((gosP c q).take k).map (numP c)).contains m) ∧ V = wm) (fun _ s16 _ => (gosP c q).length - (intOf s16).toNat)
                    case atStart => exact ⟨0, rfl, Nat.zero_le _, by simp, rfl⟩
                    case round =>
                      obtain ⟨k, rfl, hk, rfl, hwm⟩ := hrel
                      have hwm := hwm.symm
                      subst hwm
                      by_cases hkl : k < (gosP c q).length
                      · obtain ⟨z, hz⟩ : ∃ z, (gosP c q)[k]? = some z := ⟨_, List.getElem?_eq_getElem hkl⟩
                        obtain ⟨gg, rfl⟩ := HX.out.2.2 (by omega)
                        have hzl : z < c.length := gosP_lt (List.mem_of_getElem? hz)
                        have cz := (owns_cell Hm.out.2.2.2.1 (g := gg) rfl (j := k) (u := .int .i64 (z : Nat)) (by simp [cellsN, hz])).1
                        have cn := Hm.out.2.2.2.2.cell (i := z) (v := .int .i64 (numP c z : Nat)) (by simp [cellsN, HNm.out.2.2 z hzl])
                        have hki : (0 : Int) ≤ (k : Int) ∧ (k : Int) < (gosP c q).length := by omega
                        have hzi : (0 : Int) ≤ (z : Int) ∧ (z : Int) < N := by have := HN.out; omega
                        have hkk : IntKind.i64.wrap ((k : Int) + 1) = (k : Int) + 1 := by rw [IntKind.wrap_i64]; have := gosP_len c q; omega
                        have htk : (((gosP c q).take (k + 1)).map (numP c)).contains m = ((((gosP c q).take k).map (numP c)).contains m || (numP c z == m)) := by
                          rw [List.take_add_one, hz]
                          simp only [Option.toList_some, List.map_append, List.map_cons, List.map_nil]
                          simp only [List.contains_append, List.contains_cons, List.contains_nil, Bool.or_false]
                          congr 1
                          exact BEq.comm
                        have Hz := Lib.hid (And.intro hkl htk); clear hkl htk hz hzl hk
                        generalize (((gosP c q).take k).map (numP c)).contains m = b at *
                        cases b with
                        | true =>
                          go_wp2_with fail
                          go_roundw
                          case rel => exact ⟨k + 1, rfl, by have := Hz.out.1; omega, by rw [Hz.out.2]; rfl, by first | rfl | trivial⟩
                          case measure => simp [intOf]; have := Hz.out.1; omega
                        | false =>
                          have hez : (((numP c z : Nat) : Int) == ((m : Nat) : Int)) = (numP c z == m) := by rw [Bool.eq_iff_iff]; simp only [beq_iff_eq]; omega
                          go_wp2_with fail
                          go_roundw
                          case rel => exact ⟨k + 1, rfl, by have := Hz.out.1; omega, by rw [Hz.out.2]; simp, by first | rfl | trivial⟩
                          case measure => simp [intOf]; have := Hz.out.1; omega
                      · have hke : k = (gosP c q).length := by omega
                        subst hke
                        rw [List.take_length]
                        have hcn := Hcn.out.1
                        have hmm := Hm.out.2.1
                        have hnk : nextK c y.2 (m + 1) = nextK c y.2 m ++ if ((gosP c q).map (numP c)).contains m then [m] else [] := by rw [nextK_succ, Hq.out]
                        have Hnk := Lib.hid hnk; clear hnk hk hkl
                        generalize ((gosP c q).map (numP c)).contains m = b at *
                        cases b with
                        | true =>
                          have hnl := nextK_le c y.2 m
                          obtain ⟨g', cap', w', hap, hc', hf', hpm'⟩ := Hm.out.2.2.1.app Hcn.out.2 HX.out.1.below.size (owns_lt HX.out.1.row (g := g) rfl).2 (by have := HE.out.2.2; have := Hm.out.1; omega) m
                          have HP := Lib.hid hpm'; clear hpm' hnl
                          have hnk : nextK c y.2 (m + 1) = nextK c y.2 m ++ [m] := by rw [Hnk.out]; simp
                          have HK := Lib.hid hnk; clear hnk
                          go_wp2_with fail
                          go_roundw
                          case rel => exact ⟨m + 1, _, rfl, by have := Hm.out.1; omega, by rw [HK.out]; exact HP.out⟩
                          case measure => simp [intOf]; have := Hm.out.1; omega
                        | false =>
                          have hnk : nextK c y.2 (m + 1) = nextK c y.2 m := by rw [Hnk.out]; simp
                          have HK := Lib.hid hnk; clear hnk
                          go_wp2_with fail
                          go_roundw
                          case rel => exact ⟨m + 1, nv, rfl, by have := Hm.out.1; omega, by rw [HK.out]; exact Hm.out.2.2.1⟩
                          case measure => simp [intOf]; have := Hm.out.1; omega
                  · have hme : m = (begsP c).length := by omega
                    subst hme
                    rw [nextK_end] at hpm
                    have hfin := PhM.done HX.out.1 H9.out.2.1 hpm Hn.out.2.2.1 rfl
                    rw [List.set_set] at hfin
                    have HF := Lib.hid hfin; clear hfin hpm hm hml HMs
                    go_wp2_with fail
                    go_roundw
                    case rel => exact ⟨n + 1, _, rfl, by have := Hn.out.1; omega, HF.out⟩
                    case measure => simp [intOf]; have := Hn.out.1; omega
            · have hne : n = (begsP c).length := by omega
              subst hne
              have HF := Lib.hid (And.intro hpc.parts hpc.below); clear hpc hnl hlt
              go_wp2_with fail
              go_ret
              exact ⟨_, rfl, HF.out.1, HF.out.2⟩

end Go.Proofs.YtehnailokgoekaaDoor
