/- FlowReaches: the walk. Conditions: those stated in each theorem. -/
import Derived.Test.YtehnailokgoekaaDoorFlwOq
import Derived.Test.YtehnailokgoekaaDoorFlwOb
import Derived.Test.YtehnailokgoekaaDoorFlwL
import Derived.Test.YtehnailokgoekaaDoorFlwR
import Derived.Deep.QuietTactic
namespace Go.Proofs.YtehnailokgoekaaDoor
open Go.RowKit Go.BigFrame Go.Shelf

theorem cells2_at : ∀ (l : List (Nat × Nat)) (k : Nat) (x : Nat × Nat), l[k]? = some x → (cells2 l)[k * 2]? = some (.int .i64 (x.1 : Nat)) ∧ (cells2 l)[k * 2 + 1]? = some (.int .i64 (x.2 : Nat))
  | [], _, _, h => by simp at h
  | y :: l, 0, x, h => by
    simp at h; subst h
    simp [cells2]
  | y :: l, k + 1, x, h => by
    have := cells2_at l k x (by simpa using h)
    have e : cells2 (y :: l) = [.int .i64 (y.1 : Nat), .int .i64 (y.2 : Nat)] ++ cells2 l := by simp [cells2]
    rw [e, show (k + 1) * 2 = k * 2 + 2 by omega, show k * 2 + 2 + 1 = (k * 2 + 1) + 2 by omega]
    simpa using this
theorem loopsTo_pre (ps : List Pt) (i : Nat) : ∀ n, i ≤ n → ∃ r, loopsTo ps n = loopsTo ps i ++ r
  | 0, h => ⟨[], by obtain rfl : i = 0 := by omega
                    simp⟩
  | n + 1, h => by
    by_cases e : i = n + 1
    · exact ⟨[], by rw [e]; simp⟩
    · obtain ⟨r, hr⟩ := loopsTo_pre ps i n (by omega)
      exact ⟨r ++ pairsP ps n (nxOf ps n), by rw [loopsTo_succ, hr, List.append_assoc]⟩
theorem loops_at {ps : List Pt} {i k m : Nat} (hi : i < ps.length) (hk : (nxOf ps i)[k]? = some m) (hd : domB2 ps m i = true) :
    (loopsTo ps ps.length)[(loopsTo ps i ++ pairsP ps i ((nxOf ps i).take k)).length]? = some (i, m) := by
  obtain ⟨r, hr⟩ := loopsTo_pre ps (i + 1) ps.length hi
  have h1 := pairs_next (ps := ps) (n := i) hk
  rw [hd, if_pos rfl] at h1
  have h2 : pairsP ps i (nxOf ps i) = pairsP ps i ((nxOf ps i).take (k + 1)) ++ pairsP ps i ((nxOf ps i).drop (k + 1)) := by
    unfold pairsP
    rw [← List.map_append, ← List.filter_append, List.take_append_drop]
  rw [hr, loopsTo_succ, h2, h1]
  simp only [List.append_assoc]
  rw [← List.append_assoc, List.getElem?_append_right (Nat.le_refl _), Nat.sub_self]
  rfl

set_option maxRecDepth 100000 in
set_option maxHeartbeats 4000000 in
theorem flowreaches_any (a : Option Addr) (cap : Nat) (c : List In) (hi : ∀ i ∈ c, I64 i.imm) (w : World) (hF : FormsAt w) (hr : RowsIn w a 5 In.cells c) :
    Calls Tryd.prog 4 #[.slice a c.length cap] w fun e w' => e = .returned (.bool true) ∧ Below w.heap.size w w' := by
  have H := Lib.hid (And.intro hF hr); clear hF hr
  have Hi := Lib.hid hi; clear hi
  go_enter Tryd.func4, Tryd.ntmps4
  by_cases hbig : 120 < c.length
  · have d1 : decide (120 < (c.length : Int)) = true := decide_eq_true (by omega)
    have d2 : decide (120 < c.length) = true := decide_eq_true (by omega)
    clear hbig
    go_wp2_with fail
    go_ret
    exact ⟨rfl, Below.refl _ _⟩
  have d1 : decide (120 < (c.length : Int)) = false := decide_eq_false (by omega)
  have hn : c.length ≤ 1024 := by omega
  have HA := Lib.hid (reach_any a cap c hn Hi.out w H.out.1 H.out.2)
  have Hn := Lib.hid hn; clear hbig hn
  go_wp2_with fail
  refine HA.out.mono ?_
  rintro e w1 ⟨ga, la, rfl, -, hla, hha, hb1⟩
  have HB := Lib.hid (doms_any a cap c Hn.out Hi.out w1 (H.out.1.below hb1) (H.out.2.below hb1))
  have H1 := Lib.hid (And.intro hla (And.intro hha hb1)); clear hla hha hb1 HA
  go_wp2_with fail
  refine HB.out.mono ?_
  rintro e w2 ⟨w0, gr, gaa, all, bs, rfl, -, hdm, hb2⟩
  have hb2' := H1.out.2.2.trans (hb2.mono H1.out.2.2.size)
  have HC := Lib.hid (loops_any a cap c Hn.out Hi.out w2 (H.out.1.below hb2') (H.out.2.below hb2'))
  have H2 := Lib.hid (And.intro hb2' (And.intro (H1.out.2.1.below hb2) hdm)); clear hb2 hb2' hdm HB
  go_wp2_with fail
  refine HC.out.mono ?_
  rintro e w3 ⟨vl, rfl, hown, hb3⟩
  obtain ⟨al, capl, rfl, hsl⟩ := owns_slice hown
  have hb3' := H2.out.1.trans (hb3.mono H2.out.1.size)
  have HD := Lib.hid (rparts_any a cap c Hn.out Hi.out w3 (H.out.2.below hb3'))
  have H3 := Lib.hid (And.intro hb3' (And.intro (H2.out.2.1.below hb3) (And.intro (H2.out.2.2.next hb3) (And.intro hown hsl)))); clear hb3 hb3' hown hsl HC H2
  go_wp2_with fail
  refine HD.out.mono ?_
  rintro e w4 ⟨vp, rfl, hpt, hb4⟩
  have hpl : (partsP c).length ≤ 1024 := by rw [parts_len]; exact Nat.le_trans (begs_le c) Hn.out
  have HE := Lib.hid (rreached_any (partsP c) (-1) w3.heap.size vp w4 hpt (parts_nxok c) (parts_nx2 c) hpl)
  have hb4' := H3.out.1.trans (hb4.mono H3.out.1.size)
  obtain ⟨ap, capp, rfl, hsp⟩ := hpt.form
  have H4 := Lib.hid (And.intro hb4' (And.intro (H3.out.2.1.below hb4) (And.intro (H3.out.2.2.1.next hb4) (And.intro (owns_same H3.out.2.2.2.1 (fun g e => hb4.block g (owns_lt H3.out.2.2.2.1 e).2)) (And.intro H3.out.2.2.2.2 (And.intro hpt (And.intro hsp hpl))))))); clear hb4 hb4' hpt hsp hpl HD H3
  go_wp2_with fail
  refine HE.out.mono ?_
  rintro e w5 ⟨l5, rfl, hl5, hh5, hb5⟩
  obtain rfl := H1.out.1.eq hl5
  have hll := hl5.1
  have H5 := Lib.hid (And.intro (H4.out.1.trans (hb5.mono H4.out.1.size)) (And.intro hl5 (And.intro hh5 (And.intro (H4.out.2.1.below hb5) (And.intro (H4.out.2.2.1.next hb5) (And.intro (owns_same H4.out.2.2.2.1 (fun g e => hb5.block g (owns_lt H4.out.2.2.2.1 e).2)) (H4.out.2.2.2.2.2.1.below hb5)))))))
  have HBo := Lib.hid (bools_any ga w4.heap.size la w5 (by rw [hll]; exact H4.out.2.2.2.2.2.2.2) H5.out.2.2.2.1 H5.out.2.2.1)
  rw [hll] at HBo
  have Hll := Lib.hid hll; clear hll hl5 hh5 hb5 HE H1
  go_wp2_with fail
  refine HBo.out.mono ?_
  rintro e w6 ⟨rfl, hb6⟩
  have H6 := Lib.hid (And.intro (H5.out.1.trans (hb6.mono H5.out.1.size)) (And.intro H5.out.2.1 (And.intro (H5.out.2.2.1.below hb6) (And.intro (H5.out.2.2.2.2.1.next hb6) (And.intro (owns_same H5.out.2.2.2.2.2.1 (fun g e => hb6.block g (owns_lt H5.out.2.2.2.2.2.1 e).2)) (H5.out.2.2.2.2.2.2.below hb6)))))); clear hb6 HBo H5
  have HS := Lib.hid (And.intro H4.out.2.2.2.2.1 H4.out.2.2.2.2.2.2); clear H4
  have hnk := parts_nxok c
  have hn2 := parts_nx2 c
  have HK := Lib.hid (And.intro hnk hn2); clear hnk hn2
  generalize partsP c = ps at *
  generalize w4.heap.size = gall at *
  generalize w3.heap.size = lo3 at *
  go_wp2_with fail
  go_loopw [12] (fun s12 V => ∃ k : Nat, s12 = .int .i64 k ∧ k ≤ ps.length ∧ Below w6.heap.size w6 V) (fun s12 _ => ps.length - (intOf s12).toNat)
  case atStart => exact ⟨0, rfl, Nat.zero_le _, Below.refl _ _⟩
  case round =>
    obtain ⟨k, rfl, hk, hbV⟩ := hrel
    by_cases hlt : k < ps.length
    · have hki : (0 : Int) ≤ (k : Int) ∧ (k : Int) < ps.length := by omega
      have hkk : IntKind.i64.wrap ((k : Int) + 1) = (k : Int) + 1 := by rw [IntKind.wrap_i64]; have := HS.out.2.2; omega
      have HR := Lib.hid (rreached_any ps k lo3 (.slice ap ps.length capp) wr (H6.out.2.2.2.2.2.below hbV) HK.out.1 HK.out.2 HS.out.2.2)
      have Hk := Lib.hid (And.intro hlt hbV); clear hlt hbV hk
      go_wp2_with fail
      refine HR.out.mono ?_
      rintro e w8 ⟨l8, rfl, hl8, hh8, hb8⟩
      have hb8' := Hk.out.2.trans (hb8.mono Hk.out.2.size)
      obtain ⟨g8, hg8⟩ : ∃ g8, g8 = wr.heap.size := ⟨_, rfl⟩
      rw [← hg8] at hh8 ⊢
      clear hg8
      have H8 := Lib.hid (And.intro hl8 (And.intro hh8 (And.intro hb8' (And.intro (H6.out.2.2.1.below hb8') (H6.out.2.2.2.1.next hb8'))))); clear hl8 hh8 hb8 hb8' HR
      have Hkk := Lib.hid hkk; clear hkk
      go_wp2_with fail
      go_loopw [14] (fun s14 V => ∃ j : Nat, s14 = .int .i64 j ∧ j ≤ ps.length ∧ ∃ q, V = w8.drewN q) (fun s14 _ => ps.length - (intOf s14).toNat)
      case atStart => exact ⟨0, rfl, Nat.zero_le _, 0, rfl⟩
      case round =>
        obtain ⟨j, rfl, hj, q, rfl⟩ := hrel
        by_cases hjl : j < ps.length
        · have hji : (0 : Int) ≤ (j : Int) ∧ (j : Int) < ps.length := by omega
          have hjj : IntKind.i64.wrap ((j : Int) + 1) = (j : Int) + 1 := by rw [IntKind.wrap_i64]; have := HS.out.2.2; omega
          obtain ⟨c1, c2⟩ := H8.out.2.2.2.2.cellD Hk.out.1 hjl
          have ca := H8.out.2.2.2.1.cell (i := j) (v := .bool (isAt la j)) (by rw [cellsB, List.getElem?_map, isAt_get (by rw [Hll.out]; exact hjl)]; rfl)
          have cr := H8.out.2.1.cell (i := j) (v := .bool (isAt l8 j)) (by rw [cellsB, List.getElem?_map, isAt_get (by rw [H8.out.1.1]; exact hjl)]; rfl)
          have hd : domB2 ps k j = (isAt la j && !isAt l8 j) := by rw [Bool.eq_iff_iff, domB2_iff, dom_iff H6.out.2.1 H8.out.1]
          rw [hd] at c2
          have Hj := Lib.hid (And.intro hj hjl); clear hj hjl hd
          generalize bs.getD k 0 = Bk at *
          cases hA : isAt la j with
          | false =>
            rw [hA] at ca c2
            clear hA
            simp only [Bool.false_and] at c2
            go_wp2_with fail
            go_quiet (fail)
            go_wp2_with fail
            go_roundw
            case rel => exact ⟨j + 1, rfl, by have := Hj.out; omega, _, rfl⟩
            case measure => simp [intOf]; have := Hj.out; omega
          | true =>
            rw [hA] at ca c2
            clear hA
            simp only [Bool.true_and] at c2
            cases hB : isAt l8 j with
            | false =>
              rw [hB] at cr c2
              clear hB
              simp only [Bool.not_false] at c2
              go_wp2_with fail
              go_quiet (fail)
              go_wp2_with fail
              go_roundw
              case rel => exact ⟨j + 1, rfl, by have := Hj.out; omega, _, rfl⟩
              case measure => simp [intOf]; have := Hj.out; omega
            | true =>
              rw [hB] at cr c2
              clear hB
              simp only [Bool.not_true] at c2
              go_wp2_with fail
              go_quiet (fail)
              go_wp2_with fail
              go_roundw
              case rel => exact ⟨j + 1, rfl, by have := Hj.out; omega, _, rfl⟩
              case measure => simp [intOf]; have := Hj.out; omega
        · have hje : j = ps.length := by omega
          subst hje
          have hkk := Hkk.out
          have hbq := below_drewN H8.out.2.2.1 q
          have HQ := Lib.hid hbq; clear hbq hj hjl
          go_wp2_with fail
          go_roundw
          case rel => exact ⟨k + 1, rfl, by have := Hk.out.1; omega, HQ.out⟩
          case measure => simp [intOf]; have := Hk.out.1; omega
    · have hke : k = ps.length := by omega
      subst hke
      have hbz := H6.out.1.trans (hbV.mono H6.out.1.size)
      have hdz := H6.out.2.2.2.1.next hbV
      have hoz := owns_same H6.out.2.2.2.2.1 (fun g e => hbV.block g (owns_lt H6.out.2.2.2.2.1 e).2)
      have hpz := H6.out.2.2.2.2.2.below hbV
      have HZ := Lib.hid (And.intro hbz (And.intro hdz (And.intro hoz hpz))); clear hbz hdz hoz hpz hk hlt hbV H6
      obtain ⟨wz, hwz⟩ : ∃ x, x = wr := ⟨_, rfl⟩
      subst hwz
      go_wp2_with fail
      go_loopw [11, 15] (fun s11 s15 V => ∃ i : Nat, s15 = .int .i64 i ∧ i ≤ ps.length ∧ s11 = .int .i64 ((loopsTo ps i).length : Nat) ∧ V = wz) (fun _ s15 _ => ps.length - (intOf s15).toNat)
      case atStart => exact ⟨0, rfl, Nat.zero_le _, rfl, rfl⟩
      case round =>
        obtain ⟨i, rfl, hi, rfl, hV⟩ := hrel
        have hV := hV.symm
        subst hV
        by_cases hil : i < ps.length
        · obtain ⟨x, hx⟩ : ∃ x, ps[i]? = some x := ⟨_, List.getElem?_eq_getElem hil⟩
          obtain ⟨gp, rfl⟩ := HS.out.2.1 (by omega)
          obtain ⟨-, -, nb, nm, c2, hnx⟩ := HZ.out.2.2.2.part hx
          have hii : (0 : Int) ≤ (i : Int) ∧ (i : Int) < ps.length := by omega
          have hin : IntKind.i64.wrap ((i : Int) + 1) = (i : Int) + 1 := by rw [IntKind.wrap_i64]; have := HS.out.2.2; omega
          have hn2 := HK.out.2 x (List.mem_of_getElem? hx)
          have hxx := nxOf_some hx
          have Hx := Lib.hid (And.intro hil (And.intro hin (And.intro hn2 (And.intro hnx hxx)))); clear hil hin hn2 hnx hx hxx hi
          go_wp2_with fail
          go_loopw [11, 16] (fun s11 s16 V => ∃ k : Nat, s16 = .int .i64 k ∧ k ≤ x.nx.length ∧ s11 = .int .i64 ((loopsTo ps i ++ pairsP ps i (x.nx.take k)).length : Nat) ∧ V = wz) (fun _ s16 _ => x.nx.length - (intOf s16).toNat)
          case atStart => exact ⟨0, rfl, Nat.zero_le _, by simp [pairsP], rfl⟩
          case round =>
            obtain ⟨k, rfl, hk, rfl, hV⟩ := hrel
            have hV := hV.symm
            subst hV
            by_cases hkl : k < x.nx.length
            · obtain ⟨m, hm⟩ : ∃ m, x.nx[k]? = some m := ⟨_, List.getElem?_eq_getElem hkl⟩
              obtain ⟨q, rfl, hq, hcs⟩ := Hx.out.2.2.2.1 (by omega)
              have hcm := hcs k m hm
              have hmn : m < ps.length := HK.out.1 i m (by rw [Hx.out.2.2.2.2]; exact List.mem_of_getElem? hm)
              have hki : (0 : Int) ≤ (k : Int) ∧ (k : Int) < x.nx.length := by omega
              have hmi : (0 : Int) ≤ (m : Int) ∧ (m : Int) < ps.length := by omega
              have hkk : IntKind.i64.wrap ((k : Int) + 1) = (k : Int) + 1 := by rw [IntKind.wrap_i64]; have := Hx.out.2.2.1; omega
              obtain ⟨d1, d2⟩ := HZ.out.2.1.cellD hmn Hx.out.1
              have hpn := pairs_next (ps := ps) (n := i) hm
              have hla := fun h => loops_at (ps := ps) (i := i) (k := k) (m := m) Hx.out.1 (by rw [Hx.out.2.2.2.2]; exact hm) h
              rw [Hx.out.2.2.2.2] at hla
              have Hm := Lib.hid (And.intro hkl (And.intro hpn hla)); clear hkl hpn hla hm hq hcs hmn hk
              generalize bs.getD m 0 = Bm at *
              cases hd : domB2 ps m i with
              | false =>
                rw [hd] at d2
                have hpn := Hm.out.2.1
                rw [hd] at hpn
                simp only [Bool.false_eq_true, if_false, List.append_nil] at hpn
                have HN := Lib.hid hpn; clear hpn hd
                go_wp2_with fail
                go_roundw
                case rel => exact ⟨k + 1, rfl, by have := Hm.out.1; omega, by rw [HN.out], by first | rfl | trivial⟩
                case measure => simp [intOf]; have := Hm.out.1; omega
              | true =>
                rw [hd] at d2
                have hpn := Hm.out.2.1
                rw [hd, if_pos rfl] at hpn
                have hat := Hm.out.2.2 hd
                have hlt := (List.getElem?_eq_some_iff.1 hat).1
                obtain ⟨gl, rfl⟩ := HS.out.1 (by omega)
                obtain ⟨e1, e2⟩ := cells2_at _ _ _ hat
                have l0 := (owns_cell HZ.out.2.2.1 (g := gl) rfl e1).1
                have l1 := (owns_cell HZ.out.2.2.1 (g := gl) rfl e2).1
                have hlen : (loopsTo ps i ++ pairsP ps i (x.nx.take (k + 1))).length = (loopsTo ps i ++ pairsP ps i (x.nx.take k)).length + 1 := by rw [hpn]; simp; omega
                have hll2 := loops_len HK.out.2 ps.length
                have HN := Lib.hid hlen; clear hlen hpn hat e1 e2 hd
                generalize (loopsTo ps i ++ pairsP ps i (x.nx.take k)).length = t at *
                generalize (loopsTo ps ps.length).length = T at *
                have hti : (0 : Int) ≤ (t : Int) ∧ (t : Int) < T := by omega
                have htt : IntKind.i64.wrap ((t : Int) + 1) = (t : Int) + 1 := by rw [IntKind.wrap_i64]; have := HS.out.2.2; omega
                have hge : decide ((T : Int) ≤ (t : Int)) = false := decide_eq_false (by omega)
                have hge2 : decide (T ≤ t) = false := decide_eq_false (by omega)
                clear hll2 hlt
                go_wp2_with fail
                go_roundw
                case rel => exact ⟨k + 1, rfl, by have := Hm.out.1; omega, by rw [HN.out]; rfl, by first | rfl | trivial⟩
                case measure => simp [intOf]; have := Hm.out.1; omega
            · have hke : k = x.nx.length := by omega
              subst hke
              rw [List.take_length]
              have hin := Hx.out.2.1
              have hls : (loopsTo ps (i + 1)).length = (loopsTo ps i ++ pairsP ps i x.nx).length := by rw [loopsTo_succ, Hx.out.2.2.2.2]
              have HL := Lib.hid hls; clear hls hk hkl
              generalize (loopsTo ps i ++ pairsP ps i x.nx).length = t at *
              go_wp2_with fail
              go_roundw
              case rel => exact ⟨i + 1, rfl, by have := Hx.out.1; omega, by rw [HL.out], by first | rfl | trivial⟩
              case measure => simp [intOf]; have := Hx.out.1; omega
        · have hie : i = ps.length := by omega
          subst hie
          have HE := Lib.hid HZ.out.1; clear hi hil
          go_wp2_with fail
          go_ret
          exact ⟨by simp, HE.out⟩

end Go.Proofs.YtehnailokgoekaaDoor
