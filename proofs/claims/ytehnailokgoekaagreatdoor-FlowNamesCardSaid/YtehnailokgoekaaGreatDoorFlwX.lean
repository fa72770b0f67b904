/- FlowChain: the walk. Conditions: those stated in each theorem. -/
import Derived.Test.YtehnailokgoekaaGreatDoorFlwM
import Derived.Test.YtehnailokgoekaaGreatDoorFlwK
import Derived.Deep.QuietTactic
namespace Go.Proofs.YtehnailokgoekaaGreatDoor
open Go.RowKit Go.BigFrame Go.Shelf

open Classical in
noncomputable def domD (ps : List Pt) (i j : Nat) : Bool := if Rch ps (-1) j ∧ ¬ Rch ps i j then true else false
open Classical in
noncomputable def rchD (ps : List Pt) (j : Nat) : Bool := if Rch ps (-1) j then true else false
theorem domD_iff {ps : List Pt} {i j : Nat} : domD ps i j = true ↔ Rch ps (-1) j ∧ ¬ Rch ps i j := by unfold domD; split <;> simp_all
theorem rchD_iff {ps : List Pt} {j : Nat} : rchD ps j = true ↔ Rch ps (-1) j := by unfold rchD; split <;> simp_all
theorem rch_zero {ps : List Pt} {n : Nat} : ¬ Rch ps 0 n := fun h => by
  induction h with
  | zero _ h => exact h rfl
  | step _ _ _ ih => exact ih
theorem dom_zero (ps : List Pt) (c : Nat) : domD ps 0 c = rchD ps c := by
  rw [Bool.eq_iff_iff, domD_iff, rchD_iff]
  exact ⟨fun h => h.1, fun h => ⟨h, rch_zero⟩⟩
theorem dom_self (ps : List Pt) (c : Nat) : domD ps c c = rchD ps c := by
  rw [Bool.eq_iff_iff, domD_iff, rchD_iff]
  exact ⟨fun h => h.1, fun h => ⟨h, rch_not⟩⟩
theorem dom_rch {ps : List Pt} {a c : Nat} (h : domD ps a c = true) : rchD ps a = true := by
  rw [domD_iff] at h; rw [rchD_iff]
  exact (rch_by a h.1).resolve_left h.2
theorem dom_two {ps : List Pt} {a b c : Nat} (ha : domD ps a c = true) (hb : domD ps b c = true) (h : domD ps a b = false) : domD ps b a = true := by
  have ra := rchD_iff.1 (dom_rch ha)
  have rb := rchD_iff.1 (dom_rch hb)
  rw [domD_iff] at ha hb
  rcases dom_chain ha.2 hb.2 ha.1 with h1 | h1
  · have : domD ps a b = true := domD_iff.2 ⟨rb, h1⟩
    rw [h] at this; cases this
  · exact domD_iff.2 ⟨ra, h1⟩

/-- What is read of a table of rows. -/
def TabD (ps : List Pt) (gr gi : Nat) (B : Nat → Nat) (V : World) : Prop := ∀ i, i < ps.length → V.cell? ⟨gr, i, none⟩ = some (.slice (some ⟨B i, 0, none⟩) ps.length ps.length) ∧ V.cell? ⟨gi, i, none⟩ = some (.bool (rchD ps i)) ∧ ∀ j, j < ps.length → V.cell? ⟨B i, j, none⟩ = some (.bool (domD ps i j))
theorem DmS.tab {W : World} {ps : List Pt} {ga gr : Nat} {all : List Bool} {bs : List Nat} {V : World} (h : DmS W ps ga gr ps.length all bs V) {gi : Nat} {l : List Bool} (hl : IsRch ps (-1) l) (hg : Holds V gi 4 (cellsB l)) : TabD ps gr gi (fun i => bs.getD i 0) V := fun i hi => by
  have hib : i < bs.length := by rw [h.len]; exact hi
  have hb : bs[i]? = some (bs.getD i 0) := by simp [List.getD, hib]
  obtain ⟨-, -, d, hd, hh⟩ := h.made i _ hb
  refine ⟨h.rows.cell (by rw [List.getElem?_append_left (by simp [h.len]; exact hi), List.getElem?_map, hb]; rfl), hg.cell ?_, fun j hj => hh.cell ?_⟩
  · have : isAt l i = rchD ps i := by rw [Bool.eq_iff_iff, hl.2, rchD_iff]
    rw [cellsB, List.getElem?_map, isAt_get (by rw [hl.1]; exact hi), this]; rfl
  · have : isAt d j = domD ps i j := by rw [Bool.eq_iff_iff, hd.2, domD_iff]
    rw [cellsB, List.getElem?_map, isAt_get (by rw [hd.1]; exact hj), this]; rfl

set_option maxRecDepth 100000 in
set_option maxHeartbeats 2000000 in
theorem flowchain_any (a : Option Addr) (cap : Nat) (c : List In) (hi : ∀ i ∈ c, I64 i.imm) (w : World) (h : Std w) (hr : RowsIn w a 5 In.cells c) :
    Calls Tryz.prog 5 #[.slice a c.length cap] w fun e w' => e = .returned (.bool true) ∧ Below w.heap.size w w' := by
  have HA := Lib.hid (alive_flow h)
  have H := Lib.hid (And.intro h hr); clear h hr
  have Hi := Lib.hid hi; clear hi
  go_enter Tryz.func5, Tryz.ntmps5
  go_wp2_with fail
  refine HA.out.mono ?_
  rintro e w1 ⟨rfl, hb1⟩
  have H1 := Lib.hid hb1; clear hb1 HA
  by_cases hbig : 80 < c.length
  · have d1 : decide (80 < (c.length : Int)) = true := decide_eq_true (by omega)
    clear hbig
    go_wp2_with fail
    go_ret
    exact ⟨rfl, H1.out⟩
  have d1 : decide (80 < (c.length : Int)) = false := decide_eq_false (by omega)
  have hn : c.length ≤ 1024 := by omega
  have HP := Lib.hid (doms_any a cap c hn Hi.out w1 (H.out.1.forms.below H1.out) (H.out.2.below H1.out))
  have Hn := Lib.hid hn; clear hbig hn
  go_wp2_with fail
  refine HP.out.mono ?_
  rintro e w2 ⟨w0, gr, ga, all, bs, rfl, -, hdm, hb2⟩
  have hb2' := H1.out.trans (hb2.mono H1.out.size)
  have HR := Lib.hid (reach_any a cap c Hn.out Hi.out w2 (H.out.1.forms.below hb2') (H.out.2.below hb2'))
  have H2 := Lib.hid (And.intro hb2' hdm); clear hb2 hb2' hdm HP
  go_wp2_with fail
  refine HR.out.mono ?_
  rintro e w3 ⟨gi, l, rfl, -, hl, hgi, hb3⟩
  have htab := (H2.out.2.next hb3).tab hl hgi
  have hbel := H2.out.1.trans (hb3.mono H2.out.1.size)
  have hpl : (partsP c).length ≤ 1024 := by rw [parts_len]; exact Nat.le_trans (begs_le c) Hn.out
  generalize (fun i => bs.getD i 0) = B at *
  have H3 := Lib.hid (And.intro htab (And.intro hbel hpl)); clear htab hbel hpl hl hgi hb3 HR H2
  generalize partsP c = ps at *
  go_wp2_with fail
  go_loopw [8] (fun s V => ∃ k : Nat, s = .int .i64 k ∧ k ≤ ps.length ∧ V = w3) (fun s _ => ps.length - (intOf s).toNat)
  case atStart => exact ⟨0, rfl, Nat.zero_le _, rfl⟩
  case round =>
    obtain ⟨k, rfl, hk, rfl⟩ := hrel
    by_cases hlt : k < ps.length
    · have c1 := (H3.out.1 k hlt).1
      have hki : (0 : Int) ≤ (k : Int) ∧ (k : Int) < ps.length := by omega
      have hkk : IntKind.i64.wrap ((k : Int) + 1) = (k : Int) + 1 := by rw [IntKind.wrap_i64]; have := H3.out.2.2; omega
      have Hk := Lib.hid (And.intro hk hlt); clear hk hlt
      go_wp2_with fail
      go_roundw
      case rel => exact ⟨k + 1, rfl, by have := Hk.out; omega, by first | rfl | trivial⟩
      case measure => simp [intOf]; have := Hk.out; omega
    · have hke : k = ps.length := by omega
      subst hke
      clear hk
      go_wp2_with fail
      go_loopw [9] (fun s V => ∃ k : Nat, s = .int .i64 k ∧ k ≤ ps.length ∧ ∃ q, V = wr.drewN q) (fun s _ => ps.length - (intOf s).toNat)
      case atStart => exact ⟨0, rfl, Nat.zero_le _, 0, rfl⟩
      case round =>
        obtain ⟨kc, rfl, hk, q0, rfl⟩ := hrel
        by_cases hc : kc < ps.length
        · obtain ⟨c1, c2, c3⟩ := H3.out.1 kc hc
          have c4 := c3 kc hc
          have h0n : 0 < ps.length := by omega
          obtain ⟨z1, -, z3⟩ := H3.out.1 0 h0n
          have z4 := z3 kc hc
          rw [dom_zero] at z4
          rw [dom_self] at c4
          have hci : (0 : Int) ≤ (kc : Int) ∧ (kc : Int) < ps.length := by omega
          have h0i : (0 : Int) < ps.length := by omega
          have hcc : IntKind.i64.wrap ((kc : Int) + 1) = (kc : Int) + 1 := by rw [IntKind.wrap_i64]; have := H3.out.2.2; omega
          have Hc := Lib.hid (And.intro hk hc); clear hk hc c3 z3 h0n
          generalize rchD ps kc = rc at c2 c4 z4
          go_wp2_with fail
          go_quiet (fail)
          clear c1 c2 c4 z1 z4 h0i
          have Hcc := Lib.hid hcc; clear hcc
          go_wp2_with fail
          go_loopw [10] (fun s V => ∃ k : Nat, s = .int .i64 k ∧ k ≤ ps.length ∧ ∃ q, V = wr.drewN q) (fun s _ => ps.length - (intOf s).toNat)
          case atStart => exact ⟨0, rfl, Nat.zero_le _, _, by rw [World.drewN_drewN]⟩
          case round =>
            obtain ⟨ka, rfl, hka, q1, rfl⟩ := hrel
            by_cases ha : ka < ps.length
            · obtain ⟨a1, a2, a3⟩ := H3.out.1 ka ha
              have a4 := a3 kc Hc.out.2
              have hai : (0 : Int) ≤ (ka : Int) ∧ (ka : Int) < ps.length := by omega
              have haa : IntKind.i64.wrap ((ka : Int) + 1) = (ka : Int) + 1 := by rw [IntKind.wrap_i64]; have := H3.out.2.2; omega
              have hdr := fun h => dom_rch (ps := ps) (a := ka) (c := kc) h
              have Ha := Lib.hid (And.intro hka ha); clear hka ha
              have HA3 := Lib.hid a3; clear a3
              cases hac : domD ps ka kc with
              | false =>
                rw [hac] at a4
                have Hac := Lib.hid hac; clear hac hdr a2
                have Haa := Lib.hid haa; clear haa
                go_wp2_with fail
                go_loopw [11] (fun s V => ∃ k : Nat, s = .int .i64 k ∧ k ≤ ps.length ∧ ∃ q, V = wr.drewN q) (fun s _ => ps.length - (intOf s).toNat)
                case atStart => exact ⟨0, rfl, Nat.zero_le _, q1, rfl⟩
                case round =>
                  obtain ⟨kb, rfl, hkb, q2, rfl⟩ := hrel
                  by_cases hb : kb < ps.length
                  · have hbb : IntKind.i64.wrap ((kb : Int) + 1) = (kb : Int) + 1 := by rw [IntKind.wrap_i64]; have := H3.out.2.2; omega
                    go_wp2_with fail
                    go_roundw
                    case rel => exact ⟨kb + 1, rfl, by omega, q2, rfl⟩
                    case measure => simp [intOf]; omega
                  · have hke : kb = ps.length := by omega
                    subst hke
                    clear hkb
                    have haa := Haa.out
                    go_wp2_with fail
                    go_roundw
                    case rel => exact ⟨ka + 1, rfl, by have := Ha.out; omega, q2, rfl⟩
                    case measure => simp [intOf]; have := Ha.out; omega
              | true =>
                rw [hac] at a4
                rw [hdr hac] at a2
                have Hac := Lib.hid hac; clear hac hdr
                have Haa := Lib.hid haa; clear haa
                go_wp2_with fail
                go_loopw [11] (fun s V => ∃ k : Nat, s = .int .i64 k ∧ k ≤ ps.length ∧ ∃ q, V = wr.drewN q) (fun s _ => ps.length - (intOf s).toNat)
                case atStart => exact ⟨0, rfl, Nat.zero_le _, q1, rfl⟩
                case round =>
                  obtain ⟨kb, rfl, hkb, q2, rfl⟩ := hrel
                  clear a2
                  by_cases hb : kb < ps.length
                  · have hbb : IntKind.i64.wrap ((kb : Int) + 1) = (kb : Int) + 1 := by rw [IntKind.wrap_i64]; have := H3.out.2.2; omega
                    obtain ⟨b1, -, b3⟩ := H3.out.1 kb hb
                    have b4 := b3 kc Hc.out.2
                    have b5 := b3 ka Ha.out.2
                    have a5 := HA3.out kb hb
                    have hbi : (0 : Int) ≤ (kb : Int) ∧ (kb : Int) < ps.length := by omega
                    have hdt := fun h1 h2 => dom_two Hac.out (b := kb) h1 h2
                    have Hb := Lib.hid (And.intro hkb hb); clear hkb hb b3
                    cases hbc : domD ps kb kc with
                    | false =>
                      rw [hbc] at b4
                      clear hbc hdt a5 b5
                      go_wp2_with fail
                      go_roundw
                      case rel => exact ⟨kb + 1, rfl, by have := Hb.out; omega, q2, rfl⟩
                      case measure => simp [intOf]; have := Hb.out; omega
                    | true =>
                      rw [hbc] at b4
                      cases hab : domD ps ka kb with
                      | true =>
                        rw [hab] at a5
                        clear hbc hdt b5 hab
                        go_wp2_with fail
                        go_roundw
                        case rel => exact ⟨kb + 1, rfl, by have := Hb.out; omega, q2, rfl⟩
                        case measure => simp [intOf]; have := Hb.out; omega
                      | false =>
                        rw [hab] at a5
                        rw [hdt hbc hab] at b5
                        clear hbc hdt hab
                        go_wp2_with fail
                        go_roundw
                        case rel => exact ⟨kb + 1, rfl, by have := Hb.out; omega, q2, rfl⟩
                        case measure => simp [intOf]; have := Hb.out; omega
                  · have hke : kb = ps.length := by omega
                    subst hke
                    clear hkb
                    have haa := Haa.out
                    go_wp2_with fail
                    go_roundw
                    case rel => exact ⟨ka + 1, rfl, by have := Ha.out; omega, q2, rfl⟩
                    case measure => simp [intOf]; have := Ha.out; omega
            · have hke : ka = ps.length := by omega
              subst hke
              clear hka
              have hcc := Hcc.out
              go_wp2_with fail
              go_roundw
              case rel => exact ⟨kc + 1, rfl, by have := Hc.out; omega, q1, rfl⟩
              case measure => simp [intOf]; have := Hc.out; omega
        · have hke : kc = ps.length := by omega
          subst hke
          clear hk hc
          go_wp2_with fail
          go_ret
          exact ⟨rfl, below_drewN H3.out.2.1 _⟩

end Go.Proofs.YtehnailokgoekaaGreatDoor
