/- The document's Reached (rounds) and Bools. Conditions: those stated in each theorem. -/
import Derived.Test.YtehnailokgoekaaDoorFlwM
import Derived.Deep.CutRange
namespace Go.Proofs.YtehnailokgoekaaDoor
open Go.RowKit Go.BigFrame Go.Shelf

/-- Within a round that began at l0, up to part n. -/
structure RdS (W : World) (ps : List Pt) (wo : Int) (gi : Nat) (l0 : List Bool) (n : Nat) (l : List Bool) (wr : World) : Prop where
  below : Below W.heap.size W wr
  is : Holds wr gi 4 (cellsB l)
  len : l.length = ps.length
  snd : Snd ps wo l
  zero : 0 < ps.length → wo ≠ 0 → isAt l 0 = true
  mrk : Mrk l0 l
  same : (∀ k, Shut ps wo l0 k) → l = l0
  shut : l = l0 → ∀ k, k < n → Shut ps wo l0 k
theorem RdS.open_ {W : World} {ps : List Pt} {wo : Int} {gi : Nat} {l0 : List Bool} {n : Nat} {l : List Bool} {wr : World} (h : RdS W ps wo gi l0 n l wr) : RdS W ps wo gi l 0 l wr :=
  ⟨h.below, h.is, h.len, h.snd, h.zero, Mrk.refl _, fun _ => rfl, fun _ k hk => by omega⟩
theorem RdS.next {W : World} {ps : List Pt} {wo : Int} {gi : Nat} {l0 : List Bool} {n : Nat} {l : List Bool} {wr : World} (h : RdS W ps wo gi l0 n l wr) (hs : Shut ps wo l n) : RdS W ps wo gi l0 (n + 1) l wr :=
  ⟨h.below, h.is, h.len, h.snd, h.zero, h.mrk, h.same, fun e k hk => by
    by_cases e2 : k = n
    · subst e2; rw [← e]; exact hs
    · exact h.shut e k (by omega)⟩
theorem RdS.mark {W : World} {ps : List Pt} {wo : Int} {gi : Nat} {l0 : List Bool} {n : Nat} {l : List Bool} {wr : World} (h : RdS W ps wo gi l0 n l wr) (hgi : W.heap.size ≤ gi) {m : Nat} (hn : isAt l n = true) (hm : m ∈ nxOf ps n) (hw : (m : Int) ≠ wo) (hml : m < l.length) : RdS W ps wo gi l0 n (l.set m true) (wr.setCell ⟨gi, m, none⟩ (.bool true)) := by
  refine ⟨h.below.setCell (p := ⟨gi, m, none⟩) hgi _, ?_, by rw [List.length_set]; exact h.len, h.snd.set hml (.step (h.snd n hn) hm hw), fun h0 w => by rw [isAt_set hml, h.zero h0 w, Bool.or_true], h.mrk.set hml, fun hs => ?_, fun e => ?_⟩
  · have := h.is.set m (.bool true)
    rwa [cellsB_set] at this
  · have e := h.same hs
    have : isAt l m = true := by rw [e] at hn ⊢; exact hs n hn m hm hw
    rw [set_same hml this]; exact e
  · have hle : cntB l0 = cntB (l.set m true) := by rw [e]
    have hmm : isAt l m = true := by
      cases hf : isAt l m with
      | true => rfl
      | false =>
        rw [cntB_set hml hf] at hle
        rcases h.mrk.2.2 with e2 | e2
        · rw [e2] at hle; omega
        · omega
    rw [set_same hml hmm] at e
    exact h.shut e
/-- Ahead of round r: all is shut, or more than r are marked. -/
def Rnd (ps : List Pt) (wo : Int) (r : Nat) (l : List Bool) : Prop := (∀ k, Shut ps wo l k) ∨ r < cntB l
theorem nx_far {ps : List Pt} {n : Nat} (h : ps.length ≤ n) : nxOf ps n = [] := by
  unfold nxOf; rw [List.getElem?_eq_none h]
theorem RdS.round {W : World} {ps : List Pt} {wo : Int} {gi : Nat} {l0 : List Bool} {l : List Bool} {wr : World} {r : Nat} (h : RdS W ps wo gi l0 ps.length l wr) (hr : Rnd ps wo r l0) : Rnd ps wo (r + 1) l := by
  rcases hr with hs | hr
  · rw [h.same hs]; exact .inl hs
  · rcases h.mrk.2.2 with e | e
    · refine .inl fun k => ?_
      by_cases hk : k < ps.length
      · rw [e]; exact h.shut e k hk
      · intro _ m hm; rw [nx_far (by omega)] at hm; cases hm
    · exact .inr (by omega)
theorem RdS.done {W : World} {ps : List Pt} {wo : Int} {gi : Nat} {l0 : List Bool} {n : Nat} {l : List Bool} {wr : World} (h : RdS W ps wo gi l0 n l wr) (hr : Rnd ps wo ps.length l) : IsRch ps wo l := by
  refine rch_of_shut h.len h.snd h.zero ?_
  rcases hr with hs | hr
  · exact hs
  · have := cntB_le l; rw [h.len] at this; omega
theorem Rnd.start {W : World} {ps : List Pt} {wo : Int} {gi : Nat} {l0 : List Bool} {n : Nat} {l : List Bool} {wr : World} (h : RdS W ps wo gi l0 n l wr) (h0 : ¬ (0 < ps.length ∧ wo ≠ 0) → l = List.replicate ps.length false) : Rnd ps wo 0 l := by
  by_cases e : 0 < ps.length ∧ wo ≠ 0
  · refine .inr ?_
    have := h.zero e.1 e.2
    unfold cntB
    rw [List.countP_pos_iff]
    refine ⟨true, ?_, rfl⟩
    have hl := isAt_lt this
    have h2 := isAt_get hl
    rw [this] at h2
    exact List.mem_of_getElem? h2
  · refine .inl fun k hk => ?_
    rw [h0 e, isAt_rep] at hk; cases hk

set_option maxRecDepth 100000 in
set_option maxHeartbeats 1000000 in
theorem rreached_any (ps : List Pt) (wo : Int) (lo : Nat) (v : Value) (W : World) (h : PartsAt W lo v ps) (hk : NxOk ps) (hx2 : ∀ p ∈ ps, p.nx.length ≤ 2) (hn : ps.length ≤ 1024) :
    Calls Tryd.prog 13 #[v, .int .i64 wo] W fun e w' => ∃ l, e = .returned (.slice (some ⟨W.heap.size, 0, none⟩) ps.length ps.length) ∧ IsRch ps wo l ∧ Holds w' W.heap.size 4 (cellsB l) ∧ Below W.heap.size W w' := by
  obtain ⟨ad, vc, rfl, hsome⟩ := h.form
  obtain ⟨i1, hj0, hj1, hj2, hj3⟩ := flw_info Tryd.infoBoolF
  have Hj := Lib.hid (And.intro hj0 (And.intro hj1 (And.intro hj2 hj3))); clear hj0 hj1 hj2 hj3
  have H := Lib.hid h; clear h
  have Hk0 := Lib.hid hk; clear hk
  have Hx2 := Lib.hid hx2; clear hx2
  have Hn := Lib.hid hn; clear hn
  have Hs := Lib.hid hsome; clear hsome
  go_enter Tryd.func13, Tryd.ntmps13
  go_upto_region 2 with (at_make; refine wpList_make_full _ rfl _ _ 36 rfl W.heap.size 4 i1 _ 1 Tryd.underlying36 Hj.out.1 Hj.out.2.1 Hj.out.2.2.1 .i64 .i64 ps.length ps.length ps.length rfl rfl rfl rfl (by rw [Hj.out.2.2.2]; have := Hn.out; omega) (by unfold maxLen; have := Hn.out; omega) (Nat.le_refl _) ?_; intro w2 ho2 hg2; have Ho2 := Lib.hid (owns_full ho2); have Hb2 := Lib.hid ((Below.refl W.heap.size W).grown hg2 (Nat.le_refl _) (fun g e => by cases e)); clear ho2 hg2)
  rw [made_bool] at Ho2
  have hrep : List.replicate ps.length (Value.bool false) = cellsB (List.replicate ps.length false) := by simp [cellsB]
  rw [hrep] at Ho2
  clear hrep Hj
  go_cut [18] from 12 to 18 (fun v wx => v = .bool (decide (0 < ps.length ∧ wo ≠ 0)) ∧ wx = w2)
  case first =>
    by_cases h0 : 0 < ps.length
    · have e1 : decide (0 < (ps.length : Int)) = true := decide_eq_true (by omega)
      have e2 : (wo != 0) = decide (0 < ps.length ∧ wo ≠ 0) := by by_cases e : wo = 0 <;> simp [e, h0]
      have e3 : decide (0 < ps.length) = true := decide_eq_true h0
      clear h0
      have E2 := Lib.hid e2; clear e2
      go_wp2_with fail
      go_meet
      case rel => exact ⟨by rw [E2.out], rfl⟩
    · have e1 : decide (0 < (ps.length : Int)) = false := decide_eq_false (by omega)
      have E2 := Lib.hid (show false = decide (0 < ps.length ∧ wo ≠ 0) by simp [h0])
      have e3 : decide (0 < ps.length) = false := decide_eq_false h0
      clear h0
      go_wp2_with fail
      go_meet
      case rel => exact ⟨by rw [← E2.out], rfl⟩
  case rest =>
    obtain ⟨rfl, hw⟩ := hcut
    have hw := hw.symm
    subst hw
    go_upto_if 18 with fail
    go_cut [] from 18 to 20 (fun wx => ∃ l, RdS W ps wo W.heap.size l 0 l wx ∧ Rnd ps wo 0 l)
    case first =>
      by_cases h0 : 0 < ps.length ∧ wo ≠ 0
      · have e1 : decide (0 < ps.length ∧ wo ≠ 0) = true := decide_eq_true h0
        have hn0 : (0 : Int) < ps.length := by omega
        have c0 := Ho2.out.cell (i := 0) (v := .bool false) (by rw [cellsB, List.map_replicate, List.getElem?_replicate, if_pos (by omega)])
        have f0 := Ho2.out.free 0
        have H0 := Lib.hid h0; clear h0
        go_wp2_with fail
        go_meet
        case rel =>
          have hl : 0 < (List.replicate ps.length false).length := by simp; exact H0.out.1
          have hst : RdS W ps wo W.heap.size ((List.replicate ps.length false).set 0 true) 0 ((List.replicate ps.length false).set 0 true) (w2.setCell ⟨W.heap.size, 0, none⟩ (.bool true)) := by
            refine ⟨Hb2.out.setCell (p := ⟨W.heap.size, 0, none⟩) (Nat.le_refl _) _, ?_, by simp, Snd.set (fun n hn => by rw [isAt_rep] at hn; cases hn) hl (.zero H0.out.1 H0.out.2), fun _ _ => by rw [isAt_set hl]; simp, Mrk.refl _, fun _ => rfl, fun _ k hk => by omega⟩
            have := Ho2.out.set 0 (.bool true)
            rwa [cellsB_set] at this
          exact ⟨_, hst, Rnd.start hst (fun h => absurd H0.out h)⟩
      · have e1 : decide (0 < ps.length ∧ wo ≠ 0) = false := decide_eq_false h0
        have H0 := Lib.hid h0; clear h0
        go_wp2_with fail
        go_meet
        case rel =>
          have hst : RdS W ps wo W.heap.size (List.replicate ps.length false) 0 (List.replicate ps.length false) w2 := ⟨Hb2.out, Ho2.out, by simp, fun n hn => (by rw [isAt_rep] at hn; cases hn), fun h w => absurd ⟨h, w⟩ H0.out, Mrk.refl _, fun _ => rfl, fun _ k hk => by omega⟩
          exact ⟨_, hst, Rnd.start hst (fun _ => rfl)⟩
    case rest =>
      obtain ⟨l1, hst1, hrd1⟩ := hcut
      have HS1 := Lib.hid (And.intro hst1 hrd1); clear hst1 hrd1 Ho2 Hb2
      go_wp2_with fail
      go_loopw [6] (fun s6 V => ∃ (r : Nat) (l : List Bool), s6 = .int .i64 r ∧ r ≤ ps.length ∧ RdS W ps wo W.heap.size l 0 l V ∧ Rnd ps wo r l) (fun s6 _ => ps.length - (intOf s6).toNat)
      case atStart => exact ⟨0, l1, rfl, Nat.zero_le _, HS1.out.1, HS1.out.2⟩
      case round =>
        obtain ⟨r, l2, rfl, hr, hst2, hrd2⟩ := hrel
        have HS2 := Lib.hid (And.intro hst2 hrd2); clear hst2 hrd2 HS1
        by_cases hlt : r < ps.length
        · have hrr : IntKind.i64.wrap ((r : Int) + 1) = (r : Int) + 1 := by rw [IntKind.wrap_i64]; have := Hn.out; omega
          have hri : (0 : Int) ≤ (r : Int) ∧ (r : Int) < ps.length := by omega
          have Hr := Lib.hid (And.intro hr (And.intro hlt hrr)); clear hr hrr
          obtain ⟨g, rfl⟩ := Hs.out (by omega)
          clear hlt
          go_wp2_with fail
          go_loopw [7] (fun s7 V => ∃ (n : Nat) (l : List Bool), s7 = .int .i64 n ∧ n ≤ ps.length ∧ RdS W ps wo W.heap.size l2 n l V) (fun s7 _ => ps.length - (intOf s7).toNat)
          case atStart => exact ⟨0, l2, rfl, Nat.zero_le _, HS2.out.1⟩
          case round =>
            obtain ⟨n, l3, rfl, hnl, hst3⟩ := hrel
            by_cases hn2 : n < ps.length
            · obtain ⟨p, hp⟩ : ∃ p, ps[n]? = some p := ⟨_, List.getElem?_eq_getElem hn2⟩
              have hnn : IntKind.i64.wrap ((n : Int) + 1) = (n : Int) + 1 := by rw [IntKind.wrap_i64]; have := Hn.out; omega
              have hni : (0 : Int) ≤ (n : Int) ∧ (n : Int) < ps.length := by omega
              have HN := Lib.hid (And.intro hnl (And.intro hn2 (And.intro hp (nxOf_some hp)))); clear hnl hn2 hp
              have Hnn := Lib.hid hnn; clear hnn
              have HS3 := Lib.hid hst3; clear hst3
              go_wp2_with fail
              go_loopw [8] (fun s8 V => ∃ (k : Nat) (l : List Bool), s8 = .int .i64 k ∧ k ≤ p.nx.length ∧ RdS W ps wo W.heap.size l2 n l V ∧ ∀ (j m : Nat), j < k → p.nx[j]? = some m → (m : Int) = wo ∨ isAt l m = true) (fun s8 _ => p.nx.length - (intOf s8).toNat)
              case atStart => exact ⟨0, l3, rfl, Nat.zero_le _, HS3.out, fun j m h => by omega⟩
              case round =>
                obtain ⟨k, l, rfl, hk, hst, hsn⟩ := hrel
                have HS := Lib.hid (And.intro hst (And.intro hk hsn)); clear hst HS3 hsn hk
                obtain ⟨-, -, nb, nm, hcn, hnb⟩ := (H.out.below HS.out.1.below).part HN.out.2.2.1
                have hci := HS.out.1.is.cell (i := n) (v := .bool (isAt l n)) (by rw [cellsB, List.getElem?_map, isAt_get (by have := HN.out.2.1; have := HS.out.1.len; omega)]; rfl)
                have Hnb := Lib.hid hnb; clear hnb
                by_cases hkl : k < p.nx.length
                · have hki : (0 : Int) ≤ (k : Int) ∧ (k : Int) < p.nx.length := by omega
                  have hkk : IntKind.i64.wrap ((k : Int) + 1) = (k : Int) + 1 := by
                    have := Hx2.out p (List.mem_of_getElem? HN.out.2.2.1)
                    rw [IntKind.wrap_i64]; omega
                  have Hk := Lib.hid hkl; clear hkl
                  cases hv : isAt l n with
                  | false =>
                    rw [hv] at hci
                    have hnx := HS.out.1.next (n := n) (fun h => by rw [hv] at h; cases h)
                    have HX := Lib.hid hnx; clear hnx hv
                    have hnn := Hnn.out
                    go_wp2_with fail
                    go_roundw
                    case rel => exact ⟨n + 1, l, rfl, by have := HN.out.2.1; omega, HX.out⟩
                    case measure => simp [intOf]; have := HN.out.2.1; omega
                  | true =>
                    rw [hv] at hci
                    have HV := Lib.hid hv; clear hv
                    obtain ⟨q, rfl, hq, hcs⟩ := Hnb.out (by have := Hk.out; omega)
                    obtain ⟨m, hm⟩ : ∃ m, p.nx[k]? = some m := ⟨_, List.getElem?_eq_getElem Hk.out⟩
                    have hcm := hcs k m hm
                    have hmn : m < ps.length := Hk0.out n m (by rw [HN.out.2.2.2]; exact List.mem_of_getElem? hm)
                    have hmi : (0 : Int) ≤ (m : Int) ∧ (m : Int) < ps.length := by omega
                    have Hm := Lib.hid (And.intro hm hmn); clear hm hmn hcs hq
                    by_cases hw : (m : Int) = wo
                    · have ew : ((m : Int) != wo) = false := by simp [hw]
                      have Hw := Lib.hid hw; clear hw
                      go_wp2_with fail
                      go_roundw
                      case rel => exact ⟨k + 1, l, rfl, by have := Hk.out; omega, HS.out.1, fun j m' hj hm' => by
                        by_cases e : j = k
                        · subst e; rw [Hm.out.1] at hm'; cases hm'; exact .inl Hw.out
                        · exact HS.out.2.2 j m' (by omega) hm'⟩
                      case measure => simp [intOf]; have := Hk.out; omega
                    · have ew : ((m : Int) != wo) = true := by simpa using hw
                      have hml : m < l.length := by have := HS.out.1.len; have := Hm.out.2; omega
                      have cm := HS.out.1.is.cell (i := m) (v := .bool (isAt l m)) (by rw [cellsB, List.getElem?_map, isAt_get hml]; rfl)
                      have fm := HS.out.1.is.free m
                      have Hw := Lib.hid (And.intro hw hml); clear hw hml
                      go_wp2_with fail
                      go_roundw
                      case rel =>
                        refine ⟨k + 1, l.set m true, rfl, by have := Hk.out; omega, HS.out.1.mark (Nat.le_refl _) HV.out (by rw [HN.out.2.2.2]; exact List.mem_of_getElem? Hm.out.1) Hw.out.1 Hw.out.2, fun j m' hj hm' => ?_⟩
                        by_cases e : j = k
                        · subst e; rw [Hm.out.1] at hm'; cases hm'; exact .inr (by rw [isAt_set Hw.out.2]; simp)
                        · exact (HS.out.2.2 j m' (by omega) hm').imp id (fun h => by rw [isAt_set Hw.out.2, h, Bool.or_true])
                      case measure => simp [intOf]; have := Hk.out; omega
                · have hke : k = p.nx.length := by have := HS.out.2.1; omega
                  have hsh : Shut ps wo l n := fun _ m hm hw => by
                    rw [HN.out.2.2.2] at hm
                    obtain ⟨j, hj⟩ := List.getElem?_of_mem hm
                    exact (HS.out.2.2 j m (by have := (List.getElem?_eq_some_iff.1 hj).1; omega) hj).resolve_left hw
                  have HX := Lib.hid (HS.out.1.next hsh); clear hsh hkl hci HS
                  subst hke
                  have hnn := Hnn.out
                  go_wp2_with fail
                  go_roundw
                  case rel => exact ⟨n + 1, l, rfl, by have := HN.out.2.1; omega, HX.out⟩
                  case measure => simp [intOf]; have := HN.out.2.1; omega
            · have hne : n = ps.length := by omega
              subst hne
              have HX := Lib.hid (And.intro hst3.open_ (hst3.round HS2.out.2)); clear hst3 hnl hn2
              have hrr := Hr.out.2.2
              go_wp2_with fail
              go_roundw
              case rel => exact ⟨r + 1, l3, rfl, by have := Hr.out.2.1; omega, HX.out.1, HX.out.2⟩
              case measure => simp [intOf]; have := Hr.out.2.1; omega
        · have hre : r = ps.length := by omega
          subst hre
          have HX := Lib.hid (And.intro (HS2.out.1.done HS2.out.2) HS2.out.1); clear HS2 hlt hr
          go_wp2_with fail
          go_ret
          exact ⟨l2, rfl, HX.out.1, HX.out.2.is, HX.out.2.below⟩

end Go.Proofs.YtehnailokgoekaaDoor
