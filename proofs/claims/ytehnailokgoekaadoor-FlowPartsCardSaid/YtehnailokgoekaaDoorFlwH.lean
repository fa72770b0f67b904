/- Which parts are reached. Conditions: those stated in each theorem. -/
import Derived.Test.YtehnailokgoekaaDoorFlwG
namespace Go.Proofs.YtehnailokgoekaaDoor
open Go.RowKit Go.BigFrame Go.Shelf
attribute [local go_sem ↓ high] appN_eq

def cellsB (l : List Bool) : List Value := l.map Value.bool
theorem cellsB_set (l : List Bool) (n : Nat) : (cellsB l).set n (.bool true) = cellsB (l.set n true) := by simp [cellsB]
theorem parts_nxok (c : List In) : NxOk (partsP c) := fun n m h => by
  unfold nxOf at h
  split at h
  · cases h
  · rename_i x hx
    have hm : x.nx = nextP c x.hi := by
      unfold partsP at hx
      rw [List.getElem?_map, Option.map_eq_some_iff] at hx
      obtain ⟨y, hy, rfl⟩ := hx; rfl
    rw [hm] at h
    rw [parts_len]; exact next_lt h
theorem nxOf_some {ps : List Pt} {n : Nat} {p : Pt} (h : ps[n]? = some p) : nxOf ps n = p.nx := by simp [nxOf, h]

/-- Between two rounds. -/
structure RcS (W : World) (ps : List Pt) (wo : Int) (gi gw wc : Nat) (wl : List Nat) (l : List Bool) (wr : World) : Prop where
  below : Below W.heap.size W wr
  is : Holds wr gi 4 (cellsB l)
  work : wr.ownsRow W.heap.size 3 1 (.slice (some ⟨gw, 0, none⟩) wl.length wc) wl.length (cellsN wl)
  len : l.length = ps.length
  snd : Snd ps wo l
  zero : isAt l 0 = true
  marks : ∀ n ∈ wl, isAt l n = true
  shut : ∀ n, isAt l n = true → n ∉ wl → ∀ m, m ∈ nxOf ps n → (m : Int) ≠ wo → isAt l m = true
  few : wl.length ≤ cntB l
theorem RcS.pop {W : World} {ps : List Pt} {wo : Int} {gi gw wc : Nat} {wl : List Nat} {x : Nat} {l : List Bool} {wr : World} (h : RcS W ps wo gi gw wc (wl ++ [x]) l wr) (hx : ∀ m, m ∈ nxOf ps x → (m : Int) ≠ wo → isAt l m = true) : RcS W ps wo gi gw wc wl l wr := by
  refine ⟨h.below, h.is, ?_, h.len, h.snd, h.zero, fun n hn => h.marks n (List.mem_append_left _ hn), fun n hn hw => ?_, by have := h.few; simp at this; omega⟩
  · rcases h.work.2 with ⟨h1, _⟩ | ⟨g', cap', cur, hv, h1, h2, h3, h4, h5, h6⟩
    · cases h1
    · cases hv
      refine ⟨by simp [cellsN], .inr ⟨gw, wc, cur, rfl, h1, h2, by simp at h3; omega, h4, h5, ?_⟩⟩
      have := congrArg (List.take wl.length) h6
      rw [List.take_take, Nat.mul_one, List.length_append, List.length_singleton, Nat.min_eq_left (by omega)] at this
      rw [Nat.mul_one, this]
      simp [cellsN]
  · by_cases e : n = x
    · subst e; exact hx
    · exact h.shut n hn (fun hm => by rcases List.mem_append.1 hm with hm | hm; exact hw hm; exact e (List.mem_singleton.1 hm))

set_option maxRecDepth 100000 in
set_option maxHeartbeats 1000000 in
theorem reached_any (ps : List Pt) (wo : Int) (lo : Nat) (v : Value) (W : World) (h : PartsAt W lo v ps) (hk : NxOk ps) (hx2 : ∀ p ∈ ps, p.nx.length ≤ 2) (hn : ps.length ≤ 1024) :
    Calls Tryd.prog 19 #[v, .int .i64 wo] W fun e w' => ∃ l, e = .returned (.slice (some ⟨W.heap.size, 0, none⟩) ps.length ps.length) ∧ IsRch ps wo l ∧ Holds w' W.heap.size 4 (cellsB l) ∧ Below W.heap.size W w' := by
  obtain ⟨ad, vc, rfl, hsome⟩ := h.form
  obtain ⟨i1, hj0, hj1, hj2, hj3⟩ := flw_info Tryd.infoBoolF
  have Hj := Lib.hid (And.intro hj0 (And.intro hj1 (And.intro hj2 hj3))); clear hj0 hj1 hj2 hj3
  have H := Lib.hid h; clear h
  have Hk := Lib.hid hk; clear hk
  have Hx2 := Lib.hid hx2; clear hx2
  have Hn := Lib.hid hn; clear hn
  have Hs := Lib.hid hsome; clear hsome
  go_enter Tryd.func19, Tryd.ntmps19
  go_wp2_with fail
  refine wp_scope_straight ?_
  go_upto_region 2 with (at_make; refine wpList_make_full _ rfl _ _ 36 rfl W.heap.size 4 i1 _ 1 Tryd.underlying36 Hj.out.1 Hj.out.2.1 Hj.out.2.2.1 .i64 .i64 ps.length ps.length ps.length rfl rfl rfl rfl (by rw [Hj.out.2.2.2]; have := Hn.out; omega) (by unfold maxLen; have := Hn.out; omega) (Nat.le_refl _) ?_; intro w2 ho2 hg2; have Ho2 := Lib.hid (owns_full ho2); have Hb2 := Lib.hid ((Below.refl W.heap.size W).grown hg2 (Nat.le_refl _) (fun g e => by cases e)); clear ho2 hg2)
  rw [made_bool] at Ho2
  have hrep : List.replicate ps.length (Value.bool false) = cellsB (List.replicate ps.length false) := by simp [cellsB]
  rw [hrep] at Ho2
  clear hrep Hj
  by_cases h0 : ps.length = 0
  · have e1 : ((ps.length : Int) == 0) = true := by rw [h0]; rfl
    have Hf := Lib.hid (rch_none ps (wo := wo) (.inl h0)); clear h0
    go_wp2
    rw [Exit.noGoto_ret]
    go_ret
    exact ⟨_, rfl, Hf.out, Ho2.out, Hb2.out⟩
  · have e1 : ((ps.length : Int) == 0) = false := by rw [beq_eq_false_iff_ne]; omega
    by_cases hw0 : wo = 0
    · subst hw0
      have Hf := Lib.hid (rch_none ps (wo := 0) (.inr rfl)); clear h0
      go_wp2
      rw [Exit.noGoto_ret]
      go_ret
      exact ⟨_, rfl, Hf.out, Ho2.out, Hb2.out⟩
    · have e2 : (wo == 0) = false := by simpa using hw0
      have hn0 : (0 : Int) < ps.length := by omega
      have c0 := Ho2.out.cell (i := 0) (v := .bool false) (by rw [cellsB, List.map_replicate, List.getElem?_replicate, if_pos (by omega)])
      have f0 := Ho2.out.free 0
      obtain ⟨g, rfl⟩ := Hs.out (by omega)
      have Hw := Lib.hid (And.intro h0 hw0); clear h0 hw0 Hs
      go_wp2_with fail
      refine wp_label ?_
      have hgw : W.heap.size < w2.heap.size := Ho2.out.lt
      have hst : RcS W ps wo W.heap.size w2.heap.size 1 [0] ((List.replicate ps.length false).set 0 true) ((w2.setCell ⟨W.heap.size, 0, none⟩ (.bool true)).alloc (.cells #[.int .i64 0] 3)) := by
        have hl : 0 < (List.replicate ps.length false).length := by simp; have := Hw.out.1; omega
        have hb : Below W.heap.size W ((w2.setCell ⟨W.heap.size, 0, none⟩ (.bool true)).alloc (.cells #[.int .i64 0] 3)) := (Hb2.out.setCell (p := ⟨W.heap.size, 0, none⟩) (Nat.le_refl _) _).alloc (by rw [World.size_setCell]; exact Hb2.out.size) _
        have hcnt : cntB ((List.replicate ps.length false).set 0 true) = cntB (List.replicate ps.length false) + 1 := cntB_set hl (isAt_rep _ _)
        refine ⟨hb, ?_, ?_, by simp, Snd.set (fun n hn => by rw [isAt_rep] at hn; cases hn) hl (.zero (by have := Hw.out.1; omega) Hw.out.2), by rw [isAt_set hl]; simp, fun n hn => by rw [List.mem_singleton.1 hn, isAt_set hl]; simp, fun n hn hw => ?_, by rw [hcnt]; simp⟩
        · have := (Ho2.out.set 0 (.bool true)).alloc (.cells #[.int .i64 0] 3)
          rwa [cellsB_set] at this
        · refine ⟨by simp [cellsN], .inr ⟨w2.heap.size, 1, #[.int .i64 0], rfl, Nat.le_of_lt hgw, ?_, Nat.le_refl _, by unfold maxLen; omega, rfl, rfl⟩⟩
          have := World.alloc_heap_new (w2.setCell ⟨W.heap.size, 0, none⟩ (.bool true)) (.cells #[.int .i64 0] 3)
          rwa [World.size_setCell] at this
        · rw [isAt_set hl, isAt_rep] at hn
          simp at hn
          exact absurd (List.mem_singleton.2 hn) hw
      have HST := Lib.hid hst; clear hst
      clear Ho2 Hb2 c0 f0
      generalize (w2.setCell ⟨W.heap.size, 0, none⟩ (.bool true)).alloc (.cells #[.int .i64 0] 3) = w3 at *
      obtain ⟨gw0, hgw0⟩ : ∃ gw0, w2.heap.size = gw0 := ⟨_, rfl⟩
      simp only [hgw0] at *
      clear hgw0 hgw
      obtain ⟨gi, hgie⟩ : ∃ gi, W.heap.size = gi := ⟨_, rfl⟩
      rw [hgie] at HST
      simp only [hgie]
      have Hgi := Lib.hid hgie; clear hgie
      go_wp2_with fail
      go_loopg [6] (2 * ps.length + 1) (fun gg s6 wr => ∃ (gw wc : Nat) (wl : List Nat) (l : List Bool), s6 = .slice (some ⟨gw, 0, none⟩) wl.length wc ∧ RcS W ps wo gi gw wc wl l wr ∧ 2 * (ps.length - cntB l) + wl.length ≤ gg)
      case atStart => exact ⟨gw0, 1, [0], _, rfl, HST.out, by simp; omega⟩
      case round =>
        obtain ⟨gw, wc, wl, l, rfl, hst, hgg⟩ := hrel
        have HS1 := Lib.hid hst; clear hst HST
        have Hgg := Lib.hid hgg; clear hgg
        by_cases hwl : wl = []
        · subst hwl
          have hfin : IsRch ps wo l := rch_of_shut HS1.out.len HS1.out.snd (fun _ _ => HS1.out.zero) (fun n hn m hm hw => HS1.out.shut n hn (by simp) m hm hw)
          have Hf := Lib.hid hfin; clear hfin
          go_wp2_with fail
          first | rw [Exit.noGoto_ret] | skip
          go_ret
          have hg := Hgi.out
          subst hg
          exact ⟨l, rfl, Hf.out, HS1.out.is, HS1.out.below⟩
        · obtain ⟨wl', x, rfl⟩ : ∃ wl' x, wl = wl' ++ [x] := ⟨wl.dropLast, wl.getLast hwl, (List.dropLast_concat_getLast hwl).symm⟩
          have hxm : isAt l x = true := HS1.out.marks x (by simp)
          have hxl : x < ps.length := by rw [← HS1.out.len]; exact isAt_lt hxm
          obtain ⟨p, hp⟩ : ∃ p, ps[x]? = some p := ⟨_, List.getElem?_eq_getElem hxl⟩
          have hnx := nxOf_some hp
          obtain ⟨-, -, nb, nm, hcn, hnn⟩ := (H.out.below HS1.out.below).part hp
          have hfew := HS1.out.few
          have hcl := cntB_le l
          have hll := HS1.out.len
          have hpn : p.nx.length ≤ p.nx.length := Nat.le_refl _
          have hwx := (owns_cell HS1.out.work (g := gw) rfl (j := wl'.length) (u := .int .i64 (x : Nat)) (by simp [cellsN])).1
          have hwlen : (wl' ++ [x]).length = wl'.length + 1 := by simp
          rw [hwlen] at hfew
          rw [hwlen]
          obtain ⟨N, hN⟩ : ∃ N, wl'.length + 1 = N := ⟨_, rfl⟩
          obtain ⟨M, hM⟩ : ∃ M, wl'.length = M := ⟨_, rfl⟩
          rw [hN]
          rw [hM] at hwx
          have hg0 : (0 < (N : Int)) := by omega
          have hk1 : IntKind.i64.wrap ((N : Int) - 1) = (M : Int) := by rw [IntKind.wrap_i64]; have := Hn.out; omega
          have hk2 : (0 : Int) ≤ (M : Int) ∧ (M : Int) < (N : Int) := by omega
          have hk3 : (0 : Int) ≤ (x : Int) ∧ (x : Int) < ps.length := by omega
          have Hx := Lib.hid (And.intro hxm (And.intro hxl (And.intro hp hnx))); clear hxm hp hnx hpn hxl
          have Hnn := Lib.hid hnn; clear hnn
          have HF := Lib.hid (And.intro hfew (And.intro hcl (And.intro hll (And.intro hN hM)))); clear hfew hcl hll hN hM hwlen hwl
          go_wp2_with fail
          go_loopw [6, 39] (fun s6 j V => ∃ k : Nat, s6 = .slice (some ⟨gw, 0, none⟩) N wc ∧ j = .int .i64 k ∧ V = wr ∧ k ≤ p.nx.length ∧ ∀ (j' m : Nat), j' < k → p.nx[j']? = some m → (m : Int) = wo ∨ isAt l m = true) (fun _ j _ => p.nx.length - (intOf j).toNat)
          case atStart => exact ⟨0, rfl, rfl, rfl, Nat.zero_le _, fun j' m h => by omega⟩
          case round =>
            obtain ⟨k, rfl, rfl, rfl, hk, hseen⟩ := hrel
            have Hse := Lib.hid hseen; clear hseen
            by_cases hlt : k < p.nx.length
            · obtain ⟨m, hm⟩ : ∃ m, p.nx[k]? = some m := ⟨_, List.getElem?_eq_getElem hlt⟩
              obtain ⟨q, rfl, hq, hcs⟩ := Hnn.out (by omega)
              have hcm := hcs k m hm
              have hmn : m < ps.length := Hk.out x m (by rw [Hx.out.2.2.2]; exact List.mem_of_getElem? hm)
              have hmi : (0 : Int) ≤ (m : Int) ∧ (m : Int) < ps.length := by omega
              have hki : (0 : Int) ≤ (k : Int) ∧ (k : Int) < p.nx.length := by omega
              have hkk : IntKind.i64.wrap ((k : Int) + 1) = (k : Int) + 1 := by
                have := Hx2.out p (List.mem_of_getElem? Hx.out.2.2.1)
                rw [IntKind.wrap_i64]; omega
              have hci := (HS1.out.is.cell (i := m) (v := .bool (isAt l m)) (by rw [cellsB, List.getElem?_map, isAt_get (by have := HF.out.2.2.1; omega)]; rfl))
              have hfi := HS1.out.is.free m
              have Hm := Lib.hid (And.intro hm (And.intro hmn (And.intro hq hk))); clear hm hmn hq hcs hk
              by_cases hw : (m : Int) = wo
              · have ew : ((m : Int) != wo) = false := by simp [hw]
                have Hw2 := Lib.hid hw; clear hw hci hfi
                go_wp2
                go_roundw
                case rel => exact ⟨k + 1, by first | rfl | trivial, by first | rfl | trivial, by first | rfl | trivial, by omega, fun j' m' hj' hm' => by
                  by_cases e : j' = k
                  · subst e; rw [Hm.out.1] at hm'; cases hm'; exact .inl Hw2.out
                  · exact Hse.out j' m' (by omega) hm'⟩
                case measure => simp [intOf]; omega
              · have ew : ((m : Int) != wo) = true := by simpa using hw
                have Hw2 := Lib.hid hw; clear hw
                cases hv : isAt l m with
                | true =>
                  rw [hv] at hci
                  have Hv := Lib.hid hv; clear hv hfi
                  go_wp2
                  go_roundw
                  case rel => exact ⟨k + 1, by first | rfl | trivial, by first | rfl | trivial, by first | rfl | trivial, by omega, fun j' m' hj' hm' => by
                    by_cases e : j' = k
                    · subst e; rw [Hm.out.1] at hm'; cases hm'; exact .inr Hv.out
                    · exact Hse.out j' m' (by omega) hm'⟩
                  case measure => simp [intOf]; omega
                | false =>
                  rw [hv] at hci
                  have Hv := Lib.hid hv; clear hv
                  have hml : m < l.length := by have := HF.out.2.2.1; have := Hm.out.2.1; omega
                  have hcnt := cntB_set hml Hv.out
                  have hcle := cntB_le (l.set m true)
                  have hrc : Rch ps wo m := .step (HS1.out.snd x Hx.out.1) (by rw [Hx.out.2.2.2]; exact List.mem_of_getElem? Hm.out.1) Hw2.out
                  have hown : (wr.setCell ⟨gi, m, none⟩ (.bool true)).ownsRow W.heap.size 3 1 (.slice (some ⟨gw, 0, none⟩) N wc) N (cellsN (wl' ++ [x])) := by
                    have h1 := HS1.out.work
                    rw [show (wl' ++ [x]).length = N by simp; exact HF.out.2.2.2.1] at h1
                    exact owns_same h1 (fun g' e => Below.heap_setCell _ _ _ _ (fun e2 => by
                      obtain ⟨cc, hc⟩ := owns_kind h1 e
                      have h2 := HS1.out.is
                      unfold Holds at h2
                      rw [e2] at hc
                      simp only at hc
                      rw [h2] at hc; cases hc))
                  have hbel : Below W.heap.size W (wr.setCell ⟨gi, m, none⟩ (.bool true)) := HS1.out.below.setCell (p := ⟨gi, m, none⟩) (by have := Hgi.out; simp; omega) _
                  obtain ⟨g6, cap6, w6, hap, hown6, hgr6⟩ := appN_own W.heap.size (.slice (some ⟨gw, 0, none⟩) N wc) N _ (m : Int) (wr.setCell ⟨gi, m, none⟩ (.bool true)) hown (by have := HF.out; have := Hn.out; omega) hbel.size
                  rw [World.size_setCell] at hap
                  have hst6 : RcS W ps wo gi g6 cap6 (wl' ++ [x] ++ [m]) (l.set m true) w6 := by
                    have hset : Holds (wr.setCell ⟨gi, m, none⟩ (.bool true)) gi 4 (cellsB (l.set m true)) := by
                      have := HS1.out.is.set m (.bool true)
                      rwa [cellsB_set] at this
                    refine ⟨(hbel.alloc hbel.size _).grown hgr6 (by have := hbel.size; simp at this ⊢; omega) (fun r e => by cases e; exact (owns_lt hown (g := gw) rfl).1), (hset.alloc _).same (hgr6.block gi (by have := hset.lt; simp at this ⊢; omega) (fun e => by
                      cases e
                      obtain ⟨cc, hc⟩ := owns_kind hown (k := gw) rfl
                      unfold Holds at hset
                      rw [hset] at hc; cases hc)), ?_, by rw [List.length_set]; exact HS1.out.len, HS1.out.snd.set hml hrc, by rw [isAt_set hml, HS1.out.zero, Bool.or_true], fun n hn' => ?_, fun n hn' hnw m' hm' hw' => ?_, ?_⟩
                    · have e1 : (wl' ++ [x] ++ [m]).length = N + 1 := by simp; have := HF.out.2.2.2.1; omega
                      rw [e1]
                      have e2 : cellsN (wl' ++ [x] ++ [m]) = cellsN (wl' ++ [x]) ++ [.int .i64 (m : Int)] := by simp [cellsN]
                      rw [e2]; exact hown6
                    · rw [isAt_set hml]
                      rcases List.mem_append.1 hn' with hn' | hn'
                      · rw [HS1.out.marks n hn', Bool.or_true]
                      · rw [List.mem_singleton.1 hn']; simp
                    · rw [isAt_set hml] at hn' ⊢
                      have hnm : n ≠ m := fun e => hnw (by rw [e]; simp)
                      have hnl : isAt l n = true := by
                        simp only [Bool.or_eq_true, beq_iff_eq] at hn'
                        exact hn'.resolve_left hnm
                      rw [HS1.out.shut n hnl (fun h => hnw (List.mem_append_left _ h)) m' hm' hw', Bool.or_true]
                    · rw [hcnt]; have := HS1.out.few; simp only [List.length_append, List.length_singleton] at this ⊢; omega
                  have HS6 := Lib.hid hst6; clear hst6 hown hown6 hgr6 hbel hrc
                  have HC := Lib.hid (And.intro hcnt (And.intro hcle hml)); clear hcnt hcle hml
                  go_wp2_with fail
                  go_roundg (gk - 1)
                  case measure => have := Hgg.out; simp at this; omega
                  case rel =>
                    refine ⟨g6, cap6, wl' ++ [x] ++ [m], l.set m true, ?_, HS6.out, ?_⟩
                    · have e1 : (wl' ++ [x] ++ [m]).length = N + 1 := by simp; have := HF.out.2.2.2.1; omega
                      rw [e1]
                    · have h1 := Hgg.out
                      have h2 := HC.out
                      have h3 := HF.out.2.2.1
                      simp at h1 h2 ⊢
                      omega
            · have hend : k = p.nx.length := by have := hk; omega
              have hpop := RcS.pop HS1.out (fun m hm hw => by
                rw [Hx.out.2.2.2] at hm
                obtain ⟨j', hj'⟩ := List.getElem?_of_mem hm
                exact (Hse.out j' m (by have := (List.getElem?_eq_some_iff.1 hj').1; omega) hj').resolve_left hw)
              have Hp := Lib.hid hpop; clear hpop hend hk
              have hcap : N ≤ wc := by
                rcases HS1.out.work.2 with ⟨h1, _⟩ | ⟨g', cap', cur, hv, h1, h2, h3, _⟩
                · cases h1
                · cases hv; have := HF.out.2.2.2.1; simp at h3; omega
              have hsl : (0 : Int) ≤ (M : Int) ∧ (M : Int) ≤ (wc : Int) := by omega
              clear hcap
              go_wp2_with fail
              go_roundg (gk - 1)
              case measure => have := Hgg.out; simp at this; omega
              case rel => exact ⟨gw, wc, wl', l, by rw [HF.out.2.2.2.2], Hp.out, by have := Hgg.out; simp at this; omega⟩

end Go.Proofs.YtehnailokgoekaaDoor
