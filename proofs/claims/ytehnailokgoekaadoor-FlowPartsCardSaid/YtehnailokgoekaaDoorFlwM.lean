/- Which part dominates which. Conditions: those stated in each theorem. -/
import Derived.Test.YtehnailokgoekaaDoorFlwR
namespace Go.Proofs.YtehnailokgoekaaDoor
open Go.RowKit Go.BigFrame Go.Shelf

theorem Tryd.infoRowB : (Tryd.prog.info? 36).map (fun i => (i.zero, i.size, i.bytes)) = some (some (.slice none 0 0), 1, 24) := by kernel_rfl
theorem made_rows (n : Nat) : (madeCells (Value.slice none 0 0).cells (n * 1)).toList = List.replicate n (.slice none 0 0) := by
  apply List.ext_getElem
  · simp [madeCells]
  · intro j h1 h2
    simp [madeCells, Nat.mod_one, Value.cells]
/-- Which parts one dominates. -/
def DomL (ps : List Pt) (i : Nat) (d : List Bool) : Prop := d.length = ps.length ∧ ∀ j, isAt d j = true ↔ Rch ps (-1) j ∧ ¬ Rch ps i j
def rowV (n b : Nat) : Value := .slice (some ⟨b, 0, none⟩) n n
/-- The first k rows, made. -/
structure DmS (W : World) (ps : List Pt) (ga gr k : Nat) (all : List Bool) (bs : List Nat) (wr : World) : Prop where
  below : Below W.heap.size W wr
  all : Holds wr ga 4 (cellsB all)
  rows : Holds wr gr 36 (bs.map (rowV ps.length) ++ List.replicate (ps.length - k) (.slice none 0 0))
  len : bs.length = k
  made : ∀ i b, bs[i]? = some b → W.heap.size ≤ b ∧ b ≠ ga ∧ ∃ d, DomL ps i d ∧ Holds wr b 4 (cellsB d)
theorem DmS.next {W : World} {ps : List Pt} {ga gr k : Nat} {all : List Bool} {bs : List Nat} {wr wr' : World} (h : DmS W ps ga gr k all bs wr) (hb : Below wr.heap.size wr wr') : DmS W ps ga gr k all bs wr' :=
  ⟨h.below.trans (hb.mono h.below.size), h.all.below hb, h.rows.below hb, h.len, fun i b hi => by
    obtain ⟨h1, h2, d, h3, h4⟩ := h.made i b hi
    exact ⟨h1, h2, d, h3, h4.below hb⟩⟩
/-- The same, while row k is under way. -/
structure DmT (W : World) (ps : List Pt) (ga gr k : Nat) (all : List Bool) (bs : List Nat) (gn : Nat) (d : List Bool) (wr : World) : Prop where
  below : Below W.heap.size W wr
  all : Holds wr ga 4 (cellsB all)
  rows : Holds wr gr 36 ((bs ++ [gn]).map (rowV ps.length) ++ List.replicate (ps.length - (k + 1)) (.slice none 0 0))
  len : bs.length = k
  made : ∀ i b, bs[i]? = some b → (W.heap.size ≤ b ∧ b ≠ ga ∧ ∃ d, DomL ps i d ∧ Holds wr b 4 (cellsB d)) ∧ b ≠ gn
  row : Holds wr gn 4 (cellsB d)
  apart : W.heap.size ≤ gn ∧ gn ≠ ga ∧ gn ≠ gr
theorem DmS.start {W : World} {ps : List Pt} {ga gr k : Nat} {all : List Bool} {bs : List Nat} {wr : World} (h : DmS W ps ga gr k all bs wr) (hk : k < ps.length) {gn : Nat} {d : List Bool} (hr : Holds wr gn 4 (cellsB d)) (hW : W.heap.size ≤ gn) (hg : W.heap.size ≤ gr) (hne : gn ≠ ga ∧ gn ≠ gr) (hga : ga ≠ gr) (hb : ∀ (i b : Nat), bs[i]? = some b → b ≠ gn ∧ b ≠ gr) :
    DmT W ps ga gr k all bs gn d (wr.setCell ⟨gr, k, none⟩ (rowV ps.length gn)) := by
  refine ⟨h.below.setCell (p := ⟨gr, k, none⟩) hg _, h.all.other (p := ⟨gr, k, none⟩) (by simp; omega) _, ?_, h.len, fun i b hi => ?_, hr.other (p := ⟨gr, k, none⟩) (by simp; omega) _, hW, hne.1, hne.2⟩
  · have := h.rows.set k (rowV ps.length gn)
    have e : (bs.map (rowV ps.length) ++ List.replicate (ps.length - k) (Value.slice none 0 0)).set k (rowV ps.length gn) = (bs ++ [gn]).map (rowV ps.length) ++ List.replicate (ps.length - (k + 1)) (.slice none 0 0) := by
      rw [List.set_append_right _ _ (by simp [h.len]), List.length_map, h.len, Nat.sub_self, show ps.length - k = (ps.length - (k + 1)) + 1 by omega, List.replicate_succ, List.set_cons_zero, List.map_append]
      simp
    rwa [e] at this
  · obtain ⟨h1, h2, d', h3, h4⟩ := h.made i b hi
    exact ⟨⟨h1, h2, d', h3, h4.other (p := ⟨gr, k, none⟩) (by have := (hb i b hi).2; simp; omega) _⟩, (hb i b hi).1⟩
theorem DmT.put {W : World} {ps : List Pt} {ga gr k : Nat} {all : List Bool} {bs : List Nat} {gn : Nat} {d : List Bool} {wr : World} (h : DmT W ps ga gr k all bs gn d wr) (j : Nat) (b : Bool) : DmT W ps ga gr k all bs gn (d.set j b) (wr.setCell ⟨gn, j, none⟩ (.bool b)) := by
  have ha := h.apart
  refine ⟨h.below.setCell (p := ⟨gn, j, none⟩) ha.1 _, h.all.other (p := ⟨gn, j, none⟩) (by simp; omega) _, h.rows.other (p := ⟨gn, j, none⟩) (by simp; omega) _, h.len, fun i x hi => ?_, ?_, ha⟩
  · obtain ⟨⟨h1, h2, d', h3, h4⟩, h5⟩ := h.made i x hi
    exact ⟨⟨h1, h2, d', h3, h4.other (p := ⟨gn, j, none⟩) (by simp; omega) _⟩, h5⟩
  · have := h.row.set j (.bool b)
    have e : (cellsB d).set j (.bool b) = cellsB (d.set j b) := by simp [cellsB]
    rwa [e] at this
theorem DmT.drew {W : World} {ps : List Pt} {ga gr k : Nat} {all : List Bool} {bs : List Nat} {gn : Nat} {d : List Bool} {wr : World} (h : DmT W ps ga gr k all bs gn d wr) : DmT W ps ga gr k all bs gn d wr.drew :=
  ⟨below_drew1 h.below, h.all, h.rows, h.len, h.made, h.row, h.apart⟩
theorem DmT.done {W : World} {ps : List Pt} {ga gr k : Nat} {all : List Bool} {bs : List Nat} {gn : Nat} {d : List Bool} {wr : World} (h : DmT W ps ga gr k all bs gn d wr) (hd : DomL ps k d) : DmS W ps ga gr (k + 1) all (bs ++ [gn]) wr := by
  refine ⟨h.below, h.all, h.rows, by simp [h.len], fun i b hi => ?_⟩
  by_cases e : i < bs.length
  · rw [List.getElem?_append_left e] at hi
    exact (h.made i b hi).1
  · rw [List.getElem?_append_right (by omega)] at hi
    have hik : i = k := by
      have := (List.getElem?_eq_some_iff.1 hi).1
      simp at this
      have := h.len; omega
    subst hik
    rw [h.len, Nat.sub_self] at hi
    simp at hi; subst hi
    exact ⟨h.apart.1, h.apart.2.1, d, hd, h.row⟩
/-- A row under way: the first k places are told, the others are as they were. -/
def MidL (all row d : List Bool) (k : Nat) : Prop := d.length = row.length ∧ (∀ j, j < k → isAt d j = (isAt all j && !isAt row j)) ∧ ∀ j, k ≤ j → isAt d j = isAt row j
theorem isAt_put2 {l : List Bool} {n : Nat} (h : n < l.length) (b : Bool) (k : Nat) : isAt (l.set n b) k = if k = n then b else isAt l k := by
  unfold isAt
  rw [List.getElem?_set]
  by_cases e : n = k
  · subst e; simp [h]
  · have : ¬ k = n := fun h => e h.symm
    simp [e, this]
theorem MidL.next {all row d : List Bool} {k : Nat} (h : MidL all row d k) (hk : k < row.length) : MidL all row (d.set k (isAt all k && !isAt row k)) (k + 1) := by
  have hk' : k < d.length := by rw [h.1]; exact hk
  refine ⟨by rw [List.length_set]; exact h.1, fun j hj => ?_, fun j hj => ?_⟩
  · rw [isAt_put2 hk']
    by_cases e : j = k
    · rw [if_pos e, e]
    · rw [if_neg e]; exact h.2.1 j (by omega)
  · rw [isAt_put2 hk', if_neg (by omega)]; exact h.2.2 j (by omega)
theorem MidL.dom {ps : List Pt} {all row d : List Bool} {i : Nat} (h : MidL all row d ps.length) (ha : IsRch ps (-1) all) (hr : IsRch ps i row) : DomL ps i d := by
  refine ⟨h.1.trans hr.1, fun j => ?_⟩
  by_cases hj : j < ps.length
  · rw [h.2.1 j hj]; exact dom_iff ha hr
  · constructor
    · intro hd; have := isAt_lt hd; rw [h.1, hr.1] at this; omega
    · rintro ⟨h1, _⟩
      have := isAt_lt ((ha.2 j).2 h1)
      rw [ha.1] at this; omega

set_option maxRecDepth 100000 in
set_option maxHeartbeats 1000000 in
theorem dominates_any (ps : List Pt) (lo : Nat) (v : Value) (W : World) (h : PartsAt W lo v ps) (hk : NxOk ps) (hx2 : ∀ p ∈ ps, p.nx.length ≤ 2) (hn : ps.length ≤ 1024) :
    Calls Tryd.prog 20 #[v] W fun e w' => ∃ gr ga all bs, e = .returned (.slice (some ⟨gr, 0, none⟩) ps.length ps.length) ∧ W.heap.size ≤ gr ∧ DmS W ps ga gr ps.length all bs w' := by
  obtain ⟨ad, vc, rfl, hsome⟩ := h.form
  obtain ⟨i1, hj0, hj1, hj2, hj3⟩ := flw_info Tryd.infoRowB
  have Hj := Lib.hid (And.intro hj0 (And.intro hj1 (And.intro hj2 hj3))); clear hj0 hj1 hj2 hj3
  have HR := Lib.hid (fun (wo : Int) (V : World) (hV : Below W.heap.size W V) => reached_any ps wo lo _ V (h.below hV) hk hx2 hn)
  have Hn := Lib.hid hn; clear hn h hk hx2 hsome
  go_enter Tryd.func20, Tryd.ntmps20
  go_wp2_with fail
  refine (HR.out _ W (Below.refl _ _)).mono ?_
  rintro e w1 ⟨all, rfl, hall, hha, hb1⟩
  have H1 := Lib.hid (And.intro hall (And.intro hha hb1)); clear hall hha hb1
  go_upto_region 3 with (at_make; refine wpList_make_full _ rfl _ _ 39 rfl w1.heap.size 36 i1 _ 1 Tryd.underlying39 Hj.out.1 Hj.out.2.1 Hj.out.2.2.1 .i64 .i64 ps.length ps.length ps.length rfl rfl rfl rfl (by rw [Hj.out.2.2.2]; have := Hn.out; omega) (by unfold maxLen; have := Hn.out; omega) (Nat.le_refl _) ?_; intro w2 ho2 hg2; have Ho2 := Lib.hid (owns_full ho2); have Hb2 := Lib.hid ((Below.refl w1.heap.size w1).grown hg2 (Nat.le_refl _) (fun g e => by cases e)); clear ho2 hg2)
  rw [made_rows] at Ho2
  have hgr : W.heap.size < w1.heap.size := H1.out.2.1.lt
  have hst : DmS W ps W.heap.size w1.heap.size 0 all [] w2 := ⟨H1.out.2.2.trans (Hb2.out.mono H1.out.2.2.size), H1.out.2.1.below Hb2.out, Ho2.out, rfl, fun i b hi => by simp at hi⟩
  have HS := Lib.hid hst; clear hst Ho2 Hb2 Hj
  obtain ⟨ga, hga⟩ : ∃ ga, W.heap.size = ga := ⟨_, rfl⟩
  obtain ⟨gr, hgre⟩ : ∃ gr, w1.heap.size = gr := ⟨_, rfl⟩
  rw [hgre] at HS hgr
  simp only [hgre]
  rw [hga] at HS hgr
  simp only [hga]
  have Hg := Lib.hid (And.intro hga hgr); clear hga hgre hgr
  have Hall := Lib.hid H1.out.1; clear H1
  go_wp2_with fail
  go_loopw [15] (fun s V => ∃ (k : Nat) (bs : List Nat), s = .int .i64 k ∧ k ≤ ps.length ∧ DmS W ps ga gr k all bs V) (fun s _ => ps.length - (intOf s).toNat)
  case atStart => exact ⟨0, [], rfl, Nat.zero_le _, HS.out⟩
  case round =>
    obtain ⟨k, bs, rfl, hk, hst⟩ := hrel
    clear HS
    by_cases hlt : k < ps.length
    · have hkk : IntKind.i64.wrap ((k : Int) + 1) = (k : Int) + 1 := by rw [IntKind.wrap_i64]; have := Hn.out; omega
      have hki : (0 : Int) ≤ (k : Int) ∧ (k : Int) < ps.length := by omega
      have Hst := Lib.hid hst; clear hst
      have Hk := Lib.hid (And.intro hk hlt); clear hk hlt
      go_wp2_with fail
      refine (HR.out _ _ Hst.out.below).mono ?_
      rintro e w3 ⟨row, rfl, hrow, hhr, hb3⟩
      have hst3 := Hst.out.next hb3
      have cr := hst3.rows.cell (i := k) (v := .slice none 0 0) (by rw [List.getElem?_append_right (by simp [hst3.len]), List.length_map, hst3.len, Nat.sub_self, List.getElem?_replicate, if_pos (by have := Hk.out.2; omega)])
      have fr := hst3.rows.free k
      have hne : wr.heap.size ≠ gr ∧ wr.heap.size ≠ ga := ⟨by have := Hst.out.rows.lt; omega, by have := Hst.out.all.lt; omega⟩
      have hbn : ∀ i b, bs[i]? = some b → b ≠ wr.heap.size ∧ b ≠ gr := fun i b hi => by
        obtain ⟨h1, h2, d', h3, h4⟩ := Hst.out.made i b hi
        refine ⟨by have := h4.lt; omega, fun e => ?_⟩
        subst e
        have h5 := Hst.out.rows
        unfold Holds at h4 h5
        rw [h4] at h5
        have h6 : 4 = 36 := (Obj.cells.inj (Option.some.inj h5)).2.1
        exact absurd h6 (by decide)
      have hdt : DmT W ps ga gr k all bs wr.heap.size row (w3.setCell ⟨gr, k, none⟩ (rowV ps.length wr.heap.size)) := hst3.start Hk.out.2 hhr (by have := Hst.out.below.size; omega) (by have := Hg.out; omega) ⟨hne.2, hne.1⟩ (by have := Hg.out; omega) hbn
      have hml : MidL all row row 0 := ⟨rfl, fun j hj => by omega, fun j _ => rfl⟩
      unfold rowV at hdt
      have hrl := hrow.1
      have H3 := Lib.hid (And.intro hrow (And.intro hdt (And.intro hml hrl))); clear hrow hhr hb3 hst3 hne hbn hdt hml hrl Hst
      go_wp2_with fail
      clear cr fr
      generalize w3.setCell ⟨gr, k, none⟩ (.slice (some ⟨wr.heap.size, 0, none⟩) ps.length ps.length) = w4 at *
      generalize wr.heap.size = gn at *
      go_loopw [29] (fun s U => ∃ (j : Nat) (d : List Bool), s = .int .i64 j ∧ j ≤ ps.length ∧ MidL all row d j ∧ DmT W ps ga gr k all bs gn d U) (fun s _ => ps.length - (intOf s).toNat)
      case atStart => exact ⟨0, row, rfl, Nat.zero_le _, H3.out.2.2.1, H3.out.2.1⟩
      case round =>
        obtain ⟨j, d, rfl, hjl, hmid, hdt⟩ := hrel
        by_cases hj : j < ps.length
        · have hdl : j < d.length := by rw [hmid.1, H3.out.2.2.2]; exact hj
          have hdj := hmid.2.2 j (Nat.le_refl _)
          have c1 := hdt.row.cell (i := j) (v := .bool (isAt d j)) (by rw [cellsB, List.getElem?_map, isAt_get hdl]; rfl)
          have f1 := hdt.row.free j
          have c2 := hdt.rows.cell (i := k) (v := .slice (some ⟨gn, 0, none⟩) ps.length ps.length) (by rw [List.getElem?_append_left (by simp [hdt.len]), List.getElem?_map, List.getElem?_append_right (by simp [hdt.len]), hdt.len, Nat.sub_self]; rfl)
          have hal : j < all.length := by rw [Hall.out.1]; exact hj
          have c3 := hdt.all.cell (i := j) (v := .bool (isAt all j)) (by rw [cellsB, List.getElem?_map, isAt_get hal]; rfl)
          have hji : (0 : Int) ≤ (j : Int) ∧ (j : Int) < ps.length := by omega
          have hjj : IntKind.i64.wrap ((j : Int) + 1) = (j : Int) + 1 := by rw [IntKind.wrap_i64]; have := Hn.out; omega
          have hnext := hmid.next (by rw [H3.out.2.2.2]; exact hj)
          have hput := hdt.put j (isAt all j && !isAt row j)
          rw [hdj] at c1
          have HP := Lib.hid (And.intro hnext (And.intro hput.drew hj)); clear hnext hput hj hmid hdt hdj hjl hdl hal
          generalize isAt all j = aj at *
          generalize isAt row j = rj at *
          cases aj <;> cases rj <;>
          · simp only [Bool.false_and, Bool.true_and, Bool.not_true, Bool.not_false] at HP
            go_wp2_with fail
            go_region
            go_wp2_with fail
            go_roundw
            case rel => exact ⟨j + 1, _, rfl, by have := HP.out.2.2; omega, HP.out.1, HP.out.2.1⟩
            case measure => simp [intOf]; have := HP.out.2.2; omega
        · have hje : j = ps.length := by omega
          subst hje
          have HP := Lib.hid (hdt.done (hmid.dom Hall.out H3.out.1)); clear hmid hdt hjl hj
          go_wp2_with fail
          go_roundw
          case rel => exact ⟨k + 1, bs ++ [gn], rfl, by have := Hk.out; omega, HP.out⟩
          case measure => simp [intOf]; have := Hk.out; omega
    · have hke : k = ps.length := by omega
      subst hke
      have HF := Lib.hid hst; clear hst hk hlt
      go_wp2_with fail
      go_ret
      exact ⟨gr, ga, all, bs, rfl, by have := Hg.out; omega, HF.out⟩

set_option maxRecDepth 100000 in
theorem doms_any (a : Option Addr) (cap : Nat) (c : List In) (hn : c.length ≤ 1024) (hi : ∀ i ∈ c, I64 i.imm) (w : World) (hF : FormsAt w) (hr : RowsIn w a 5 In.cells c) :
    Calls Tryd.prog 11 #[.slice a c.length cap] w fun e w' => ∃ w0 gr ga all bs, e = .returned (.tuple #[.slice (some ⟨gr, 0, none⟩) (partsP c).length (partsP c).length, .int .i64 0]) ∧ w.heap.size ≤ w0.heap.size ∧ DmS w0 (partsP c) ga gr (partsP c).length all bs w' ∧ Below w.heap.size w w' := by
  have HP := Lib.hid (parts_any a cap c hn hi w hF hr)
  have Hn := Lib.hid hn; clear hn hi hF hr
  go_enter Tryd.func11, Tryd.ntmps11
  go_wp2_with fail
  refine HP.out.mono ?_
  rintro e w2 ⟨v, rfl, h1, h2⟩
  have HR := Lib.hid (dominates_any (partsP c) w.heap.size v w2 h1 (parts_nxok c) (parts_nx2 c) (by rw [parts_len]; exact Nat.le_trans (begs_le c) Hn.out))
  have H2 := Lib.hid h2; clear h1 h2 HP
  go_wp2_with fail
  refine HR.out.mono ?_
  rintro e w3 ⟨gr, ga, all, bs, rfl, hg, hd⟩
  have HD := Lib.hid hd; clear hd hg
  go_wp2
  exact bodyPost_ret (v := .tuple #[.slice (some ⟨gr, 0, none⟩) (partsP c).length (partsP c).length, .int .i64 0]) (by simp [results, Tryd.results11, go_sem]) rfl ⟨w2, gr, ga, all, bs, rfl, H2.out.size, HD.out, H2.out.trans (HD.out.below.mono H2.out.size)⟩

end Go.Proofs.YtehnailokgoekaaDoor
