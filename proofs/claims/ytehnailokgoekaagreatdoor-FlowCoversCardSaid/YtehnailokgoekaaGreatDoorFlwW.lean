/- FlowCovers: the walk. Conditions: those stated in each theorem. -/
import Derived.Test.YtehnailokgoekaaGreatDoorFlwK
import Derived.Deep.QuietTactic
namespace Go.Proofs.YtehnailokgoekaaGreatDoor
open Go.RowKit Go.BigFrame Go.Shelf

/-- Where the parts ahead of one end. -/
def atP (ps : List Pt) (i : Nat) : Nat := match i with | 0 => 0 | i + 1 => match ps[i]? with | none => 0 | some x => x.hi
theorem atP_next {ps : List Pt} {i : Nat} {x : Pt} (h : ps[i]? = some x) : atP ps (i + 1) = x.hi := by simp [atP, h]
theorem parts_is {c : List In} {k : Nat} {p : Pt} (h : (partsP c)[k]? = some p) : (spansP c.length (begsP c))[k]? = some (p.lo, p.hi) ∧ p.nx = nextP c p.hi := by
  unfold partsP at h
  rw [List.getElem?_map, Option.map_eq_some_iff] at h
  obtain ⟨x, hx, rfl⟩ := h
  exact ⟨hx, rfl⟩
theorem part_at {c : List In} {i : Nat} {x : Pt} (h : (partsP c)[i]? = some x) : x.lo = atP (partsP c) i ∧ x.lo < x.hi := by
  have hs := (parts_is h).1
  have hl := spans_lt c.length (begsP c) (begs_sorted c) (fun _ => begs_lt) _ (List.mem_of_getElem? hs)
  refine ⟨?_, hl.1⟩
  cases i with
  | zero =>
    have hc : 0 < c.length := by
      have := (List.getElem?_eq_some_iff.1 h).1
      rw [parts_len] at this
      have := begs_le c
      omega
    obtain ⟨r, hr⟩ := begs_zero hc
    rw [hr] at hs
    cases r with
    | nil => simp [spansP] at hs; show x.lo = 0; exact hs.1.symm
    | cons b r => simp [spansP] at hs; show x.lo = 0; exact hs.1.symm
  | succ i =>
    have hi := (List.getElem?_eq_some_iff.1 h).1
    obtain ⟨y, hy⟩ : ∃ y, (partsP c)[i]? = some y := ⟨_, List.getElem?_eq_getElem (by omega)⟩
    rw [atP_next hy]
    exact (spans_chain c.length (begsP c) i _ _ (parts_is hy).1 hs).symm
theorem atP_end (c : List In) : atP (partsP c) (partsP c).length = c.length := by
  cases hn : (partsP c).length with
  | zero =>
    show 0 = c.length
    rcases Nat.eq_zero_or_pos c.length with h | h
    · exact h.symm
    · have := begs_pos h; rw [parts_len] at hn; omega
  | succ n =>
    obtain ⟨y, hy⟩ : ∃ y, (partsP c)[n]? = some y := ⟨_, List.getElem?_eq_getElem (by omega)⟩
    rw [atP_next hy]
    have hs := (parts_is hy).1
    rw [parts_len] at hn
    exact spans_end c.length (begsP c) (y.lo, y.hi) (by rw [hn]; exact hs)
/-- Who comes behind one that is reached, of those ahead. -/
def bhP (ps : List Pt) (l : List Bool) (i n : Nat) : Bool := (List.range i).any fun j => isAt l j && (nxOf ps j).contains n
theorem bhP_succ (ps : List Pt) (l : List Bool) (i n : Nat) : bhP ps l (i + 1) n = (bhP ps l i n || (isAt l i && (nxOf ps i).contains n)) := by
  simp [bhP, List.range_succ]
theorem bh_all {ps : List Pt} {l : List Bool} (h : IsRch ps (-1) l) (hk : NxOk ps) {i : Nat} (hi : i < ps.length) : isAt l i = (i == 0 || bhP ps l ps.length i) := by
  rw [Bool.eq_iff_iff, h.2 i, Bool.or_eq_true, beq_iff_eq]
  constructor
  · intro hr
    cases hr with
    | zero _ _ => exact .inl rfl
    | @step n _ hn hm hw =>
      refine .inr ?_
      unfold bhP
      rw [List.any_eq_true]
      exact ⟨n, List.mem_range.2 (nxOf_lt hm), by simp [(h.2 n).2 hn, hm]⟩
  · rintro (rfl | hb)
    · exact .zero hi (by decide)
    · unfold bhP at hb
      rw [List.any_eq_true] at hb
      obtain ⟨j, _, hj⟩ := hb
      simp only [Bool.and_eq_true, List.contains_iff_mem] at hj
      exact .step ((h.2 j).1 hj.1) hj.2 (by omega)
theorem rch_behind {ps : List Pt} {l : List Bool} (h : IsRch ps (-1) l) {i m : Nat} (hi : isAt l i = true) (hm : m ∈ nxOf ps i) : isAt l m = true := (h.2 m).2 (.step ((h.2 i).1 hi) hm (by omega))

/-- The row 'behind', between two rounds. -/
def BhAt (W : World) (gb n : Nat) (f : Nat → Bool) : Prop := ∃ bl : List Bool, Holds W gb 4 (cellsB bl) ∧ bl.length = n ∧ ∀ j, j < n → isAt bl j = f j
theorem BhAt.congr {W : World} {gb n : Nat} {f g : Nat → Bool} (h : BhAt W gb n f) (e : ∀ j, j < n → f j = g j) : BhAt W gb n g := by
  obtain ⟨bl, h1, h2, h3⟩ := h
  exact ⟨bl, h1, h2, fun j hj => (h3 j hj).trans (e j hj)⟩
theorem BhAt.cell {W : World} {gb n : Nat} {f : Nat → Bool} (h : BhAt W gb n f) {m : Nat} (hm : m < n) : W.cell? ⟨gb, m, none⟩ = some (.bool (f m)) ∧ W.frozen? ⟨gb, m, none⟩ = false := by
  obtain ⟨bl, h1, h2, h3⟩ := h
  exact ⟨h1.cell (by rw [cellsB, List.getElem?_map, isAt_get (by omega), h3 m hm]; rfl), h1.free m⟩
theorem isAt_put {l : List Bool} {n : Nat} (h : n < l.length) (b : Bool) (k : Nat) : isAt (l.set n b) k = if k = n then b else isAt l k := by
  unfold isAt
  rw [List.getElem?_set]
  by_cases e : n = k
  · subst e; simp [h]
  · have : ¬ k = n := fun h => e h.symm
    simp [e, this]
theorem BhAt.put {W : World} {gb n : Nat} {f : Nat → Bool} (h : BhAt W gb n f) {m : Nat} (hm : m < n) (b : Bool) : BhAt (W.setCell ⟨gb, m, none⟩ (.bool b)) gb n (fun j => if j = m then b else f j) := by
  obtain ⟨bl, h1, h2, h3⟩ := h
  refine ⟨bl.set m b, ?_, by rw [List.length_set]; exact h2, fun j hj => ?_⟩
  · have := h1.set m (.bool b)
    have e : (cellsB bl).set m (.bool b) = cellsB (bl.set m b) := by simp [cellsB]
    rwa [e] at this
  · show isAt (bl.set m b) j = (if j = m then b else f j)
    rw [isAt_put (by omega)]
    by_cases e : j = m
    · rw [if_pos e, if_pos e]
    · rw [if_neg e, if_neg e]; exact h3 j hj

set_option maxRecDepth 100000 in
set_option maxHeartbeats 2000000 in
theorem flowcovers_any (a : Option Addr) (cap : Nat) (c : List In) (hi : ∀ i ∈ c, I64 i.imm) (w : World) (h : Std w) (hr : RowsIn w a 5 In.cells c) :
    Calls Tryz.prog 6 #[.slice a c.length cap] w fun e w' => e = .returned (.bool true) ∧ Below w.heap.size w w' := by
  have HA := Lib.hid (alive_flow h)
  have H := Lib.hid (And.intro h hr); clear h hr
  have Hi := Lib.hid hi; clear hi
  obtain ⟨i1, hj0, hj1, hj2, hj3⟩ := flw_info Tryz.infoBoolF
  have Hj := Lib.hid (And.intro hj0 (And.intro hj1 (And.intro hj2 hj3))); clear hj0 hj1 hj2 hj3
  go_enter Tryz.func6, Tryz.ntmps6
  go_wp2_with fail
  refine HA.out.mono ?_
  rintro e w1 ⟨rfl, hb1⟩
  have H1 := Lib.hid hb1; clear hb1 HA
  by_cases hbig : 200 < c.length
  · have d1 : decide (200 < (c.length : Int)) = true := decide_eq_true (by omega)
    clear hbig
    go_wp2_with fail
    go_ret
    exact ⟨rfl, H1.out⟩
  have d1 : decide (200 < (c.length : Int)) = false := decide_eq_false (by omega)
  have hn : c.length ≤ 1024 := by omega
  have HP := Lib.hid (parts_any a cap c hn Hi.out w1 (H.out.1.forms.below H1.out) (H.out.2.below H1.out))
  have Hn := Lib.hid hn; clear hbig hn
  go_wp2_with fail
  refine HP.out.mono ?_
  rintro e w2 ⟨v, rfl, hparts, hb2⟩
  have hb2' := H1.out.trans (hb2.mono H1.out.size)
  have HR := Lib.hid (reach_any a cap c Hn.out Hi.out w2 (H.out.1.forms.below hb2') (H.out.2.below hb2'))
  have H2 := Lib.hid (And.intro hb2' hparts); clear hb2 hb2' hparts HP
  go_wp2_with fail
  refine HR.out.mono ?_
  rintro e w3 ⟨gi, l, rfl, -, hl, hgi, hb3⟩
  have hb3' := H2.out.1.trans (hb3.mono H2.out.1.size)
  have hp3 := H2.out.2.below hb3
  obtain ⟨ad, vc, rfl, hs⟩ := hp3.form
  have hpl : (partsP c).length ≤ 1024 := by rw [parts_len]; exact Nat.le_trans (begs_le c) Hn.out
  have H3 := Lib.hid (And.intro hb3' (And.intro hp3 (And.intro hgi (And.intro hl hpl)))); clear hb3 hb3' hp3 hgi hl hpl HR
  have Hs := Lib.hid hs; clear hs
  go_upto_region 10 with (at_make; refine wpList_make_full _ rfl _ _ 22 rfl w3.heap.size 4 i1 _ 1 Tryz.underlying22 Hj.out.1 Hj.out.2.1 Hj.out.2.2.1 .i64 .i64 (partsP c).length (partsP c).length (partsP c).length rfl rfl rfl rfl (by rw [Hj.out.2.2.2]; have := H3.out.2.2.2.2; omega) (by unfold maxLen; have := H3.out.2.2.2.2; omega) (Nat.le_refl _) ?_; intro w4 ho4 hg4; have Ho4 := Lib.hid (owns_full ho4); have Hb4 := Lib.hid ((Below.refl w3.heap.size w3).grown hg4 (Nat.le_refl _) (fun g e => by cases e)); clear ho4 hg4)
  rw [made_bool] at Ho4
  have hbh : BhAt w4 w3.heap.size (partsP c).length (bhP (partsP c) l 0) := ⟨List.replicate (partsP c).length false, by
    have : cellsB (List.replicate (partsP c).length false) = List.replicate (partsP c).length (Value.bool false) := by simp [cellsB]
    rw [this]; exact Ho4.out, by simp, fun j _ => by rw [isAt_rep]; simp [bhP]⟩
  have HB := Lib.hid (And.intro hbh Hb4.out); clear hbh Hb4 Ho4 Hj
  obtain ⟨gb, hgb⟩ : ∃ gb, w3.heap.size = gb := ⟨_, rfl⟩
  rw [hgb] at HB
  simp only [hgb]
  have Hgb := Lib.hid hgb; clear hgb
  generalize hps : partsP c = ps at *
  have Hps := Lib.hid hps; clear hps
  go_wp2_with fail
  go_loopw [8, 10] (fun s8 s10 V => ∃ i : Nat, s8 = .int .i64 (atP ps i : Nat) ∧ s10 = .int .i64 i ∧ i ≤ ps.length ∧ BhAt V gb ps.length (bhP ps l i) ∧ Below gb w3 V) (fun _ s10 _ => ps.length - (intOf s10).toNat)
  case atStart => exact ⟨0, rfl, rfl, Nat.zero_le _, HB.out⟩
  case round =>
    obtain ⟨i, rfl, rfl, hil, hbh, hbV⟩ := hrel
    have hbV' : Below w3.heap.size w3 wr := by rw [Hgb.out]; exact hbV
    have hpV := H3.out.2.1.below hbV'
    have hgV := H3.out.2.2.1.below hbV'
    by_cases hlt : i < ps.length
    · obtain ⟨x, hx⟩ : ∃ x, ps[i]? = some x := ⟨_, List.getElem?_eq_getElem hlt⟩
      obtain ⟨g, rfl⟩ := Hs.out (by omega)
      obtain ⟨c0, c1, nb, nm, c2, hnx⟩ := hpV.part hx
      have hat := part_at (c := c) (i := i) (x := x) (by rw [Hps.out]; exact hx)
      rw [Hps.out] at hat
      rw [← hat.1]
      have d2 : decide (x.hi ≤ x.lo) = false := decide_eq_false (by omega)
      have hnx2 : x.nx.length ≤ 2 := parts_nx2 c x (by rw [Hps.out]; exact List.mem_of_getElem? hx)
      have hii : (0 : Int) ≤ (i : Int) ∧ (i : Int) < ps.length := by omega
      have hkk : IntKind.i64.wrap ((i : Int) + 1) = (i : Int) + 1 := by rw [IntKind.wrap_i64]; have := H3.out.2.2.2.2; omega
      have Hx := Lib.hid (And.intro hx (And.intro hat (And.intro hnx2 hlt))); clear hat hnx2 hx
      have Hbh := Lib.hid hbh; clear hbh
      have HbV := Lib.hid hbV; clear hbV hbV' hpV hgV hnx
      go_wp2_with fail
      clear c0 c1 c2 d2
      go_loopw [11] (fun s11 U => ∃ k : Nat, s11 = .int .i64 k ∧ k ≤ x.nx.length ∧ BhAt U gb ps.length (fun m => bhP ps l i m || (isAt l i && (x.nx.take k).contains m)) ∧ Below gb w3 U) (fun s11 _ => x.nx.length - (intOf s11).toNat)
      case atStart => exact ⟨0, rfl, Nat.zero_le _, Hbh.out.congr (fun j _ => by simp), HbV.out⟩
      case round =>
        obtain ⟨k, rfl, hkl, hbu, hbU⟩ := hrel
        have hbU' : Below w3.heap.size w3 wr := by rw [Hgb.out]; exact hbU
        have hpU := H3.out.2.1.below hbU'
        have hgU := H3.out.2.2.1.below hbU'
        obtain ⟨-, -, nb2, nm2, c2, hnx⟩ := hpU.part Hx.out.1
        by_cases hk : k < x.nx.length
        · obtain ⟨m, hm⟩ : ∃ m, x.nx[k]? = some m := ⟨_, List.getElem?_eq_getElem hk⟩
          obtain ⟨q, rfl, -, hcs⟩ := hnx (by omega)
          have hcm := hcs k m hm
          have hmx : m ∈ nxOf ps i := by rw [nxOf_some Hx.out.1]; exact List.mem_of_getElem? hm
          have hml : m < ps.length := by have := parts_nxok c i m (by rw [Hps.out]; exact hmx); rwa [Hps.out] at this
          have hll := H3.out.2.2.2.1.1
          have ci := hgU.cell (i := i) (v := .bool (isAt l i)) (by rw [cellsB, List.getElem?_map, isAt_get (by have := Hx.out.2.2.2; omega)]; rfl)
          have cm := hgU.cell (i := m) (v := .bool (isAt l m)) (by rw [cellsB, List.getElem?_map, isAt_get (by omega)]; rfl)
          obtain ⟨cb, fb⟩ := hbu.cell hml
          have hki : (0 : Int) ≤ (k : Int) ∧ (k : Int) < x.nx.length := by omega
          have hmi : (0 : Int) ≤ (m : Int) ∧ (m : Int) < ps.length := by omega
          have hkk2 : IntKind.i64.wrap ((k : Int) + 1) = (k : Int) + 1 := by rw [IntKind.wrap_i64]; have := Hx.out.2.2.1; omega
          have d3 : decide (ps.length ≤ m) = false := decide_eq_false (by omega)
          have hput := fun b => hbu.put hml b
          have htk : x.nx.take (k + 1) = x.nx.take k ++ [m] := by rw [List.take_add_one, hm]; rfl
          have hb2 := fun b => Lib.hid (hbU.setCell (p := ⟨gb, m, none⟩) (Nat.le_refl _) (.bool b))
          have Hput := Lib.hid (And.intro hput (And.intro htk hb2)); clear hput htk hb2
          have Hbu := Lib.hid hbu; clear hbu
          clear hm hcs hnx hbU hbU' hpU hgU hll
          have hrb := fun h => rch_behind H3.out.2.2.2.1 (i := i) h hmx
          clear hmx
          generalize hfm : (bhP ps l i m || (isAt l i && (x.nx.take k).contains m)) = fm at *
          cases hri : isAt l i with
          | true =>
            rw [hrb hri] at cm
            rw [hri] at ci hfm
            have Hri := Lib.hid (And.intro hri hfm); clear hri hfm hrb
            cases fm with
            | true =>
              go_wp2_with fail
              go_roundw
              case rel => exact ⟨k + 1, rfl, by omega, (Hput.out.1 true).congr (fun j _ => by
                rw [Hput.out.2.1, Hri.out.1]
                by_cases e : j = m
                · subst e; simp
                · simp [e]), (Hput.out.2.2 true).out⟩
              case measure => simp [intOf]; omega
            | false =>
              go_wp2_with fail
              go_roundw
              case rel => exact ⟨k + 1, rfl, by omega, (Hput.out.1 true).congr (fun j _ => by
                rw [Hput.out.2.1, Hri.out.1]
                by_cases e : j = m
                · subst e; simp
                · simp [e]), (Hput.out.2.2 true).out⟩
              case measure => simp [intOf]; omega
          | false =>
            rw [hri] at ci hfm
            have Hri := Lib.hid (And.intro hri hfm); clear hri hfm hrb cm
            cases fm with
            | true =>
              go_wp2_with fail
              go_roundw
              case rel => exact ⟨k + 1, rfl, by omega, (Hput.out.1 true).congr (fun j _ => by
                have h2 := Hri.out.2
                rw [Hri.out.1]
                by_cases e : j = m
                · subst e; simp at h2 ⊢; exact h2
                · simp [e]), (Hput.out.2.2 true).out⟩
              case measure => simp [intOf]; omega
            | false =>
              go_wp2_with fail
              go_roundw
              case rel => exact ⟨k + 1, rfl, by omega, (Hput.out.1 false).congr (fun j _ => by
                have h2 := Hri.out.2
                rw [Hri.out.1]
                by_cases e : j = m
                · subst e; simp at h2 ⊢; exact h2
                · simp [e]), (Hput.out.2.2 false).out⟩
              case measure => simp [intOf]; omega
        · have hke : k = x.nx.length := by omega
          subst hke
          have Hbu := Lib.hid (And.intro hbu hbU); clear hbu hbU hbU' hpU hgU hnx hk hkl
          go_wp2_with fail
          go_roundw
          case rel => exact ⟨i + 1, by rw [atP_next Hx.out.1], rfl, by omega, Hbu.out.1.congr (fun j _ => by
            rw [bhP_succ, nxOf_some Hx.out.1, List.take_of_length_le (Nat.le_refl _)]), Hbu.out.2⟩
          case measure => simp [intOf]; omega
    · have hie : i = ps.length := by omega
      subst hie
      have hend := atP_end c
      rw [Hps.out] at hend
      rw [hend]
      have HU := Lib.hid (And.intro hbh (And.intro hbV hgV)); clear hbh hbV hbV' hpV hgV hil hlt hend
      go_wp2_with fail
      go_loopw [13] (fun s13 V => ∃ i : Nat, s13 = .int .i64 i ∧ i ≤ ps.length ∧ ∃ nq, V = wr.drewN nq) (fun s13 _ => ps.length - (intOf s13).toNat)
      case atStart => exact ⟨0, rfl, Nat.zero_le _, 0, rfl⟩
      case round =>
        obtain ⟨i, rfl, hil, nq0, rfl⟩ := hrel
        by_cases hlt : i < ps.length
        · have hall := bh_all H3.out.2.2.2.1 (by have := parts_nxok c; rwa [Hps.out] at this) hlt
          have ci := HU.out.2.2.cell (i := i) (v := .bool (isAt l i)) (by rw [cellsB, List.getElem?_map, isAt_get (by have := H3.out.2.2.2.1.1; omega)]; rfl)
          obtain ⟨cb, _⟩ := HU.out.1.cell hlt
          have hii : (0 : Int) ≤ (i : Int) ∧ (i : Int) < ps.length := by omega
          have hkk : IntKind.i64.wrap ((i : Int) + 1) = (i : Int) + 1 := by rw [IntKind.wrap_i64]; have := H3.out.2.2.2.2; omega
          rw [hall] at ci
          clear hall
          have Hl := Lib.hid (And.intro hil hlt); clear hil hlt
          generalize bhP ps l ps.length i = bi at *
          by_cases h0 : i = 0
          · have e0 : ((i : Int) == 0) = true := by rw [h0]; rfl
            have e1 : (i == 0) = true := by simp [h0]
            rw [e1, Bool.true_or] at ci
            clear h0 e1 cb
            go_wp2_with fail
            go_quiet (fail)
            go_wp2_with fail
            go_roundw
            case rel => exact ⟨i + 1, rfl, by have := Hl.out; omega, _, rfl⟩
            case measure => simp [intOf]; have := Hl.out; omega
          · have e0 : ((i : Int) == 0) = false := by rw [beq_eq_false_iff_ne]; omega
            have e1 : (i == 0) = false := by simp [h0]
            rw [e1, Bool.false_or] at ci
            clear h0 e1
            cases bi <;>
            · go_wp2_with fail
              go_quiet (fail)
              go_wp2_with fail
              go_roundw
              case rel => exact ⟨i + 1, rfl, by have := Hl.out; omega, _, rfl⟩
              case measure => simp [intOf]; have := Hl.out; omega
        · have hle : i = ps.length := by omega
          subst hle
          clear hil hlt
          go_wp2_with fail
          go_ret
          exact ⟨by simp, below_drewN (H3.out.1.trans ((by rw [Hgb.out]; exact HU.out.2.1 : Below w3.heap.size w3 wr).mono H3.out.1.size)) _⟩

end Go.Proofs.YtehnailokgoekaaGreatDoor
