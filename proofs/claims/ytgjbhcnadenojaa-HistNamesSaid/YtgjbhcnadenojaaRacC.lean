/- hist: Tally. Conditions: those stated in each theorem. -/
import Derived.Test.YtgjbhcnadenojaaRacB
import Derived.Test.YtgjbhcnadenojaaHisZ
namespace Go.Proofs.Ytgjbhcnadenojaa
open Go.RowKit Go.BigFrame Go.Maps

/-- One attempt more in the tally. -/
def tallyK (co : Int) (t : List Int × List Int) (x : Kn) : List Int × List Int :=
  if x.co = co then if x.to_ = -1 then t else if x.com then (t.1.modify x.la.toNat (· + 1), t.2) else (t.1, t.2.modify x.cd.toNat (· + 1)) else t
def tallyZ : List Int × List Int := ([0, 0, 0, 0, 0], [0, 0, 0, 0, 0, 0, 0, 0, 0])
/-- What Tally answers. -/
def tallyP (h : List Ev) (co : Int) : (List Int × List Int) × Int := match readH h with
  | none => (tallyZ, 120)
  | some s => (s.ks.foldl (tallyK co) tallyZ, 0)

/-- A tally's cells. -/
def tallyC (t : List Int × List Int) : List Value := t.1.map (.int .i64) ++ t.2.map (.int .i64) ++ [.int .i64 0]
theorem Try.sizeTally : (Try.prog.info? 32).map (·.size) = some 15 := by kernel_rfl
theorem tally_load {w : World} {b : Nat} {t : List Int × List Int} (h : Holds w b 32 (tallyC t)) (h1 : t.1.length = 5) (h2 : t.2.length = 9) : (loadVar 32 ⟨b, 0, none⟩).run Try.prog w = .ok (.agg (tallyC t).toArray) w :=
  run_loadVar_mid w b 0 32 _ _ (h.range (fun i v hi => by rw [Nat.zero_add]; exact hi)) Try.underlying32 rfl (by rw [Try.sizeTally]; simp [tallyC, h1, h2])
theorem box_below {w w' : World} {b m : Nat} {o : Obj} (hb : w.heap[b]? = some o) (h : Below m w w') (hm : b < m) : w'.heap[b]? = some o := (h.block b hm).trans hb
/-- What stands in a tally, of so many attempts. -/
structure TalOk (t : List Int × List Int) (k : Nat) : Prop where
  a : t.1.length = 5
  b : t.2.length = 9
  f : ∀ x ∈ t.1 ++ t.2, 0 ≤ x ∧ x ≤ k
theorem tallyC_a {t : List Int × List Int} {k i : Nat} {v : Int} (h : TalOk t k) (hv : t.1[i]? = some v) : (tallyC t)[i]? = some (.int .i64 v) := by
  have hi := (List.getElem?_eq_some_iff.1 hv).1
  unfold tallyC
  rw [List.append_assoc, List.getElem?_append_left (by simpa using hi)]
  simp [hv]
theorem tallyC_b {t : List Int × List Int} {k i : Nat} {v : Int} (h : TalOk t k) (hv : t.2[i]? = some v) : (tallyC t)[5 + i]? = some (.int .i64 v) := by
  have hi := (List.getElem?_eq_some_iff.1 hv).1
  unfold tallyC
  rw [List.append_assoc, List.getElem?_append_right (by simp [h.a]), List.getElem?_append_left (by simp [h.a]; omega)]
  simp [h.a, hv]
theorem modify_set {l : List Int} {i : Nat} {v : Int} (hv : l[i]? = some v) : l.modify i (· + 1) = l.set i (v + 1) := by
  refine List.ext_getElem? (fun j => ?_)
  rw [List.getElem?_modify, List.getElem?_set]
  by_cases h : i = j
  · subst h; obtain ⟨h1, h2⟩ := List.getElem?_eq_some_iff.1 hv; simp [h1, h2]
  · simp [h]
theorem tallyC_set1 {t : List Int × List Int} {k i : Nat} {v : Int} (h : TalOk t k) (hv : t.1[i]? = some v) : (tallyC t).set i (.int .i64 (v + 1)) = tallyC (t.1.modify i (· + 1), t.2) := by
  have hi := (List.getElem?_eq_some_iff.1 hv).1
  unfold tallyC
  rw [List.append_assoc, List.set_append_left _ _ (by simpa using hi), modify_set hv, List.map_set, List.append_assoc]
theorem tallyC_set2 {t : List Int × List Int} {k i : Nat} {v : Int} (h : TalOk t k) (hv : t.2[i]? = some v) : (tallyC t).set (5 + i) (.int .i64 (v + 1)) = tallyC (t.1, t.2.modify i (· + 1)) := by
  have hi := (List.getElem?_eq_some_iff.1 hv).1
  unfold tallyC
  rw [List.append_assoc, List.set_append_right _ _ (by simp [h.a]), List.set_append_left _ _ (by simp [h.a]; omega), modify_set hv, List.map_set, List.append_assoc]
  simp [h.a]
theorem TalOk.more {t : List Int × List Int} {k : Nat} (h : TalOk t k) : TalOk t (k + 1) := ⟨h.a, h.b, fun x hx => by have := h.f x hx; omega⟩
theorem TalOk.bump1 {t : List Int × List Int} {k i : Nat} {v : Int} (h : TalOk t k) (hv : t.1[i]? = some v) : TalOk (t.1.modify i (· + 1), t.2) (k + 1) := by
  refine ⟨by simp [h.a], h.b, fun x hx => ?_⟩
  rw [modify_set hv] at hx
  have h0 := h.f v (List.mem_append.2 (.inl (List.mem_of_getElem? hv)))
  rcases List.mem_append.1 hx with hx | hx
  · rcases List.mem_or_eq_of_mem_set hx with hx | hx
    · have := h.f x (List.mem_append.2 (.inl hx)); omega
    · omega
  · have := h.f x (List.mem_append.2 (.inr hx)); omega
theorem TalOk.bump2 {t : List Int × List Int} {k i : Nat} {v : Int} (h : TalOk t k) (hv : t.2[i]? = some v) : TalOk (t.1, t.2.modify i (· + 1)) (k + 1) := by
  refine ⟨h.a, by simp [h.b], fun x hx => ?_⟩
  rw [modify_set hv] at hx
  have h0 := h.f v (List.mem_append.2 (.inr (List.mem_of_getElem? hv)))
  rcases List.mem_append.1 hx with hx | hx
  · have := h.f x (List.mem_append.2 (.inl hx)); omega
  · rcases List.mem_or_eq_of_mem_set hx with hx | hx
    · have := h.f x (List.mem_append.2 (.inr hx)); omega
    · omega
theorem tally_one (t : List Int × List Int) : (tallyC t).toArray.all (·.oneCell') = true := all_oneCell_toArray (fun v hv => by
  unfold tallyC at hv
  rcases List.mem_append.1 hv with hv | hv
  · rcases List.mem_append.1 hv with hv | hv
    · obtain ⟨x, -, rfl⟩ := List.mem_map.1 hv; rfl
    · obtain ⟨x, -, rfl⟩ := List.mem_map.1 hv; rfl
  · rw [List.mem_singleton.1 hv]; rfl)
theorem tally_len {t : List Int × List Int} {k : Nat} (h : TalOk t k) : (tallyC t).length = 15 := by simp [tallyC, h.a, h.b]
theorem tally_there {w : World} {b k : Nat} {t : List Int × List Int} (h : w.there b 0 15) (ht : TalOk t k) : w.there b 0 (tallyC t).toArray.size := by
  rw [List.size_toArray, tally_len ht]; exact h
theorem splice_all {L vs : List Value} (h : vs.length = L.length) : splice L 0 vs = vs := by
  have : ∀ (r p q : List Value), q.length = r.length → splice (p ++ q) p.length r = p ++ r := by
    intro r
    induction r with
    | nil => intro p q hq; rw [List.length_eq_zero_iff.1 hq]; rfl
    | cons v r ih =>
      intro p q hq
      cases q with
      | nil => simp at hq
      | cons y q =>
        have h2 := ih (p ++ [v]) q (by simpa using hq)
        simp only [List.append_assoc, List.cons_append, List.nil_append, List.length_append, List.length_cons, List.length_nil] at h2
        simp only [splice]
        rw [List.set_append_right _ _ (Nat.le_refl _), Nat.sub_self, List.set_cons_zero]
        exact h2
  exact this vs [] L h.symm
theorem tally_sets {w : World} {b k : Nat} {t : List Int × List Int} (h : Holds w b 32 (tallyC tallyZ)) (ht : TalOk t k) : Holds (w.setCells b 0 (tallyC t)) b 32 (tallyC t) := by
  have := h.sets (tallyC t) 0
  rwa [splice_all (by rw [tally_len ht]; rfl)] at this
set_option maxRecDepth 100000 in
set_option maxHeartbeats 4000000 in
theorem tally_any {a : Option Addr} {cap : Nat} {h : List Ev} (w : World) (hr : RowsIn w a 9 Ev.cells h) (hl : h.length ≤ 900) (hf : ∀ e ∈ h, e.fit) (co : Int) :
    Calls Try.prog 10 #[.slice a h.length cap, .int .i64 co] w fun z w' => z = .returned (.tuple #[.agg (tallyC (tallyP h co).1).toArray, .int .i64 (tallyP h co).2]) ∧ Below w.heap.size w w' := by
  have Hr := Lib.hid hr; clear hr
  have Hf := Lib.hid hf; clear hf
  have hB0 : Below w.heap.size w (w.alloc (.cells (tallyC tallyZ).toArray 32)) := (Below.refl _ w).alloc (Nat.le_refl _) _
  have hb0 : Holds (w.alloc (.cells (tallyC tallyZ).toArray 32)) w.heap.size 32 (tallyC tallyZ) := Holds.new _ _ _
  have hz0 : (w.alloc (.cells (tallyC tallyZ).toArray 32)).heap.size = w.heap.size + 1 := by simp
  go_enter Try.func10, Try.ntmps10
  simp only [tallyC, tallyZ, List.map_cons, List.map_nil, List.cons_append, List.nil_append] at hB0 hb0 hz0
  go_wp2_with fail
  generalize w.alloc (.cells #[.int .i64 0, .int .i64 0, .int .i64 0, .int .i64 0, .int .i64 0, .int .i64 0, .int .i64 0, .int .i64 0, .int .i64 0, .int .i64 0, .int .i64 0, .int .i64 0, .int .i64 0, .int .i64 0, .int .i64 0] 32) = Wa at *
  have HB0 := Lib.hid hB0; clear hB0
  have Hb0 := Lib.hid hb0; clear hb0
  have HZ0 := Lib.hid hz0; clear hz0
  have Hrd := Lib.hid (read_any (cap := cap) Wa (Hr.out.below HB0.out) hl Hf.out)
  refine Hrd.out.mono ?_
  rintro z w1 (⟨hn, rfl, hb⟩ | ⟨c, hrd, rfl, hev, hri, hap⟩)
  · have HB := Lib.hid hb; have HN := Lib.hid hn; clear hn hb
    have hj : tallyP h co = (tallyZ, 120) := by unfold tallyP; rw [HN.out]
    have hbx : Holds w1 w.heap.size 32 (tallyC tallyZ) := (show Holds Wa w.heap.size 32 (tallyC tallyZ) from Hb0.out).below HB.out
    have hbl := HB0.out.trans (HB.out.mono (by have := HZ0.out; omega))
    have hth := hbx.there (o := 0) (n := 15) (by decide)
    have HJ := Lib.hid hj; clear hj
    have HTH := Lib.hid hth; clear hth
    have Hbx := Lib.hid hbx; clear hbx
    have HBL := Lib.hid hbl; clear hbl
    clear HB Hb0 HB0
    have q0 := Hbx.out.cell (i := 0) rfl
    have r0 := Hbx.out.free 0
    have q1 := Hbx.out.cell (i := 1) rfl
    have r1 := Hbx.out.free 1
    have q2 := Hbx.out.cell (i := 2) rfl
    have r2 := Hbx.out.free 2
    have q3 := Hbx.out.cell (i := 3) rfl
    have r3 := Hbx.out.free 3
    have q4 := Hbx.out.cell (i := 4) rfl
    have r4 := Hbx.out.free 4
    have q5 := Hbx.out.cell (i := 5) rfl
    have r5 := Hbx.out.free 5
    have q6 := Hbx.out.cell (i := 6) rfl
    have r6 := Hbx.out.free 6
    have q7 := Hbx.out.cell (i := 7) rfl
    have r7 := Hbx.out.free 7
    have q8 := Hbx.out.cell (i := 8) rfl
    have r8 := Hbx.out.free 8
    have q9 := Hbx.out.cell (i := 9) rfl
    have r9 := Hbx.out.free 9
    have q10 := Hbx.out.cell (i := 10) rfl
    have r10 := Hbx.out.free 10
    have q11 := Hbx.out.cell (i := 11) rfl
    have r11 := Hbx.out.free 11
    have q12 := Hbx.out.cell (i := 12) rfl
    have r12 := Hbx.out.free 12
    have q13 := Hbx.out.cell (i := 13) rfl
    have r13 := Hbx.out.free 13
    have q14 := Hbx.out.cell (i := 14) rfl
    have r14 := Hbx.out.free 14
    go_wp2
    have hb2 : Holds (w1.setCells w.heap.size 0 (tallyC tallyZ)) w.heap.size 32 (tallyC tallyZ) := Hbx.out.sets (tallyC tallyZ) 0
    exact bodyPost_ret (results_ct rfl rfl (tally_load (t := tallyZ) hb2 rfl rfl) rfl) rfl ⟨by rw [HJ.out]; rfl, below_cells (Nat.le_refl _) (tallyC tallyZ) 0 _ HBL.out⟩
  · obtain ⟨ad, cp, hva, -⟩ := SC.va_any hap
    have s1 := (SC.sto hap).cell (i := 1) rfl
    rw [hva] at s1
    have hcp := (SC.sto hap).lt
    have HA := Lib.hid hap; clear hap
    have HRI := Lib.hid hri; clear hri
    have HRD := Lib.hid hrd; clear hrd
    have HVA := Lib.hid hva; clear hva
    have hcl : c.l.length ≤ 900 := by have := HRI.out.ksn; simp only [SC.rd, List.length_map] at this; omega
    clear hev Hrd
    have hw1 : w.heap.size < w1.heap.size := by have := HA.out.below.size; have := HZ0.out; omega
    have hbl := HB0.out.trans (HA.out.below.mono (by have := HZ0.out; omega))
    have hbx : Holds w1 w.heap.size 32 (tallyC tallyZ) := (show Holds Wa w.heap.size 32 (tallyC tallyZ) from Hb0.out).below HA.out.below
    have hN : Holds (w1.alloc (.cells #[.int .i64 0, .int .i64 0, .int .i64 0, .int .i64 0, .int .i64 0, .int .i64 0, .int .i64 0, .int .i64 0, .int .i64 0, .int .i64 0, .int .i64 0, .int .i64 0, .int .i64 0, .int .i64 0, .int .i64 0] 32)) w1.heap.size 32 (tallyC tallyZ) := Holds.new _ _ (tallyC tallyZ)
    have hbN : Below w1.heap.size w1 (w1.alloc (.cells #[.int .i64 0, .int .i64 0, .int .i64 0, .int .i64 0, .int .i64 0, .int .i64 0, .int .i64 0, .int .i64 0, .int .i64 0, .int .i64 0, .int .i64 0, .int .i64 0, .int .i64 0, .int .i64 0, .int .i64 0] 32)) := (Below.refl _ w1).alloc (Nat.le_refl _) _
    have Hbx := Lib.hid hbx; clear hbx
    have HN := Lib.hid hN; clear hN
    have HBN := Lib.hid hbN; clear hbN
    have Hbl := Lib.hid hbl; clear hbl
    have HT0 : Hid (TalOk tallyZ 0) := Lib.hid ⟨rfl, rfl, by decide⟩
    go_wp2
    clear HB0 Hb0 HZ0
    go_loopw [25] (fun i wr => ∃ k : Nat, k ≤ c.l.length ∧ i = .int .i64 k ∧ ∃ t, t = ((c.l.take k).map (·.k)).foldl (tallyK co) tallyZ ∧ TalOk t k ∧ Holds wr w1.heap.size 32 (tallyC t) ∧ Below w1.heap.size w1 wr) (fun i _ => c.l.length - (intOf i).toNat)
    case atStart => exact ⟨0, Nat.zero_le _, rfl, _, rfl, HT0.out, HN.out, HBN.out⟩
    case round =>
      obtain ⟨k, hk, rfl, t, hte, hto, hN, hbN⟩ := hrel
      clear HN HBN HT0
      have HN := Lib.hid hN; clear hN
      have HBN := Lib.hid hbN; clear hbN
      have HTE := Lib.hid hte; clear hte
      have HTO := Lib.hid hto; clear hto
      by_cases hlt : k < c.l.length
      · obtain ⟨x, hx⟩ : ∃ x, c.l[k]? = some x := ⟨_, List.getElem?_eq_getElem hlt⟩
        obtain ⟨g, cap', e⟩ := SC.va_form HA.out hx
        have e2 := HVA.out.symm.trans e
        simp only [Value.slice.injEq] at e2
        obtain ⟨rfl, -, rfl⟩ := e2
        have hrg := cells_range (SC.cells (HA.out.idle HBN.out) hx (by rw [HVA.out]; rfl))
        have HRG := Lib.hid hrg; clear hrg
        have hko : KnOk x.k h.length := HRI.out.ks x.k (by simp only [SC.rd, List.mem_map]; exact ⟨x, List.mem_of_getElem? hx, rfl⟩)
        have HTE2 : Hid (((c.l.take (k + 1)).map (·.k)).foldl (tallyK co) tallyZ = tallyK co t x.k) := Lib.hid (by rw [List.take_add_one, hx, HTE.out]; simp)
        have HX := Lib.hid hx; clear hx
        have hkl : (0 : Int) ≤ k ∧ (k : Int) < c.l.length := by omega
        obtain ⟨la, ln, lc, hlv⟩ : ∃ la ln lc, x.lv = .slice la ln lc := by
          rcases owns_form (SC.ldr HA.out HX.out) with ⟨h1, h2, _⟩ | ⟨g, cap, h1, _⟩
          · exact ⟨_, _, _, h1⟩
          · exact ⟨_, _, _, h1⟩
        obtain ⟨sa, sn, sc, hsv⟩ : ∃ sa sn sc, x.sv = .slice sa sn sc := by
          rcases owns_form (SC.str HA.out HX.out) with ⟨h1, h2, _⟩ | ⟨g, cap, h1, _⟩
          · exact ⟨_, _, _, h1⟩
          · exact ⟨_, _, _, h1⟩
        obtain ⟨⟨xco, xbl, xtr, xla, xfr, xpt, xto, xld, xst, xcom, xcd, xodd⟩, xlv, xlb, xsv, xsb⟩ := x
        simp only at hlv hsv
        subst hlv hsv
        simp only [KC.cells] at HRG
        have hbx5 : Holds ((wr.alloc (.cells #[.int .i64 0, .int .i64 0, .int .i64 0, .int .i64 0, .int .i64 0, .int .i64 0, .int .i64 0, .slice none 0 0, .slice none 0 0, .bool false, .int .i64 0, .map none, .map none, .bool false] 78)).setCells wr.heap.size 0 [.int .i64 xco, .int .i64 xbl, .int .i64 xtr, .int .i64 xla, .int .i64 xfr, .int .i64 xpt, .int .i64 xto, .slice la ln lc, .slice sa sn sc, .bool xcom, .int .i64 xcd, .map (some xlb), .map (some xsb), .bool xodd]) wr.heap.size 78 [.int .i64 xco, .int .i64 xbl, .int .i64 xtr, .int .i64 xla, .int .i64 xfr, .int .i64 xpt, .int .i64 xto, .slice la ln lc, .slice sa sn sc, .bool xcom, .int .i64 xcd, .map (some xlb), .map (some xsb), .bool xodd] := (Holds.new wr 78 [.int .i64 0, .int .i64 0, .int .i64 0, .int .i64 0, .int .i64 0, .int .i64 0, .int .i64 0, .slice none 0 0, .slice none 0 0, .bool false, .int .i64 0, .map none, .map none, .bool false]).sets [.int .i64 xco, .int .i64 xbl, .int .i64 xtr, .int .i64 xla, .int .i64 xfr, .int .i64 xpt, .int .i64 xto, .slice la ln lc, .slice sa sn sc, .bool xcom, .int .i64 xcd, .map (some xlb), .map (some xsb), .bool xodd] 0
        have hN5 : Holds ((wr.alloc (.cells #[.int .i64 0, .int .i64 0, .int .i64 0, .int .i64 0, .int .i64 0, .int .i64 0, .int .i64 0, .slice none 0 0, .slice none 0 0, .bool false, .int .i64 0, .map none, .map none, .bool false] 78)).setCells wr.heap.size 0 [.int .i64 xco, .int .i64 xbl, .int .i64 xtr, .int .i64 xla, .int .i64 xfr, .int .i64 xpt, .int .i64 xto, .slice la ln lc, .slice sa sn sc, .bool xcom, .int .i64 xcd, .map (some xlb), .map (some xsb), .bool xodd]) w1.heap.size 32 (tallyC t) := (HN.out.alloc _).others (by have := HN.out.lt; omega) _ _
        have hb5 : Below w1.heap.size w1 ((wr.alloc (.cells #[.int .i64 0, .int .i64 0, .int .i64 0, .int .i64 0, .int .i64 0, .int .i64 0, .int .i64 0, .slice none 0 0, .slice none 0 0, .bool false, .int .i64 0, .map none, .map none, .bool false] 78)).setCells wr.heap.size 0 [.int .i64 xco, .int .i64 xbl, .int .i64 xtr, .int .i64 xla, .int .i64 xfr, .int .i64 xpt, .int .i64 xto, .slice la ln lc, .slice sa sn sc, .bool xcom, .int .i64 xcd, .map (some xlb), .map (some xsb), .bool xodd]) := below_cells HBN.out.size _ _ _ (HBN.out.alloc HBN.out.size _)
        obtain ⟨W5, hW5⟩ : ∃ W5, (wr.alloc (.cells #[.int .i64 0, .int .i64 0, .int .i64 0, .int .i64 0, .int .i64 0, .int .i64 0, .int .i64 0, .slice none 0 0, .slice none 0 0, .bool false, .int .i64 0, .map none, .map none, .bool false] 78)).setCells wr.heap.size 0 [.int .i64 xco, .int .i64 xbl, .int .i64 xtr, .int .i64 xla, .int .i64 xfr, .int .i64 xpt, .int .i64 xto, .slice la ln lc, .slice sa sn sc, .bool xcom, .int .i64 xcd, .map (some xlb), .map (some xsb), .bool xodd] = W5 := ⟨_, rfl⟩
        rw [hW5] at hbx5 hN5 hb5
        have hth5 : (wr.alloc (.cells #[.int .i64 0, .int .i64 0, .int .i64 0, .int .i64 0, .int .i64 0, .int .i64 0, .int .i64 0, .slice none 0 0, .slice none 0 0, .bool false, .int .i64 0, .map none, .map none, .bool false] 78)).there wr.heap.size 0 14 := there_new wr [.int .i64 0, .int .i64 0, .int .i64 0, .int .i64 0, .int .i64 0, .int .i64 0, .int .i64 0, .slice none 0 0, .slice none 0 0, .bool false, .int .i64 0, .map none, .map none, .bool false] 78 14 rfl
        have HTH := Lib.hid hth5; clear hth5
        have HW5 := Lib.hid hW5; clear hW5
        have y0 := hbx5.cell (i := 0) rfl
        have y3 := hbx5.cell (i := 3) rfl
        have y6 := hbx5.cell (i := 6) rfl
        have y9 := hbx5.cell (i := 9) rfl
        have y10 := hbx5.cell (i := 10) rfl
        have HN5 := Lib.hid hN5; clear hN5
        have HB5 := Lib.hid hb5; clear hb5
        have HKO := Lib.hid hko; clear hko
        clear e hbx5
        have HFIN : Hid (∀ t' V, tallyK co t ⟨xco, xbl, xtr, xla, xfr, xpt, xto, xld, xst, xcom, xcd, xodd⟩ = t' → Holds V w1.heap.size 32 (tallyC t') → TalOk t' (k + 1) → Below w1.heap.size w1 V → ∃ k' : Nat, k' ≤ c.l.length ∧ (Value.int .i64 ((k : Int) + 1)) = .int .i64 k' ∧ ∃ t, t = ((c.l.take k').map (·.k)).foldl (tallyK co) tallyZ ∧ TalOk t k' ∧ Holds V w1.heap.size 32 (tallyC t) ∧ Below w1.heap.size w1 V) := Lib.hid (fun t' V h1 h2 h3 h4 => ⟨k + 1, hlt, by simp, t', by rw [HTE2.out]; exact h1.symm, h3, h2, h4⟩)
        have hto := HTO.out
        by_cases hco : xco = co
        · by_cases hend : xto = -1
          · have hn : (xco != co) = false := by simp [hco]
            have he : (xto == -1) = true := by simp [hend]
            have HK := Lib.hid (show tallyK co t ⟨xco, xbl, xtr, xla, xfr, xpt, xto, xld, xst, xcom, xcd, xodd⟩ = t by simp only [tallyK, if_pos hco, if_pos hend])
            have HMR := Lib.hid (TalOk.more HTO.out)
            clear hto hco
            subst hend
            go_wp2_with (first
              | (refine wpList_load_mid rfl 78 (.tmp 27) rfl g (k * 14) rfl [.int .i64 xco, .int .i64 xbl, .int .i64 xtr, .int .i64 xla, .int .i64 xfr, .int .i64 xpt, .int .i64 (-1), .slice la ln lc, .slice sa sn sc, .bool xcom, .int .i64 xcd, .map (some xlb), .map (some xsb), .bool xodd] _ ?_ Try.underlying78 rfl Try.sizeKnown ?_; exact HRG.out)
              | (refine wpList_store_mid rfl 78 (.tmp 10) (.tmp 28) rfl wr.heap.size 0 #[.int .i64 xco, .int .i64 xbl, .int .i64 xtr, .int .i64 xla, .int .i64 xfr, .int .i64 xpt, .int .i64 (-1), .slice la ln lc, .slice sa sn sc, .bool xcom, .int .i64 xcd, .map (some xlb), .map (some xsb), .bool xodd] rfl rfl ?_ Try.sizeKnown (by simp [Value.oneCell']) ?_; exact HTH.out; change wpList _ _ _ _ _ ((wr.alloc (.cells #[.int .i64 0, .int .i64 0, .int .i64 0, .int .i64 0, .int .i64 0, .int .i64 0, .int .i64 0, .slice none 0 0, .slice none 0 0, .bool false, .int .i64 0, .map none, .map none, .bool false] 78)).setCells wr.heap.size 0 [.int .i64 xco, .int .i64 xbl, .int .i64 xtr, .int .i64 xla, .int .i64 xfr, .int .i64 xpt, .int .i64 (-1), .slice la ln lc, .slice sa sn sc, .bool xcom, .int .i64 xcd, .map (some xlb), .map (some xsb), .bool xodd]); rw [HW5.out]))
            go_roundw
            case rel => exact HFIN.out t W5 HK.out HN5.out HMR.out HB5.out
            case measure => simp [intOf]; omega
          · cases xcom
            · have hn : (xco != co) = false := by simp [hco]
              have he : (xto == -1) = false := by simp [hend]
              have hcd := HKO.out.cd hend rfl
              have hcd1 : (0 : Int) ≤ xcd ∧ xcd < 9 := by simp only at hcd; omega
              obtain ⟨v, hv⟩ : ∃ v, t.2[xcd.toNat]? = some v := ⟨_, List.getElem?_eq_getElem (by have := hto.b; omega)⟩
              have hv1 : (0 : Int) ≤ v ∧ v ≤ k := hto.f v (List.mem_append.2 (.inr (List.mem_of_getElem? hv)))
              have hv2 : (0 : Int) ≤ v ∧ v < 1000 := by omega
              have hcell : W5.cell? ⟨w1.heap.size, 5 + xcd.toNat, none⟩ = some (.int .i64 v) := HN5.out.cell (tallyC_b hto hv)
              have hfree : W5.frozen? ⟨w1.heap.size, 5 + xcd.toNat, none⟩ = false := HN5.out.free _
              have HMR := Lib.hid (TalOk.bump2 HTO.out hv)
              have HST := Lib.hid (tallyC_set2 hto hv)
              have HK := Lib.hid (show tallyK co t ⟨xco, xbl, xtr, xla, xfr, xpt, xto, xld, xst, false, xcd, xodd⟩ = (t.1, t.2.modify xcd.toNat (· + 1)) by simp [tallyK, hco, hend])
              clear hto hco hcd hv hv1
              go_wp2_with (first
                | (refine wpList_load_mid rfl 78 (.tmp 27) rfl g (k * 14) rfl [.int .i64 xco, .int .i64 xbl, .int .i64 xtr, .int .i64 xla, .int .i64 xfr, .int .i64 xpt, .int .i64 xto, .slice la ln lc, .slice sa sn sc, .bool false, .int .i64 xcd, .map (some xlb), .map (some xsb), .bool xodd] _ ?_ Try.underlying78 rfl Try.sizeKnown ?_; exact HRG.out)
                | (refine wpList_store_mid rfl 78 (.tmp 10) (.tmp 28) rfl wr.heap.size 0 #[.int .i64 xco, .int .i64 xbl, .int .i64 xtr, .int .i64 xla, .int .i64 xfr, .int .i64 xpt, .int .i64 xto, .slice la ln lc, .slice sa sn sc, .bool false, .int .i64 xcd, .map (some xlb), .map (some xsb), .bool xodd] rfl rfl ?_ Try.sizeKnown (by simp [Value.oneCell']) ?_; exact HTH.out; change wpList _ _ _ _ _ ((wr.alloc (.cells #[.int .i64 0, .int .i64 0, .int .i64 0, .int .i64 0, .int .i64 0, .int .i64 0, .int .i64 0, .slice none 0 0, .slice none 0 0, .bool false, .int .i64 0, .map none, .map none, .bool false] 78)).setCells wr.heap.size 0 [.int .i64 xco, .int .i64 xbl, .int .i64 xtr, .int .i64 xla, .int .i64 xfr, .int .i64 xpt, .int .i64 xto, .slice la ln lc, .slice sa sn sc, .bool false, .int .i64 xcd, .map (some xlb), .map (some xsb), .bool xodd]); rw [HW5.out]))
              go_roundw
              case rel => exact HFIN.out _ _ HK.out (by rw [← HST.out]; exact HN5.out.set _ _) HMR.out (HB5.out.setCell (p := ⟨w1.heap.size, _, none⟩) (Nat.le_refl _) _)
              case measure => simp [intOf]; omega
            · have hn : (xco != co) = false := by simp [hco]
              have he : (xto == -1) = false := by simp [hend]
              have hla : (0 : Int) ≤ xla ∧ xla < 5 := by have h0 := HKO.out.la0; have h1 := HKO.out.la1; simp only at h0 h1; omega
              obtain ⟨v, hv⟩ : ∃ v, t.1[xla.toNat]? = some v := ⟨_, List.getElem?_eq_getElem (by have := hto.a; omega)⟩
              have hv1 : (0 : Int) ≤ v ∧ v ≤ k := hto.f v (List.mem_append.2 (.inl (List.mem_of_getElem? hv)))
              have hv2 : (0 : Int) ≤ v ∧ v < 1000 := by omega
              have hcell : W5.cell? ⟨w1.heap.size, xla.toNat, none⟩ = some (.int .i64 v) := HN5.out.cell (tallyC_a hto hv)
              have hfree : W5.frozen? ⟨w1.heap.size, xla.toNat, none⟩ = false := HN5.out.free _
              have HMR := Lib.hid (TalOk.bump1 HTO.out hv)
              have HST := Lib.hid (tallyC_set1 hto hv)
              have HK := Lib.hid (show tallyK co t ⟨xco, xbl, xtr, xla, xfr, xpt, xto, xld, xst, true, xcd, xodd⟩ = (t.1.modify xla.toNat (· + 1), t.2) by simp [tallyK, hco, hend])
              clear hto hco hv hv1
              go_wp2_with (first
                | (refine wpList_load_mid rfl 78 (.tmp 27) rfl g (k * 14) rfl [.int .i64 xco, .int .i64 xbl, .int .i64 xtr, .int .i64 xla, .int .i64 xfr, .int .i64 xpt, .int .i64 xto, .slice la ln lc, .slice sa sn sc, .bool true, .int .i64 xcd, .map (some xlb), .map (some xsb), .bool xodd] _ ?_ Try.underlying78 rfl Try.sizeKnown ?_; exact HRG.out)
                | (refine wpList_store_mid rfl 78 (.tmp 10) (.tmp 28) rfl wr.heap.size 0 #[.int .i64 xco, .int .i64 xbl, .int .i64 xtr, .int .i64 xla, .int .i64 xfr, .int .i64 xpt, .int .i64 xto, .slice la ln lc, .slice sa sn sc, .bool true, .int .i64 xcd, .map (some xlb), .map (some xsb), .bool xodd] rfl rfl ?_ Try.sizeKnown (by simp [Value.oneCell']) ?_; exact HTH.out; change wpList _ _ _ _ _ ((wr.alloc (.cells #[.int .i64 0, .int .i64 0, .int .i64 0, .int .i64 0, .int .i64 0, .int .i64 0, .int .i64 0, .slice none 0 0, .slice none 0 0, .bool false, .int .i64 0, .map none, .map none, .bool false] 78)).setCells wr.heap.size 0 [.int .i64 xco, .int .i64 xbl, .int .i64 xtr, .int .i64 xla, .int .i64 xfr, .int .i64 xpt, .int .i64 xto, .slice la ln lc, .slice sa sn sc, .bool true, .int .i64 xcd, .map (some xlb), .map (some xsb), .bool xodd]); rw [HW5.out]))
              go_roundw
              case rel => exact HFIN.out _ _ HK.out (by rw [← HST.out]; exact HN5.out.set _ _) HMR.out (HB5.out.setCell (p := ⟨w1.heap.size, _, none⟩) (Nat.le_refl _) _)
              case measure => simp [intOf]; omega
        · have hn : (xco != co) = true := by simp [hco]
          have HK := Lib.hid (show tallyK co t ⟨xco, xbl, xtr, xla, xfr, xpt, xto, xld, xst, xcom, xcd, xodd⟩ = t by simp only [tallyK, if_neg hco])
          have HMR := Lib.hid (TalOk.more HTO.out)
          clear hto hco
          go_wp2_with (first
            | (refine wpList_load_mid rfl 78 (.tmp 27) rfl g (k * 14) rfl [.int .i64 xco, .int .i64 xbl, .int .i64 xtr, .int .i64 xla, .int .i64 xfr, .int .i64 xpt, .int .i64 xto, .slice la ln lc, .slice sa sn sc, .bool xcom, .int .i64 xcd, .map (some xlb), .map (some xsb), .bool xodd] _ ?_ Try.underlying78 rfl Try.sizeKnown ?_; exact HRG.out)
            | (refine wpList_store_mid rfl 78 (.tmp 10) (.tmp 28) rfl wr.heap.size 0 #[.int .i64 xco, .int .i64 xbl, .int .i64 xtr, .int .i64 xla, .int .i64 xfr, .int .i64 xpt, .int .i64 xto, .slice la ln lc, .slice sa sn sc, .bool xcom, .int .i64 xcd, .map (some xlb), .map (some xsb), .bool xodd] rfl rfl ?_ Try.sizeKnown (by simp [Value.oneCell']) ?_; exact HTH.out; change wpList _ _ _ _ _ ((wr.alloc (.cells #[.int .i64 0, .int .i64 0, .int .i64 0, .int .i64 0, .int .i64 0, .int .i64 0, .int .i64 0, .slice none 0 0, .slice none 0 0, .bool false, .int .i64 0, .map none, .map none, .bool false] 78)).setCells wr.heap.size 0 [.int .i64 xco, .int .i64 xbl, .int .i64 xtr, .int .i64 xla, .int .i64 xfr, .int .i64 xpt, .int .i64 xto, .slice la ln lc, .slice sa sn sc, .bool xcom, .int .i64 xcd, .map (some xlb), .map (some xsb), .bool xodd]); rw [HW5.out]))
          go_roundw
          case rel => exact HFIN.out t W5 HK.out HN5.out HMR.out HB5.out
          case measure => simp [intOf]; omega
      · obtain rfl : k = c.l.length := by omega
        have hte := HTE.out
        rw [List.take_length] at hte
        have hj : tallyP h co = (t, 0) := by unfold tallyP; rw [HRD.out, hte]; rfl
        have hbx := Hbx.out.below HBN.out
        have HJ := Lib.hid hj; clear hj hte
        have hrng := HN.out.range (o := 0) (cs := tallyC t) (fun i v hi => by rw [Nat.zero_add]; exact hi)
        have hth := hbx.there (o := 0) (n := 15) (by decide)
        have Hbx2 := Lib.hid hbx; clear hbx
        have HRNG := Lib.hid hrng; clear hrng
        have HTH := Lib.hid hth; clear hth
        have Hsz := Lib.hid (show (Try.prog.info? 32).map (·.size) = some (tallyC t).length by rw [Try.sizeTally]; simp [tallyC, HTO.out.a, HTO.out.b])
        go_wp2_with (first
          | (refine wpList_load_mid rfl 32 (.tmp 8) rfl w1.heap.size 0 rfl (tallyC t) _ ?_ Try.underlying32 rfl ?_ ?_; exact HRNG.out; exact Hsz.out)
          | (refine wpList_store_mid rfl 32 (.tmp 4) (.tmp 64) rfl w.heap.size 0 (tallyC t).toArray rfl rfl ?_ ?_ ?_ ?_; exact tally_there HTH.out HTO.out; exact Hsz.out; exact tally_one t))
        have hb2 : Holds (wr.setCells w.heap.size 0 (tallyC t)) w.heap.size 32 (tallyC t) := tally_sets Hbx2.out HTO.out
        exact bodyPost_ret (results_ct rfl rfl (tally_load hb2 HTO.out.a HTO.out.b) rfl) rfl ⟨by rw [HJ.out]; rfl, below_cells (Nat.le_refl _) (tallyC t) 0 _ (Hbl.out.trans (HBN.out.mono (by omega)))⟩

end Go.Proofs.Ytgjbhcnadenojaa
