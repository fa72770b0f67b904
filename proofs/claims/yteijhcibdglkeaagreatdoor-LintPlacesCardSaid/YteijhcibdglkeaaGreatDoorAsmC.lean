/- The map of a text's names, in memory; the words of isa. Conditions: those stated in each theorem. -/
import Derived.Test.YteijhcibdglkeaaGreatDoorAsmB
import Derived.Maps.OwnSet
import Derived.Maps.OwnIn
namespace Go.Proofs.YteijhcibdglkeaaGreatDoor
open Go.RowKit Go.BigFrame Go.Maps Go.ChangeMaps

theorem Tryz.keyS : Keyed Tryz.prog 9 := string_keyed Tryz.underlying9
@[reducible] def stV (v : Nat × Nat) : Value := .agg #[.int .i64 v.1, .int .i64 v.2]
theorem Tryz.zeroSt (w : World) : (zeroValue 117).run Tryz.prog w = .ok (stV (0, 0)) w := by kernel_rfl
def stD (v : Nat × Nat) : DataW Unit := .agg [.lit (.int .i64 v.1), .lit (.int .i64 v.2)]
/-- How such an element reads. -/
def stElem : Value → Option (DataW Unit × List MemPlace)
  | .agg cs => match cs.toList with
    | [.int .i64 a, .int .i64 b] => some (.agg [.lit (.int .i64 a), .lit (.int .i64 b)], [])
    | _ => none
  | _ => none
theorem stElem_mk (v : Nat × Nat) : stElem (stV v) = some (stD v, []) := rfl
theorem stElem_inv {v : Value} {a b : Nat} {z : List MemPlace} (h : stElem v = some (stD (a, b), z)) : v = stV (a, b) := by
  unfold stElem at h
  split at h
  · rename_i cs
    split at h
    · rename_i a' b' hc
      simp only [stD, Option.some.injEq, Prod.mk.injEq, DataW.agg.injEq, List.cons.injEq, DataW.lit.injEq, Lit.int.injEq, true_and, and_true] at h
      obtain ⟨⟨rfl, rfl⟩, _⟩ := h
      congr 1
      exact Array.ext' hc
    · cases h
  · cases h
theorem keyStr (s : By) (h : s.length ≤ 1000000) : keyOf Tryz.prog 9 (.string ⟨s.toArray⟩) = some (.string s) := by
  rw [keyOf_string Tryz.underlying9]
  simp only [mapKey, Tryz.underlying9, ByteArray.size, List.size_toArray]
  rw [if_pos (by unfold maxLen; omega)]

/-- The datum says what the function says. -/
def IsNm (D : DataW Unit) (f : Nms) : Prop :=
  IsMap D ∧ ∀ s : By, Maps.has D (.string s) = (f s).isSome ∧ ∀ v, f s = some v → ∀ z, D.atKey (.string s) z = stD v
theorem isNm_none : IsNm (.map []) (fun _ => none) := ⟨isMap_empty, fun _ => ⟨rfl, fun _ h => by cases h⟩⟩
theorem IsNm.put {D : DataW Unit} {f : Nms} (h : IsNm D f) (s : By) (v : Nat × Nat) : IsNm (D.put (.string s) (stD v)) (f.put s v) := by
  refine ⟨h.1.put _ _, fun b => ?_⟩
  unfold Nms.put
  by_cases hb : b = s
  · subst hb
    rw [if_pos rfl]
    exact ⟨has_put_same h.1 (by simp [WideAt.IsKeyLit]) _, fun k hk z => by cases hk; exact atKey_put_same h.1 (by simp [WideAt.IsKeyLit]) _ _⟩
  · have hne : (Lit.string b) ≠ Lit.string s := fun e => hb (by cases e; rfl)
    rw [if_neg hb, has_put_other hne]
    exact ⟨(h.2 b).1, fun k hk z => by rw [atKey_put_other hne]; exact (h.2 b).2 k hk z⟩

/-- A map of at most n entries. -/
def NmAt (w : World) (b n : Nat) (f : Nms) : Prop := ∃ D, w.ownsMap Tryz.prog 9 stElem b n D ∧ IsNm D f
section
variable {w w' : World} {b n : Nat} {f : Nms}
theorem NmAt.same (h : NmAt w b n f) (k : w'.heap[b]? = w.heap[b]?) : NmAt w' b n f := by
  obtain ⟨D, ⟨es, clock, hb, r⟩, h2⟩ := h
  exact ⟨D, ⟨es, clock, k.trans hb, r⟩, h2⟩
theorem NmAt.obj (h : NmAt w b n f) : ∃ es clock, w.heap[b]? = some (.map es clock) := by
  obtain ⟨D, ⟨es, clock, hb, r⟩, h2⟩ := h
  exact ⟨_, _, hb⟩
theorem NmAt.lt (h : NmAt w b n f) : b < w.heap.size := by obtain ⟨_, _, h⟩ := h.obj; exact (Array.getElem?_eq_some_iff.1 h).1
theorem NmAt.ne {c : Nat} (h : NmAt w b n f) {cs : Array Value} {t : TypeId} {fr : Nat × Nat} (hc : w.heap[c]? = some (.cells cs t fr)) : c ≠ b := by
  obtain ⟨_, _, h⟩ := h.obj
  rintro rfl
  rw [h] at hc; cases hc
theorem NmAt.made (w : World) : NmAt (w.alloc (.map #[] 0)) w.heap.size 0 (fun _ => none) := ⟨_, World.ownsMap_made w _ _ _, isNm_none⟩
theorem NmAt.more {m : Nat} (h : NmAt w b n f) (hm : n ≤ m) : NmAt w b m f := by
  obtain ⟨D, ⟨es, clock, hb, r, r2, r3⟩, h2⟩ := h
  exact ⟨D, ⟨es, clock, hb, r, Nat.le_trans r2 hm, r3⟩, h2⟩
theorem NmAt.below (h : NmAt w b n f) (hb : Below w.heap.size w w') : NmAt w' b n f := h.same (hb.block b h.lt)
theorem NmAt.datum (h : NmAt w b n f) : ∃ D, w.ownsMap Tryz.prog 9 stElem b n D ∧ (∀ s, Maps.has D (.string s) = (f s).isSome ∧ D.atKey (.string s) (stD (0, 0)) = stD ((f s).getD (0, 0))) := by
  obtain ⟨D, h1, h2⟩ := h
  refine ⟨D, h1, fun s => ⟨(h2.2 s).1, ?_⟩⟩
  cases hf : f s with
  | some v => exact (h2.2 s).2 v hf _
  | none =>
    have hh := (h2.2 s).1
    rw [hf] at hh
    rw [atKey_of_not_has hh]; rfl
theorem NmAt.run (h : NmAt w b n f) {s : By} (hs : s.length ≤ 1000000) :
    (Instr.lookup 78 (.map (some b)) (.string ⟨s.toArray⟩) false).run Tryz.prog w = .ok (stV ((f s).getD (0, 0))) w := by
  obtain ⟨D, h1, h2⟩ := h.datum
  obtain ⟨v, ps, hrun, hv⟩ := h1.lookup Tryz.keyS Tryz.underlying78 (Tryz.zeroSt w) (stElem_mk (0, 0)) (keyStr s hs)
  rw [(h2 s).2] at hv
  generalize (f s).getD (0, 0) = p at *
  obtain ⟨p1, p2⟩ := p
  rw [hrun, stElem_inv hv]
theorem NmAt.run_ok (h : NmAt w b n f) {s : By} (hs : s.length ≤ 1000000) :
    (Instr.lookup 78 (.map (some b)) (.string ⟨s.toArray⟩) true).run Tryz.prog w = .ok (.tuple #[stV ((f s).getD (0, 0)), .bool (f s).isSome]) w := by
  obtain ⟨D, h1, h2⟩ := h.datum
  obtain ⟨v, ps, hrun, hv⟩ := h1.look_ok Tryz.keyS Tryz.underlying78 (Tryz.zeroSt w) (stElem_mk (0, 0)) (keyStr s hs)
  rw [(h2 s).2] at hv
  rw [(h2 s).1] at hrun
  generalize (f s).getD (0, 0) = p at *
  obtain ⟨p1, p2⟩ := p
  rw [hrun, stElem_inv hv]
end
section
variable {w : World} {ops : Array Oper} {rest : List Oper} {o : Oper} {a : Act} {Q : Exit → Act → World → Prop} {F : Fence} {nF : Nat}
theorem nm_put (hg : o.guard = none) (m x v : Operand) (hop : o.op = Op.mapUpdate 78 m x v) (b n : Nat) (f : Nms) (s : By) (va : Nat × Nat) (hm : a.eval m = .map (some b)) (hx : a.eval x = .string ⟨s.toArray⟩) (hv : a.eval v = stV va) (h : NmAt w b n f) (hs : s.length ≤ 1000000) (hn : n < maxLen)
    (hK : ∀ w', NmAt w' b (n + 1) (f.put s va) → w.grownBy w' (some b) → wpList Tryz.prog ops Q rest (a.put o.dst undef) w') : wpList Tryz.prog ops Q (o :: rest) a w := by
  obtain ⟨D, h1, h2⟩ := h
  refine wpList_mapUpdate_own w hg m x v 78 hop 9 117 Tryz.keyS Tryz.underlying78 _ b n D hm h1 hn _ _ _ hx hv (keyStr s hs) (stD va) [] (stElem_mk va) ?_
  intro w' k1 k2
  exact hK w' ⟨_, k1, h2.put s va⟩ k2
theorem in_put (hg : o.guard = none) (m x v : Operand) (hop : o.op = Op.mapUpdate 78 m x v) (b n : Nat) (f : Nms) (s : By) (va : Nat × Nat) (hm : a.eval m = .map (some b)) (hx : a.eval x = .string ⟨s.toArray⟩) (hv : a.eval v = stV va) (h : NmAt w b n f) (hs : s.length ≤ 1000000) (hn : n < maxLen)
    (hK : ∀ w', NmAt w' b (n + 1) (f.put s va) → w.grownBy w' (some b) → wpListIn F nF Tryz.prog ops Q rest (a.put o.dst undef) w') : wpListIn F nF Tryz.prog ops Q (o :: rest) a w := by
  obtain ⟨D, h1, h2⟩ := h
  refine wpListIn_mapUpdate_own w hg m x v 78 hop 9 117 Tryz.keyS Tryz.underlying78 _ b n D hm h1 hn _ _ _ hx hv (keyStr s hs) (stD va) [] (stElem_mk va) ?_
  intro w' k1 k2
  exact hK w' ⟨_, k1, h2.put s va⟩ k2
end

/-- An operation's own line, without its numbers. -/
def opI (k : Nat) : In := ⟨k, 0, 0, 0, 0⟩
theorem opI_ok {k : Nat} (h : k < 19) : (opI k).Ok := ⟨⟨by simp only [opI]; omega, by simp only [opI]; omega⟩, ⟨by simp [opI], by simp [opI]⟩, ⟨by simp [opI], by simp [opI]⟩, ⟨by simp [opI], by simp [opI]⟩, ⟨by simp [opI], by simp [opI]⟩⟩
theorem form_op : ∀ k : Fin 19, formP (opI k.val) = k.val := by decide
theorem bef_op {k : Nat} (h : k < 19) : bef 32 (textP (opI k)) = word k := by
  have := take_word (opI k)
  rw [form_op ⟨k, h⟩] at this
  exact this
theorem text_len (i : In) (hi : i.Ok) : (textP i).length ≤ 200 := by
  have key : ∀ ks : List Nat, (textNums i ks).length ≤ 22 * ks.length := fun ks => by
    induction ks with
    | nil => simp [textNums]
    | cons k ks ih =>
      have : textNums i (k :: ks) = 32 :: (Lib.itoa (i.get k) ++ textNums i ks) := by simp [textNums]
      rw [this]
      have := itoa_len _ (hi.get k)
      simp; omega
  have h1 := key (placesP (mask (formP i)))
  have h2 := places_len (mask (formP i))
  have h3 := word_len (formP i)
  unfold textP
  rw [List.length_append]; omega

set_option maxRecDepth 100000 in
set_option maxHeartbeats 2000000 in
theorem words_any {w : World} (h : Std w) : Calls Tryz.prog 49 #[] w fun e w' => ∃ b, e = .returned (.map (some b)) ∧ w.heap.size ≤ b ∧ NmAt w' b 19 wordsM ∧ Below w.heap.size w w' := by
  have H := Lib.hid h; clear h
  have hmm := @run_makeMap Tryz.prog
  go_enter Tryz.func49, Tryz.ntmps49
  go_wp2_with fail
  have h0 : NmAt (w.alloc (.map #[] 0)) w.heap.size 0 (wordsTo 0) := NmAt.made w
  have hb0 : Below w.heap.size w (w.alloc (.map #[] 0)) := (Below.refl _ w).alloc (Nat.le_refl _) _
  have H0 := Lib.hid h0; clear h0
  have Hb0 := Lib.hid hb0; clear hb0
  go_loopw [7] (fun i wr => ∃ k : Nat, k ≤ 19 ∧ i = .int .i64 k ∧ NmAt wr w.heap.size k (wordsTo k) ∧ Below w.heap.size w wr) (fun i _ => 19 - (intOf i).toNat)
  case atStart => exact ⟨0, by omega, rfl, H0.out, Hb0.out⟩
  case round =>
    obtain ⟨k, hk, rfl, hm, hb⟩ := hrel
    clear H0 Hb0
    by_cases hlt : k < 19
    · have hkk : IntKind.i64.wrap ((k : Int) + 1) = (k : Int) + 1 := by rw [IntKind.wrap_i64]; omega
      have hok := opI_ok hlt
      have ht := text_std (opI k) hok (H.out.below hb)
      have hl := text_len (opI k) hok
      have hc := fun W => cut_any (textP (opI k)) 32 (by omega) W
      rw [bef_op hlt] at hc
      have hw := word_len k
      have hst := words_step k
      have hiv : (opI k).val = .agg #[.int .i64 k, .int .i64 0, .int .i64 0, .int .i64 0, .int .i64 0] := rfl
      rw [hiv] at ht
      have HT := Lib.hid ht; clear ht
      have HC := Lib.hid hc; clear hc
      have HM := Lib.hid hm; clear hm
      have HB := Lib.hid hb; clear hb
      have HW := Lib.hid hw; clear hw
      have HST := Lib.hid hst; clear hst
      generalize textP (opI k) = tx at *
      generalize word k = wd at *
      clear hiv hl hok
      go_wp2_with (first | (go_at_call 64; refine HT.out.mono ?_; rintro e w2 ⟨rfl, hb2⟩; have HB2 := Lib.hid hb2; clear hb2) | (go_at_call 53; refine (HC.out _).mono ?_; rintro e w3 ⟨rfl, hb3⟩; have HB3 := Lib.hid (HB2.out.trans (hb3.mono HB2.out.size)); clear hb3) | (at_mapUpdate; refine nm_put rfl _ _ _ rfl w.heap.size k (wordsTo k) wd (0, 0) rfl rfl rfl (HM.out.below HB3.out) (by have := HW.out; omega) (by unfold maxLen; omega) ?_; intro w4 hm4 hg4; have HM4 := Lib.hid hm4; have HG4 := Lib.hid hg4; clear hm4 hg4))
      go_roundw
      case rel => exact ⟨k + 1, by omega, by simp, by rw [HST.out]; exact HM4.out, ((HB.out.trans (HB3.out.mono HB.out.size)).grown HG4.out (Below.trans HB.out (HB3.out.mono HB.out.size)).size (fun b e => by cases e; exact Nat.le_refl _))⟩
      case measure => simp [intOf]; omega
    · obtain rfl : k = 19 := by omega
      have HM := Lib.hid hm; clear hm
      have HB := Lib.hid hb; clear hb
      go_wp2_with fail
      exact bodyPost_ret (results_tmp rfl _ _ _) rfl ⟨_, rfl, Nat.le_refl _, HM.out, HB.out⟩

end Go.Proofs.YteijhcibdglkeaaGreatDoor
