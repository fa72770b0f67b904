/- A row of bytes that a call owns, whether it came of a string's conversion or not; what is appended to it. Conditions: those stated in each theorem. -/
import Derived.Test.YteijhcibdglkeaaGreatDoorTxtP
import Derived.Test.YteijhcibdglkeaaGreatDoorShelf
import Derived.Test.YteijhcibdglkeaaGreatDoorOwn0
import Derived.Lib.ConvBytes
import Derived.Lib.AppendStr
import Derived.Lib.AppendIntMem
import Derived.Laws.BytesString
import Derived.OwnWalk
import Derived.OwnWalkIn
namespace Go.Proofs.YteijhcibdglkeaaGreatDoor
open Go.RowKit Go.BigFrame

def RowM (w : World) (B : Nat) (v : Value) (n : Nat) (xs : List Value) : Prop :=
  xs.length = n ∧ ∃ (g cap : Nat) (cur : Array Value) (fz : Nat × Nat), v = .slice (some ⟨g, 0, none⟩) n cap ∧ B ≤ g ∧ w.heap[g]? = some (.cells cur 5 fz) ∧ (∀ i, i < cap → i < fz.1 ∨ fz.2 ≤ i) ∧ n ≤ cap ∧ cap ≤ maxLen ∧ cur.size = cap ∧ cur.toList.take n = xs

theorem RowM.kept {w w' : World} {B n : Nat} {v : Value} {xs : List Value} (h : RowM w B v n xs) (hb : ∀ g, v.ownBlock = some g → w'.heap[g]? = w.heap[g]?) : RowM w' B v n xs := by
  obtain ⟨h0, g, cap, cur, fz, rfl, h1, h2, r⟩ := h
  exact ⟨h0, g, cap, cur, fz, rfl, h1, (hb g rfl).trans h2, r⟩
theorem RowM.lt {w : World} {B n : Nat} {v : Value} {xs : List Value} (h : RowM w B v n xs) {k : Nat} (hk : v.ownBlock = some k) : B ≤ k ∧ k < w.heap.size := by
  obtain ⟨h0, g, cap, cur, fz, rfl, h1, h2, r⟩ := h
  cases hk
  exact ⟨h1, (Array.getElem?_eq_some_iff.1 h2).1⟩
theorem RowM.kind {w : World} {B n : Nat} {v : Value} {xs : List Value} (h : RowM w B v n xs) {k : Nat} (hk : v.ownBlock = some k) : ∃ c fz, w.heap[k]? = some (.cells c 5 fz) := by
  obtain ⟨h0, g, cap, cur, fz, rfl, h1, h2, r⟩ := h
  cases hk
  exact ⟨_, _, h2⟩
theorem RowM.form {w : World} {B n : Nat} {v : Value} {xs : List Value} (h : RowM w B v n xs) : ∃ g cap, v = .slice (some ⟨g, 0, none⟩) n cap ∧ v.ownBlock = some g := by
  obtain ⟨h0, g, cap, cur, fz, rfl, r⟩ := h
  exact ⟨g, cap, rfl, rfl⟩
theorem RowM.cells {w : World} {B n g cap : Nat} {xs : List Value} (h : RowM w B (.slice (some ⟨g, 0, none⟩) n cap) n xs) : ∀ j u, xs[j]? = some u → w.cell? ((⟨g, 0, none⟩ : Addr).add j) = some u := by
  intro j u hu
  obtain ⟨h0, g', cap', cur, fz, he, h1, h2, h3, h4, h5, h6, h7⟩ := h
  cases he
  have hadd : (⟨g, 0, none⟩ : Addr).add j = ⟨g, j, none⟩ := by unfold Addr.add; split <;> simp_all
  rw [hadd, World.cell?, h2]
  rw [← h7, List.getElem?_take] at hu
  split at hu
  · simpa using hu
  · cases hu
theorem RowM.more {w : World} {B B' n : Nat} {v : Value} {xs : List Value} (h : RowM w B v n xs) (hB : ∀ k, v.ownBlock = some k → B' ≤ k) : RowM w B' v n xs := by
  obtain ⟨h0, g, cap, cur, fz, rfl, h1, r⟩ := h
  exact ⟨h0, g, cap, cur, fz, rfl, hB g rfl, r⟩

/-- What an append leaves: the row's block alone has turned, and what is answered lies there or in a new block. -/
def GrowM (w w' : World) (v v' : Value) : Prop := w.grownBy w' v.ownBlock ∧ ∀ k, v'.ownBlock = some k → v.ownBlock = some k ∨ w.heap.size ≤ k
theorem GrowM.trans {w w1 w2 : World} {v v1 v2 : Value} (h : GrowM w w1 v v1) (k : GrowM w1 w2 v1 v2) : GrowM w w2 v v2 := by
  refine ⟨⟨k.1.os.trans h.1.os, k.1.tape.trans h.1.tape, k.1.output.trans h.1.output, Nat.le_trans h.1.size k.1.size, fun b hb hne => ?_⟩, fun b hb => ?_⟩
  · refine (k.1.block b (Nat.lt_of_lt_of_le hb h.1.size) (fun e => ?_)).trans (h.1.block b hb hne)
    rcases h.2 b e.symm with h2 | h2
    · exact hne h2.symm
    · omega
  · rcases k.2 b hb with h2 | h2
    · exact h.2 b h2
    · exact .inr (Nat.le_trans h.1.size h2)
theorem GrowM.idle {w w1 w2 : World} {v v2 : Value} (h : Below w.heap.size w w1) (k : GrowM w1 w2 v v2) : GrowM w w2 v v2 :=
  ⟨⟨k.1.os.trans h.os, k.1.tape.trans h.tape, k.1.output.trans h.output, Nat.le_trans h.size k.1.size, fun b hb hne => (k.1.block b (Nat.lt_of_lt_of_le hb h.size) hne).trans (h.block b hb)⟩, fun b hb => (k.2 b hb).imp id (fun h2 => Nat.le_trans h.size h2)⟩

theorem store_free (P : Program) (g o : Nat) (t : TypeId) (fz : Nat × Nat) : ∀ (vs : List Value) (i : Nat) (cur : Array Value) (w : World), w.heap[g]? = some (.cells cur t fz) → (∀ j, j < o + i + vs.length → j < fz.1 ∨ fz.2 ≤ j) → o + i + vs.length ≤ cur.size → (∀ v ∈ vs, v.oneCell' = true) →
    (storeCells ⟨g, o, none⟩ vs i).run P w = .ok () (w.setRow g (cur.toList.take (o + i) ++ vs ++ cur.toList.drop (o + i + vs.length)).toArray)
  | [], i, cur, w, hg, _, _, _ => by
    simp only [storeCells, List.append_nil, List.length_nil, Nat.add_zero, List.take_append_drop, Array.toArray_toList]
    rw [setRow_self w g cur t fz hg]
    rfl
  | v :: rest, i, cur, w, hg, hfz, hl, h1 => by
    have hi : o + i < cur.size := by simp at hl; omega
    have hadd : (⟨g, o, none⟩ : Addr).add i = ⟨g, o + i, none⟩ := by unfold Addr.add; split <;> simp_all
    have hcell : w.cell? ⟨g, o + i, none⟩ = some cur[o + i] := by simp [World.cell?, hg, hi]
    have hf := hfz (o + i) (by simp)
    have hfro : w.frozen? ⟨g, o + i, none⟩ = false := by
      simp only [World.frozen?, hg, Bool.and_eq_false_iff, decide_eq_false_iff_not]
      omega
    have hst : (store ((⟨g, o, none⟩ : Addr).add i) v).run P w = .ok () (w.setRow g (cur.setIfInBounds (o + i) v)) := by
      rw [hadd, run_store P w _ v _ (h1 v (by simp)), hcell]
      simp [hfro, setCell_eq_setRow w g (o + i) cur t fz v hg]
    have ih := store_free P g o t fz rest (i + 1) (cur.setIfInBounds (o + i) v) (w.setRow g (cur.setIfInBounds (o + i) v)) (setRow_heap w g cur _ t _ hg) (fun j hj => hfz j (by simp at hj ⊢; omega)) (by simp at hl ⊢; omega) (fun x hx => h1 x (by simp [hx]))
    simp only [storeCells, Sem.run_bind, hst, Result.andThen_ok, ih, setRow_setRow]
    congr 3
    have e := list_seg_step cur.toList (o + i) v rest (by simp at hl ⊢; omega)
    simpa [Array.toList_setIfInBounds, Nat.add_assoc] using e

/-- What is appended: a string's bytes, or cells that lie in memory. -/
def Adds (P : Program) (w : World) (t u : TypeId) (x : Value) (m : Nat) (news : List Value) : Prop :=
  (∃ s : ByteArray, x = .string s ∧ P.underlying u = some .string ∧ m = s.size ∧ news = Lib.strCells s) ∨
  (u = t ∧ ∃ a c, x = .slice (some a) m c ∧ news.length = m ∧ (∀ y ∈ news, y.oneCell' = true) ∧ ∀ j y, news[j]? = some y → w.cell? (a.add j) = some y)

theorem append_M {P : Program} (w : World) (B : Nat) (t u ty : TypeId) (i : TypeInfo) (ht : P.underlying t = some (.slice 5)) (hi : P.info? 5 = some i) (hz : i.zero = some (.int .u8 0)) (hs : i.size = 1) (hy : i.bytes = 1)
    (v : Value) (n : Nat) (xs : List Value) (hown : RowM w B v n xs) (x : Value) (m : Nat) (news : List Value) (hx : Adds P w t u x m news) (hb : n + m ≤ 140737488355328) (hB : B ≤ w.heap.size) :
    ∃ v' w', (Builtin.append_ #[t, u] ty #[v, x]).run P w = .ok v' w' ∧ RowM w' B v' (n + m) (xs ++ news) ∧ GrowM w w' v v' := by
  obtain ⟨h0, g, cap, cur, fz, rfl, h1, h2, h3, h4, h5, h6, h7⟩ := id hown
  have hnl : news.length = m := by
    rcases hx with ⟨s, -, -, rfl, rfl⟩ | ⟨-, a, c, -, hl, -⟩
    · exact Lib.strCells_length s
    · exact hl
  have hn1 : ∀ y ∈ news, y.oneCell' = true := by
    rcases hx with ⟨s, -, -, rfl, rfl⟩ | ⟨-, a, c, -, -, hl, -⟩
    · exact Lib.strCells_oneCell s
    · exact hl
  by_cases hroom : n + m ≤ cap
  · have hst := store_free P g n 5 fz news 0 cur w h2 (fun j hj => h3 j (by omega)) (by omega) hn1
    rw [Nat.add_zero] at hst
    refine ⟨.slice (some ⟨g, 0, none⟩) (n + m) cap, w.setRow g (cur.toList.take n ++ news ++ cur.toList.drop (n + news.length)).toArray, ?_, ⟨by rw [List.length_append]; omega, g, cap, _, fz, rfl, h1, setRow_heap w g cur _ _ fz h2, h3, hroom, h5, ?_, ?_⟩, ⟨⟨rfl, rfl, rfl, by simp, fun k _ hk => setRow_other w g k _ (fun e => hk (by simp [Value.ownBlock, e]))⟩, fun k hk => .inl hk⟩⟩
    · rcases hx with ⟨s, rfl, hu, rfl, rfl⟩ | ⟨rfl, a, c, rfl, hl, -, hc⟩
      · have hf := Lib.run_firstCells_string (P := P) w 1 s
        simp [Builtin.append_, run_underlying ht, run_underlying hu, sizeOf, typeInfo, hi, hs, Builtin.lenOf, hroom, hf, Addr.add_lit, hst]
      · have hf := run_firstCells_some (P := P) w 1 m a m c news (by omega) hc
        have hf' := run_firstCells_some (P := P) w i.size m a m c news (by rw [hs]; omega) hc
        simp [Builtin.append_, run_underlying ht, sizeOf, typeInfo, hi, hs, Builtin.lenOf, hroom, hf, Addr.add_lit, hst]
    · simp only [List.size_toArray, List.length_append, List.length_take, List.length_drop, Array.length_toList]
      omega
    · rw [h7, ← hnl, ← h0, ← List.length_append]
      exact List.take_left
  · have hcm := grownCap_le_maxLen w (n + m) cap 5 (by unfold maxLen; omega)
    have hge := grownCap_ge w (n + m) cap 5
    have hlen : (xs ++ news).length = n + m := by rw [List.length_append]; omega
    refine ⟨.slice (some ⟨w.heap.size, 0, none⟩) (n + m) (grownCap w (n + m) cap 5), w.drew.alloc (.cells (xs.toArray ++ news.toArray ++ Builtin.zeroCells (Value.int .u8 0).cells (grownCap w (n + m) cap 5 - (n + m))) 5), ?_, ⟨hlen, w.heap.size, _, _, (0, 0), rfl, hB, heap_alloc_new w.drew (.cells (xs.toArray ++ news.toArray ++ Builtin.zeroCells (Value.int .u8 0).cells (grownCap w (n + m) cap 5 - (n + m))) 5), fun _ _ => .inr (Nat.zero_le _), hge, hcm, ?_, ?_⟩, ⟨⟨rfl, rfl, rfl, by simp, fun k hk _ => Below.heap_alloc w.drew _ k hk⟩, fun k hk => by cases hk; exact .inr (Nat.le_refl _)⟩⟩
    · rcases hx with ⟨s, rfl, hu, rfl, rfl⟩ | ⟨rfl, a, c, rfl, hl, -, hc⟩
      · exact Lib.run_append_grow_string (P := P) w t u ty 5 i (.int .u8 0) ht hu hi hz ⟨g, 0, none⟩ n cap xs (by rw [hs]; omega) hown.cells s (by omega) (by omega) (by rw [hy]; exact growslice_fits (by omega) (by omega))
      · exact run_append_grow (P := P) w u ty 5 i (.int .u8 0) ht hi hz ⟨g, 0, none⟩ n cap xs (by rw [hs]; omega) hown.cells a m c news (by rw [hs]; omega) hc (by omega) (by omega) (by rw [hy]; exact growslice_fits (by omega) (by omega))
    · have hz1 : (Value.int IntKind.u8 0).cells.size = 1 := rfl
      simp only [Array.size_append, List.size_toArray, size_zeroCells, hz1]
      omega
    · simp only [Array.toList_append, List.append_assoc]
      rw [← List.append_assoc, ← hlen]
      exact List.take_left

/-- The operation, for the walk. -/
theorem wpList_append_M {P : Program} (w : World) {ops : Array Oper} {rest : List Oper} {o : Oper} {a : Act} {Q : Exit → Act → World → Prop} (hgd : o.guard = none) (s x : Operand) (t u : TypeId)
    (ho : o.op = .call { callee := .builtin .append, args := #[s, x], argTypes := #[t, u] }) (B : Nat) (i : TypeInfo) (ht : P.underlying t = some (.slice 5)) (hi : P.info? 5 = some i) (hz : i.zero = some (.int .u8 0)) (hs : i.size = 1) (hy : i.bytes = 1)
    (v : Value) (n : Nat) (xs : List Value) (hv : a.eval s = v) (hown : RowM w B v n xs) (y : Value) (m : Nat) (news : List Value) (hyv : a.eval x = y) (hx : Adds P w t u y m news) (hb : n + m ≤ 140737488355328) (hB : B ≤ w.heap.size)
    (h : ∀ v' w', RowM w' B v' (n + m) (xs ++ news) → GrowM w w' v v' → wpList P ops Q rest (a.put o.dst v') w') : wpList P ops Q (o :: rest) a w := by
  refine wpList_plain hgd fun K hK => ?_
  obtain ⟨v', w', hr, h2, h3⟩ := append_M w B t u o.type i ht hi hz hs hy v n xs hown y m news hx hb hB
  unfold Oper.wp execOp
  simp only [ho, resolve, invoke, builtin, Sem.run_bind, Sem.run_pure, Result.andThen_ok, List.map_toArray, List.map_cons, List.map_nil, hv, hyv, hr]
  exact hK _ _ (h v' w' h2 h3)
theorem wpListIn_append_M {F : Fence} {nF : Nat} {P : Program} (w : World) {ops : Array Oper} {rest : List Oper} {o : Oper} {a : Act} {Q : Exit → Act → World → Prop} (hgd : o.guard = none) (s x : Operand) (t u : TypeId)
    (ho : o.op = .call { callee := .builtin .append, args := #[s, x], argTypes := #[t, u] }) (B : Nat) (i : TypeInfo) (ht : P.underlying t = some (.slice 5)) (hi : P.info? 5 = some i) (hz : i.zero = some (.int .u8 0)) (hs : i.size = 1) (hy : i.bytes = 1)
    (v : Value) (n : Nat) (xs : List Value) (hv : a.eval s = v) (hown : RowM w B v n xs) (y : Value) (m : Nat) (news : List Value) (hyv : a.eval x = y) (hx : Adds P w t u y m news) (hb : n + m ≤ 140737488355328) (hB : B ≤ w.heap.size)
    (h : ∀ v' w', RowM w' B v' (n + m) (xs ++ news) → GrowM w w' v v' → wpListIn F nF P ops Q rest (a.put o.dst v') w') : wpListIn F nF P ops Q (o :: rest) a w := by
  refine wpListIn_plain hgd fun K hK => ?_
  obtain ⟨v', w', hr, h2, h3⟩ := append_M w B t u o.type i ht hi hz hs hy v n xs hown y m news hx hb hB
  unfold Oper.wpIn
  refine ⟨by simp [Oper.about, ho, resolve, Target.leads, Sem.run_pure], ?_⟩
  rw [Oper.semAt_plain F _ _ (by rw [ho]; intro c hc'; cases hc')]
  simp [execOp, ho, resolve, invoke, builtin, hv, hyv, hr, Result.andThen]
  exact hK _ _ (h v' w' h2 h3)

/-- A string's conversion. -/
theorem bytes_M (w : World) (B : Nat) (hB : B ≤ w.heap.size) (s : ByteArray) (hs : s.size ≤ maxLen) : RowM (Lib.bytesWorld w 5 s) B (.slice (some ⟨w.heap.size, 0, none⟩) s.size (grownCap w s.size 0 5)) s.size (Lib.strCells s) := by
  have hge := grownCap_ge w s.size 0 5
  have hsz : (Lib.bytesCells w 5 s).size = grownCap w s.size 0 5 := by
    have : s.data.size = s.size := rfl
    simp [Lib.bytesCells]; omega
  refine ⟨Lib.strCells_length s, w.heap.size, _, _, _, rfl, hB, Lib.bytesWorld_at_new w 5 s, fun i hi => .inl ?_, hge, grownCap_le_maxLen w s.size 0 _ hs, hsz, ?_⟩
  · rw [hsz]; exact hi
  · have hl : (s.data.map fun b => Value.int .u8 b.toNat).toList = Lib.strCells s := by simp [Lib.strCells]
    unfold Lib.bytesCells
    rw [Array.toList_append, hl, ← Lib.strCells_length s]
    exact List.take_left
theorem fold_bytes : ∀ (l : List UInt8) (r : ByteArray), (l.map fun b => (b.toNat : Int)).foldl (fun r n => r.push (UInt8.ofNat n.toNat)) r = ⟨r.data ++ l.toArray⟩
  | [], r => by simp
  | b :: l, r => by
    rw [List.map_cons, List.foldl_cons, fold_bytes l]
    apply ByteArray.ext
    simp
/-- The string of a row. -/
theorem string_M {w : World} {B n : Nat} {v : Value} {l : List UInt8} (h : RowM w B v n (Lib.byteCells l)) : (convert 128 9 v).run Tryz.prog w = .ok (.string ⟨l.toArray⟩) w := by
  obtain ⟨g, cap, rfl, -⟩ := h.form
  have hn : l.length = n := by rw [← h.1, Lib.byteCells_length]
  have hc := run_loadCells_list (P := Tryz.prog) w ⟨g, 0, none⟩ (Lib.byteCells l) h.cells
  rw [Lib.byteCells_length, hn] at hc
  have hm : Lib.byteCells l = (l.map fun b => (b.toNat : Int)).map (Value.int .u8) := by simp [Lib.byteCells]
  rw [run_convert_bytes_string w _ _ 5 _ _ _ Tryz.underlying128 Tryz.underlying5 Tryz.underlying9, run_bytesToString w _ n cap (l.map fun b => (b.toNat : Int)) (by rw [← hm]; exact hc), fold_bytes]
  congr 3
  simp [ByteArray.empty, ByteArray.emptyWithCapacity]
  rfl

end Go.Proofs.YteijhcibdglkeaaGreatDoor
