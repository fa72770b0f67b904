/- serial: where its walk stands. Conditions: those stated in each theorem. -/
import Derived.Test.YtgjbhcnadenojaaSerD
import Derived.Test.YtgjbhcnadenojaaParC
import Derived.Maps.AppendAt
import Derived.Laws.CopyOwn
import Derived.Deep.RegionHeld3
import Derived.Deep.CutBlock
namespace Go.Proofs.Ytgjbhcnadenojaa
open Go.RowKit Go.BigFrame Go.Maps

def Op3.cells (o : Op3) : List Value := [.int .i64 o.ad, .bool o.st, .int .u64 o.va]
/-- A block, and where its accesses lie. -/
structure BkV where
  b : Bk
  a : Option Addr
  c : Nat
def BkV.cells (x : BkV) : List Value := [.int .i64 x.b.co, .int .i64 x.b.la, .slice x.a x.b.ops.length x.c, .bool x.b.ab]
def BksIn (w : World) (a : Option Addr) (xs : List BkV) : Prop := RowsIn w a 4 BkV.cells xs ∧ ∀ x ∈ xs, RowsIn w x.a 3 Op3.cells x.b.ops
theorem BksIn.below {w w' : World} {a : Option Addr} {xs : List BkV} (h : BksIn w a xs) (hb : Below w.heap.size w w') : BksIn w' a xs := ⟨h.1.below hb, fun x hx => (h.2 x hx).below hb⟩
def manyL (pre : List Bk) : List Value := [.int .i64 (cnt pre 0), .int .i64 (cnt pre 1), .int .i64 (cnt pre 2), .int .i64 (cnt pre 3)]
theorem manyL_at (pre : List Bk) {c : Int} (h : 0 ≤ c ∧ c < 4) : (manyL pre)[c.toNat]? = some (.int .i64 (cnt pre c)) := by
  rcases (by omega : c = 0 ∨ c = 1 ∨ c = 2 ∨ c = 3) with rfl | rfl | rfl | rfl <;> rfl
theorem manyL_next (pre : List Bk) {b : Bk} (h : 0 ≤ b.co ∧ b.co < 4) : (manyL pre).set b.co.toNat (.int .i64 (cnt pre b.co + 1)) = manyL (pre ++ [b]) := by
  unfold manyL
  rw [cnt_snoc, cnt_snoc, cnt_snoc, cnt_snoc]
  rcases (by omega : b.co = 0 ∨ b.co = 1 ∨ b.co = 2 ∨ b.co = 3) with e | e | e | e <;> simp [e]
theorem cnt_le (pre : List Bk) (c : Int) : cnt pre c ≤ pre.length := by unfold cnt; have := List.length_filter_le (fun b : Bk => b.co == c) pre; omega
/-- What is known between two blocks. -/
structure SEs (w W : World) (lo g cap bm : Nat) (words0 : List Int) (bs : List Bk) (hv : Value) : Prop where
  row : W.ownsRow w.heap.size 61 9 hv (serH [] words0 bs).length (flatE (serH [] words0 bs))
  many : Holds W bm 100 (manyL bs)
  words : W.ownsRow lo 46 1 (.slice (some ⟨g, 0, none⟩) words0.length cap) words0.length ((serW words0 bs).map (.int .u64))
  tch : Tch (fun x => x = g) w W

theorem SEs.idle {w W W' : World} {lo g cap bm : Nat} {words0 : List Int} {bs : List Bk} {hv : Value} (h : SEs w W lo g cap bm words0 bs hv) (hb : Below W.heap.size W W') : SEs w W' lo g cap bm words0 bs hv :=
  ⟨owns_same h.row (fun g' e => hb.block g' (owns_lt h.row e).2), (hb.block bm h.many.lt).trans h.many, owns_same h.words (fun g' e => hb.block g' (owns_lt h.words e).2), h.tch.trans (Tch.of_idle hb)⟩

theorem serH_len : ∀ (l pre : List Bk) (words : List Int), (∀ b ∈ l, b.ops.length ≤ 40) → (serH pre words l).length ≤ 43 * l.length
  | [], _, _, _ => by simp [serH]
  | b :: r, pre, words, h => by
    have := serH_len r (pre ++ [b]) (blockW b words) (fun b' h' => h b' (List.mem_cons_of_mem _ h'))
    have hb := h b (List.mem_cons_self ..)
    simp only [serH, List.length_append, blockE_len, List.length_cons]
    omega
/-- What is known within a block. -/
structure SEr (w W : World) (lo g cap N : Nat) (hs : List Ev) (ml : List Bk) (ws : List Int) (hv : Value) (b9 b10 : Nat) (bc ec : List Value) : Prop where
  row : W.ownsRow w.heap.size 61 9 hv hs.length (flatE hs)
  many : Holds W w.heap.size 100 (manyL ml)
  words : W.ownsRow lo 46 1 (.slice (some ⟨g, 0, none⟩) N cap) N (ws.map (.int .u64))
  tch : Tch (fun x => x = g) w W
  blk : Holds W b9 103 bc
  evb : Holds W b10 61 ec
  sep : ∀ x, hv.ownBlock = some x → x ≠ b10
  b10w : w.heap.size < b10
theorem SEr.idle {w W W' : World} {lo g cap N : Nat} {hs : List Ev} {ml : List Bk} {ws : List Int} {hv : Value} {b9 b10 : Nat} {bc ec : List Value} (h : SEr w W lo g cap N hs ml ws hv b9 b10 bc ec) (hb : Below W.heap.size W W') : SEr w W' lo g cap N hs ml ws hv b9 b10 bc ec :=
  ⟨owns_same h.row (fun g' e => hb.block g' (owns_lt h.row e).2), (hb.block _ h.many.lt).trans h.many, owns_same h.words (fun g' e => hb.block g' (owns_lt h.words e).2), h.tch.trans (Tch.of_idle hb), (hb.block _ h.blk.lt).trans h.blk, (hb.block _ h.evb.lt).trans h.evb, h.sep, h.b10w⟩
/-- An event is put behind. -/
theorem SEr.push {w W W' : World} {lo g cap N : Nat} {hs : List Ev} {ml : List Bk} {ws : List Int} {hv hv' : Value} {b9 b10 : Nat} {bc ec : List Value} (h : SEr w W lo g cap N hs ml ws hv b9 b10 bc ec) {e : Ev} (ho : W'.ownsRow w.heap.size 61 9 hv' (hs.length + 1) (flatE hs ++ e.cells)) {V : World} (hV : Below W.heap.size W V) (hg : V.grownBy W' hv.ownBlock) (hat : hv'.ownBlock = hv.ownBlock ∨ hv'.ownBlock = some V.heap.size) (hgl : g < w.heap.size) : SEr w W' lo g cap N (hs ++ [e]) ml ws hv' b9 b10 bc ec := by
  have hT : Tch (fun x => hv.ownBlock = some x) W W' := (Tch.of_idle hV).grown hg (fun k e => .inl e)
  have hne : ∀ (b : Nat) (t : TypeId) (L : List Value), t ≠ 61 → Holds W b t L → Holds W' b t L := fun b t L ht hh => hT.holds (fun e => by
    obtain ⟨c, hc⟩ := owns_kind h.row e
    unfold Holds at hh; rw [hc] at hh
    simp only [Option.some.injEq, Obj.cells.injEq] at hh
    exact ht hh.2.1.symm) hh
  refine ⟨?_, hne _ _ _ (by decide) h.many, owns_same h.words (fun g' e => hT.block g' (owns_lt h.words e).2 (fun e2 => ?_)), ⟨hT.os.trans h.tch.os, hT.tape.trans h.tch.tape, hT.output.trans h.tch.output, Nat.le_trans h.tch.size hT.size, fun k hk hc => (hT.block k (Nat.lt_of_lt_of_le hk h.tch.size) (fun e => by have := (owns_lt h.row e).1; omega)).trans (h.tch.block k hk hc)⟩, hne _ _ _ (by decide) h.blk, hT.holds (fun e2 => h.sep _ e2 rfl) h.evb, fun x hx => ?_, h.b10w⟩
  · rw [flatE_append, List.length_append, List.length_singleton]
    simpa [flatE] using ho
  · obtain ⟨c, hc⟩ := owns_kind h.row e2
    obtain ⟨c2, hc2⟩ := owns_kind h.words e
    rw [hc] at hc2; cases hc2
  · rcases hat with h1 | h1
    · exact h.sep x (h1 ▸ hx)
    · rw [h1] at hx; cases hx
      have := h.evb.lt; have := hV.size; omega

/-! ### Rows of words -/
theorem owns_putU {w : World} {lo : Nat} {e : TypeId} {g n cap : Nat} {xs : List Value} (h : w.ownsRow lo e 1 (.slice (some ⟨g, 0, none⟩) n cap) n xs) (k : Nat) (u : Value) :
    (w.setCell ⟨g, k, none⟩ u).ownsRow lo e 1 (.slice (some ⟨g, 0, none⟩) n cap) n (xs.set k u) := by
  obtain ⟨h1, h2⟩ := h
  refine ⟨by rw [List.length_set]; exact h1, ?_⟩
  rcases h2 with ⟨h, _⟩ | ⟨g', cap', cur, hv, h3, h4, h5, h6, h7, h8⟩
  · cases h
  · cases hv
    refine .inr ⟨g, cap, cur.setIfInBounds k u, rfl, h3, ?_, h5, h6, by simpa using h7, ?_⟩
    · simp only [World.setCell, Array.getElem?_modify, if_true, h4, Option.map_some]
      simp
    · rw [← h8, Array.toList_setIfInBounds, List.take_set]
theorem ownsU_zero (w : World) : (w.alloc (.cells #[] 46)).ownsRow w.heap.size 46 1 (.slice (some ⟨w.heap.size, 0, none⟩) 0 0) 0 [] :=
  ⟨rfl, .inr ⟨w.heap.size, 0, #[], rfl, Nat.le_refl _, new_block w _, Nat.le_refl _, by unfold maxLen; omega, rfl, rfl⟩⟩
theorem wpList_copy_words {w : World} {ops : Array Oper} {rest : List Oper} {o : Oper} {a : Act} {Q : Exit → Act → World → Prop} (hgd : o.guard = none) (d s : Operand) (ho : o.op = .call { callee := .builtin .copy, args := #[d, s], argTypes := #[51, 51] })
    {lo g cap n lo2 g2 cap2 : Nat} {xs cs : List Value} (hd : a.eval d = .slice (some ⟨g, 0, none⟩) n cap) (hown : w.ownsRow lo 46 1 (.slice (some ⟨g, 0, none⟩) n cap) n xs) (hs : a.eval s = .slice (some ⟨g2, 0, none⟩) n cap2) (hown2 : w.ownsRow lo2 46 1 (.slice (some ⟨g2, 0, none⟩) n cap2) n cs) (h1 : ∀ v ∈ cs, v.oneCell' = true)
    (h : ∀ w', w'.ownsRow lo 46 1 (.slice (some ⟨g, 0, none⟩) n cap) n cs → Tch (fun x => x = g) w w' → wpList Try.prog ops Q rest (a.put o.dst (goInt n)) w') : wpList Try.prog ops Q (o :: rest) a w := by
  have hsz : (Try.prog.info? 46).map (·.size) = some 1 := by kernel_rfl
  have hcl : cs.length = n := by have := hown2.1; omega
  by_cases h0 : n = 0
  · subst h0
    obtain rfl : cs = [] := List.eq_nil_of_length_eq_zero hcl
    have hx : xs = [] := List.eq_nil_of_length_eq_zero (by have := hown.1; omega)
    subst hx
    exact wpList_copy_nothing hgd d s _ _ ho _ Try.underlying51 hsz _ _ 0 cap 0 cap2 hd hs rfl (h w hown (Tch.refl _ w))
  · rcases hown with ⟨hx, ⟨e, _⟩ | ⟨g', cap', cur, e, h3, h4, h5, h6, h7, h8⟩⟩
    · cases e
    cases e
    have hcs : cur.size = cap := by omega
    refine wpList_copy_own hgd d s _ _ ho _ Try.underlying51 hsz g 0 n cap ⟨g2, 0, none⟩ n cap2 hd hs cur 46 h4 cs (by rw [hcl]; simp) (World.ownsRow.cells hown2 rfl) (by rw [hcl]; omega) h1 ?_
    rw [hcl]
    refine h _ ⟨by omega, .inr ⟨g, cap, _, rfl, h3, setRow_heap w g _ _ _ _ h4, h5, h6, ?_, ?_⟩⟩ ⟨rfl, rfl, rfl, by simp [World.setRow], fun k _ hc => setRow_other w g k _ hc⟩
    · simp [hcl]; omega
    · simp [hcl]

/-! ### Within a block, behind its begin -/
structure SEo (w W : World) (lo g cap N : Nat) (hs : List Ev) (ml : List Bk) (ws : List Int) (hv : Value) (b9 b10 : Nat) (bc ec : List Value) (B g2 cap2 : Nat) (ow : List Int) : Prop where
  r : SEr w W lo g cap N hs ml ws hv b9 b10 bc ec
  own : W.ownsRow B 46 1 (.slice (some ⟨g2, 0, none⟩) N cap2) N (ow.map (.int .u64))
  hB : w.heap.size ≤ B
theorem SEo.idle {w W W' : World} {lo g cap N : Nat} {hs : List Ev} {ml : List Bk} {ws : List Int} {hv : Value} {b9 b10 : Nat} {bc ec : List Value} {B g2 cap2 : Nat} {ow : List Int} (h : SEo w W lo g cap N hs ml ws hv b9 b10 bc ec B g2 cap2 ow) (hb : Below W.heap.size W W') : SEo w W' lo g cap N hs ml ws hv b9 b10 bc ec B g2 cap2 ow :=
  ⟨h.r.idle hb, owns_same h.own (fun g' e => hb.block g' (owns_lt h.own e).2), h.hB⟩
theorem SEo.push {w W W' : World} {lo g cap N : Nat} {hs : List Ev} {ml : List Bk} {ws : List Int} {hv hv' : Value} {b9 b10 : Nat} {bc ec : List Value} {B g2 cap2 : Nat} {ow : List Int} (h : SEo w W lo g cap N hs ml ws hv b9 b10 bc ec B g2 cap2 ow) {e : Ev} (ho : W'.ownsRow w.heap.size 61 9 hv' (hs.length + 1) (flatE hs ++ e.cells)) {V : World} (hV : Below W.heap.size W V) (hg : V.grownBy W' hv.ownBlock) (hat : hv'.ownBlock = hv.ownBlock ∨ hv'.ownBlock = some V.heap.size) (hgl : g < w.heap.size) : SEo w W' lo g cap N (hs ++ [e]) ml ws hv' b9 b10 bc ec B g2 cap2 ow := by
  have hT : Tch (fun x => hv.ownBlock = some x) W W' := (Tch.of_idle hV).grown hg (fun k e => .inl e)
  refine ⟨h.r.push ho hV hg hat hgl, owns_same h.own (fun g' e => hT.block g' (owns_lt h.own e).2 (fun e2 => ?_)), h.hB⟩
  obtain ⟨c, hc⟩ := owns_kind h.r.row e2
  obtain ⟨c2, hc2⟩ := owns_kind h.own e
  rw [hc] at hc2; cases hc2
theorem SEo.put {w W : World} {lo g cap N : Nat} {hs : List Ev} {ml : List Bk} {ws : List Int} {hv : Value} {b9 b10 : Nat} {bc ec : List Value} {B g2 cap2 : Nat} {ow : List Int} (h : SEo w W lo g cap N hs ml ws hv b9 b10 bc ec B g2 cap2 ow) (k : Nat) (v : Int) (hgl : g < w.heap.size) : SEo w (W.setCell ⟨g2, k, none⟩ (.int .u64 v)) lo g cap N hs ml ws hv b9 b10 bc ec B g2 cap2 (ow.set k v) := by
  have h2 := owns_lt h.own (g := g2) rfl
  have hT : Tch (fun x => x = g2) W (W.setCell ⟨g2, k, none⟩ (.int .u64 v)) := Tch.setCell (C := fun x => x = g2) (Tch.refl _ W) (p := ⟨g2, k, none⟩) (.inl rfl) _
  have hnt : ∀ (t : TypeId) (b : Nat), t ≠ 46 → (∃ cs : Array Value, W.heap[b]? = some (Obj.cells cs t (0, 0))) → b ≠ g2 := fun t b ht hb e => by
    subst e
    obtain ⟨cs, hcs⟩ := hb
    obtain ⟨c, hc⟩ := owns_kind h.own (k := b) rfl
    rw [hcs] at hc
    simp only [Option.some.injEq, Obj.cells.injEq] at hc
    exact ht hc.2.1
  have hB := h.hB
  have hr := h.r
  refine ⟨⟨owns_same hr.row (fun g' e => hT.block g' (owns_lt hr.row e).2 (hnt _ _ (by decide) (owns_kind hr.row e))), hT.holds (hnt _ _ (by decide) ⟨_, hr.many⟩) hr.many,
    owns_same hr.words (fun g' e => hT.block g' (owns_lt hr.words e).2 (by cases e; show ¬ g = g2; omega)),
    ⟨hr.tch.os, hr.tch.tape, hr.tch.output, Nat.le_trans hr.tch.size hT.size, fun k hk hc => (hT.block k (Nat.lt_of_lt_of_le hk hr.tch.size) (by omega)).trans (hr.tch.block k hk hc)⟩,
    hT.holds (hnt _ _ (by decide) ⟨_, hr.blk⟩) hr.blk, hT.holds (hnt _ _ (by decide) ⟨_, hr.evb⟩) hr.evb, hr.sep, hr.b10w⟩, ?_, hB⟩
  rw [List.map_set]
  exact owns_putU h.own k _
/-- Memory is written anew. -/
theorem SEo.copied {w W W' : World} {lo g cap N : Nat} {hs : List Ev} {ml : List Bk} {ws ws' : List Int} {hv : Value} {b9 b10 : Nat} {bc ec : List Value} {B g2 cap2 : Nat} {ow : List Int} (h : SEo w W lo g cap N hs ml ws hv b9 b10 bc ec B g2 cap2 ow) (ho : W'.ownsRow lo 46 1 (.slice (some ⟨g, 0, none⟩) N cap) N (ws'.map (.int .u64))) (hT : Tch (fun x => x = g) W W') (hgl : g < w.heap.size) : SEo w W' lo g cap N hs ml ws' hv b9 b10 bc ec B g2 cap2 ow := by
  have hB := h.hB
  have hr := h.r
  have hbw := hr.b10w
  have hnt : ∀ (t : TypeId) (b : Nat), t ≠ 46 → (∃ cs : Array Value, W.heap[b]? = some (Obj.cells cs t (0, 0))) → b ≠ g := fun t b ht hb e => by
    subst e
    obtain ⟨cs, hcs⟩ := hb
    obtain ⟨c, hc⟩ := owns_kind hr.words (k := b) rfl
    rw [hcs] at hc
    simp only [Option.some.injEq, Obj.cells.injEq] at hc
    exact ht hc.2.1
  exact ⟨⟨owns_same hr.row (fun g' e => hT.block g' (owns_lt hr.row e).2 (hnt _ _ (by decide) (owns_kind hr.row e))), hT.holds (hnt _ _ (by decide) ⟨_, hr.many⟩) hr.many, ho, hr.tch.trans (hT.mono (fun _ _ e => e)),
    hT.holds (hnt _ _ (by decide) ⟨_, hr.blk⟩) hr.blk, hT.holds (hnt _ _ (by decide) ⟨_, hr.evb⟩) hr.evb, hr.sep, hbw⟩, owns_same h.own (fun g' e => hT.block g' (owns_lt h.own e).2 (by have := (owns_lt h.own e).1; omega)), hB⟩
theorem new_blockB (w : World) (o o2 : Obj) : ((w.alloc o).alloc o2).heap[w.heap.size + 1]? = some o2 := by
  have := new_block (w.alloc o) o2
  rwa [show (w.alloc o).heap.size = w.heap.size + 1 from by simp] at this
theorem new_blockC (w : World) (p : Addr) (v : Value) (o o2 : Obj) : (((w.setCell p v).alloc o).alloc o2).heap[w.heap.size + 1]? = some o2 := by
  have := new_blockB (w.setCell p v) o o2
  rwa [show (w.setCell p v).heap.size = w.heap.size from by simp] at this
theorem wordU_one (l : List Int) : ∀ v ∈ l.map (Value.int .u64), v.oneCell' = true := by
  intro v hv
  obtain ⟨x, _, rfl⟩ := List.mem_map.1 hv
  rfl
/-- Another box takes the event's place. -/
theorem SEo.swap {w W W' : World} {lo g cap N : Nat} {hs : List Ev} {ml : List Bk} {ws : List Int} {hv : Value} {b9 b10 : Nat} {bc ec : List Value} {B g2 cap2 : Nat} {ow : List Int} (h : SEo w W lo g cap N hs ml ws hv b9 b10 bc ec B g2 cap2 ow) (hb : Below W.heap.size W W') {b : Nat} {ec' : List Value} (hh : Holds W' b 61 ec') (hw : W.heap.size ≤ b) : SEo w W' lo g cap N hs ml ws hv b9 b bc ec' B g2 cap2 ow := by
  have h2 := h.idle hb
  have h3 := h.r.evb.lt
  have h4 := h.r.b10w
  exact ⟨⟨h2.r.row, h2.r.many, h2.r.words, h2.r.tch, h2.r.blk, hh, fun x hx => by have := (owns_lt h.r.row hx).2; omega, by omega⟩, h2.own, h2.hB⟩
/-- A cell of the event turns. -/
theorem SEo.setEv {w W : World} {lo g cap N : Nat} {hs : List Ev} {ml : List Bk} {ws : List Int} {hv : Value} {b9 b10 : Nat} {bc ec : List Value} {B g2 cap2 : Nat} {ow : List Int} (h : SEo w W lo g cap N hs ml ws hv b9 b10 bc ec B g2 cap2 ow) (i : Nat) (v : Value) (hgl : g < w.heap.size) : SEo w (W.setCell ⟨b10, i, none⟩ v) lo g cap N hs ml ws hv b9 b10 bc (ec.set i v) B g2 cap2 ow := by
  have hT : Tch (fun x => x = b10) W (W.setCell ⟨b10, i, none⟩ v) := Tch.setCell (C := fun x => x = b10) (Tch.refl _ W) (p := ⟨b10, i, none⟩) (.inl rfl) _
  have hr := h.r
  have hbw := hr.b10w
  have hnt : ∀ (t : TypeId) (b : Nat), t ≠ 61 → (∃ cs : Array Value, W.heap[b]? = some (Obj.cells cs t (0, 0))) → b ≠ b10 := fun t b ht hb e => by
    subst e
    obtain ⟨cs, hcs⟩ := hb
    have hc := hr.evb
    unfold Holds at hc
    rw [hcs] at hc
    simp only [Option.some.injEq, Obj.cells.injEq] at hc
    exact ht hc.2.1
  exact ⟨⟨owns_same hr.row (fun g' e => hT.block g' (owns_lt hr.row e).2 (hr.sep g' e)), hT.holds (hnt _ _ (by decide) ⟨_, hr.many⟩) hr.many, owns_same hr.words (fun g' e => hT.block g' (owns_lt hr.words e).2 (hnt _ _ (by decide) (owns_kind hr.words e))),
    ⟨hr.tch.os, hr.tch.tape, hr.tch.output, Nat.le_trans hr.tch.size hT.size, fun k hk hc => (hT.block k (Nat.lt_of_lt_of_le hk hr.tch.size) (by omega)).trans (hr.tch.block k hk hc)⟩,
    hT.holds (hnt _ _ (by decide) ⟨_, hr.blk⟩) hr.blk, hr.evb.set i v, hr.sep, hbw⟩, owns_same h.own (fun g' e => hT.block g' (owns_lt h.own e).2 (hnt _ _ (by decide) (owns_kind h.own e))), h.hB⟩
theorem SEo.leave {w W : World} {lo g cap N : Nat} {hs : List Ev} {ml : List Bk} {ws words0 : List Int} {bs : List Bk} {hv : Value} {b9 b10 : Nat} {bc ec : List Value} {B g2 cap2 : Nat} {ow : List Int} (h : SEo w W lo g cap N hs ml ws hv b9 b10 bc ec B g2 cap2 ow) (h1 : ml = bs) (h2 : hs = serH [] words0 bs) (h3 : ws = serW words0 bs) (h4 : N = words0.length) : SEs w W lo g cap w.heap.size words0 bs hv := by
  subst h1 h2 h3 h4
  exact ⟨h.r.row, h.r.many, h.r.words, h.r.tch⟩
theorem serH_next (pre : List Bk) (words : List Int) (b : Bk) {W0 : List Int} {n : Int} {hs0 : List Ev} (hn : cnt pre b.co = n) (hw : serW words pre = W0) (hh : serH [] words pre ++ [who b n 1 0 0 0] = hs0) : ((hs0 ++ evsL b n W0 b.ops) ++ [endP b n]) ++ [endC b n] = serH [] words (pre ++ [b]) := by
  rw [serH_snoc, List.nil_append, hn, hw, ← hh]
  simp [blockE, bodyE]

end Go.Proofs.Ytgjbhcnadenojaa
