/- The iterator of a cache's entries. Conditions: those stated in each theorem. -/
import Derived.Test.YtddajnpichchfaaToGo
namespace Go.Proofs.Ytddajnpichchfaa
open Go.RowKit Go.Shelf
attribute [local go_sem] Oper.semAt_some
attribute [local simp] wide_fn

set_option maxHeartbeats 400000 in
theorem all_any (p : Nat) (w : World) : Calls Try.prog 52 #[.pointer (some ⟨p, 0, none⟩)] w fun e w' => e = .returned (.func (.func 79) #[] #[.pointer (some ⟨w.heap.size, 0, none⟩)]) ∧ w' = w.alloc (.cells #[.pointer (some ⟨p, 0, none⟩)] 23) := by
  go_enter Try.func52, Try.ntmps52
  go_wp2
  go_ret
  exact ⟨rfl, rfl⟩

/-- Is there an entry in that way? -/
def valid (ss : List (List Ent)) (i j : Nat) : Bool := ((ss.getD i []).getD j Ent.zero).state != 0
/-- The entries of one set, and of all. -/
def entsOf (ss : List (List Ent)) (ways i : Nat) : List (Nat × Nat) := ((List.range ways).filter (valid ss i)).map fun j => (i, j)
def entsAll (ss : List (List Ent)) (ways n : Nat) : List (Nat × Nat) := (List.range n).flatMap (entsOf ss ways)

/-- What each round over a cache's entries keeps. -/
structure AllKp (p S Bc : Nat) (bs : List Nat) (ways n1 : Nat) (W W' : World) : Prop where
  size : W.heap.size ≤ W'.heap.size
  fix : ∀ k, k = p ∨ k = S ∨ k = Bc → W'.heap[k]? = W.heap[k]?
  recs : ∀ k o, n1 ≤ k → W.heap[k]? = some o → o.isCells = false → W'.heap[k]? = some o
  box27 : ∀ k, n1 ≤ k → ∀ v, Holds W k 27 [v] → Holds W' k 27 [v]
  box95 : ∀ k v, n1 ≤ k → Holds W k 139 [v] → Holds W' k 139 [v]
  states : ∀ b ∈ bs, ∀ j, j < ways → W'.cell? ⟨b, j * 21 + 1, none⟩ = W.cell? ⟨b, j * 21 + 1, none⟩

theorem AllKp.trans {p S Bc : Nat} {bs : List Nat} {ways n1 : Nat} {X Y Z : World} (h : AllKp p S Bc bs ways n1 X Y) (k : AllKp p S Bc bs ways n1 Y Z) : AllKp p S Bc bs ways n1 X Z :=
  ⟨Nat.le_trans h.size k.size, fun i hi => (k.fix i hi).trans (h.fix i hi), fun i o a b c => k.recs i o a (h.recs i o a b c) c, fun i a v b => k.box27 i a v (h.box27 i a v b), fun i v a b => k.box95 i v a (h.box95 i v a b),
    fun b hb j hj => (k.states b hb j hj).trans (h.states b hb j hj)⟩

/-- A record below n1, none of the cache's blocks, may turn. -/
theorem allKp_b {p S Bc l : Nat} {bs : List Nat} {ways n1 : Nat} (hl : l < n1) (hp : l ≠ p) (hS : l ≠ S) (hB : l ≠ Bc) (hb : l ∉ bs) (W : World) (o o' : Loop) (_ : W.heap[l]? = some (.loop o)) : AllKp p S Bc bs ways n1 W (W.putObj l (.loop o')) :=
  ⟨by simp, fun k hk => World.putObj_heap_other (by rcases hk with rfl | rfl | rfl <;> exact Ne.symm ‹_›), fun k o a b _ => (World.putObj_heap_other (by omega)).trans b,
    fun k a v b => (World.putObj_heap_other (by omega)).trans b, fun k v a b => (World.putObj_heap_other (by omega)).trans b,
    fun b hb' j _ => World.cell?_of_block (World.putObj_heap_other (fun e => hb (e ▸ hb')))⟩

theorem AllKp.refl (p S Bc : Nat) (bs : List Nat) (ways n1 : Nat) (W : World) : AllKp p S Bc bs ways n1 W W := ⟨Nat.le_refl _, fun _ _ => rfl, fun _ _ _ h _ => h, fun _ _ _ h => h, fun _ _ _ h => h, fun _ _ _ _ => rfl⟩

/-- What the iterator itself stands on. -/
structure AllSt (p S Bc By l : Nat) (bs : List Nat) (ways : Nat) (ss : List (List Ent)) (u : Value) (W : World) : Prop where
  head : Holds W p 87 [.slice (some ⟨S, 0, none⟩) bs.length bs.length, u]
  sets : Holds W S 27 (bs.map fun b => .slice (some ⟨b, 0, none⟩) ways ways)
  self : Holds W Bc 23 [.pointer (some ⟨p, 0, none⟩)]
  yield : Holds W By 139 [.func (.yield l) #[] #[]]
  states : ∀ i b j, bs[i]? = some b → j < ways → W.cell? ⟨b, j * 21 + 1, none⟩ = some (.int .i64 ((ss.getD i []).getD j Ent.zero).state)

theorem AllSt.kept {p S Bc By l : Nat} {bs : List Nat} {ways n1 : Nat} {ss : List (List Ent)} {u : Value} {W W' : World} (h : AllSt p S Bc By l bs ways ss u W) (k : AllKp p S Bc bs ways n1 W W') (hn : n1 ≤ By) : AllSt p S Bc By l bs ways ss u W' :=
  ⟨h.head.same (k.fix _ (.inl rfl)), h.sets.same (k.fix _ (.inr (.inl rfl))), h.self.same (k.fix _ (.inr (.inr rfl))), k.box95 _ _ hn h.yield, fun i b j hb hj => (k.states b (List.mem_of_getElem? hb) j hj).trans (h.states i b j hb hj)⟩
theorem AllSt.own {β : Type} {p S Bc By l : Nat} {bs : List Nat} {ways : Nat} {ss : List (List Ent)} {u : Value} (B : Nat) : OwnFrom B (fun (_ : β) W => AllSt p S Bc By l bs ways ss u W) := fun s X Y row hs hg hr =>
  ⟨ownFrom_holds B p _ (fun _ : β => _) s X Y row hs.head hg hr, ownFrom_holds B S _ (fun _ : β => _) s X Y row hs.sets hg hr, ownFrom_holds B Bc _ (fun _ : β => _) s X Y row hs.self hg hr, ownFrom_holds B By _ (fun _ : β => _) s X Y row hs.yield hg hr,
    fun i b j hb hj => cell_kept (hs.states i b j hb hj) hg (fun r e => (hr r e).2)⟩
theorem AllSt.tch {p S Bc By l : Nat} {bs : List Nat} {ways : Nat} {ss : List (List Ent)} {u : Value} {W W' : World} (h : AllSt p S Bc By l bs ways ss u W) (k : Tch (fun _ => False) W W') : AllSt p S Bc By l bs ways ss u W' :=
  ⟨k.holds (fun h => h) h.head, k.holds (fun h => h) h.sets, k.holds (fun h => h) h.self, k.holds (fun h => h) h.yield, fun i b j hb hj => by
    have hc := h.states i b j hb hj
    rw [World.cell?_of_block (k.block b (World.block_lt_of_cell? _ _ hc) (fun h => h))]; exact hc⟩

/-- The marks that a function has by then. -/
def Marks (ms : List Nat) (W : World) : Prop := (∀ D ∈ ms, W.heap[D]? = some (.deferred (some []))) ∧ ms.Nodup
theorem marks_own {β : Type} {ms : List Nat} {B : Nat} (hB : ∀ D ∈ ms, D < B) : OwnFrom B (fun (_ : β) W => Marks ms W) := fun _ _ _ _ hs hg hr => ⟨fun D hD => kept_rec hg hr (hB D hD) (hs.1 D hD), hs.2⟩
theorem Marks.kept {ms : List Nat} {p S Bc : Nat} {bs : List Nat} {ways n1 : Nat} {W W' : World} (h : Marks ms W) (k : AllKp p S Bc bs ways n1 W W') (hn : ∀ D ∈ ms, n1 ≤ D) : Marks ms W' := ⟨fun D hD => k.recs D _ (hn D hD) (h.1 D hD) rfl, h.2⟩
theorem Marks.tch {ms : List Nat} {W W' : World} (h : Marks ms W) (k : Tch (fun _ => False) W W') : Marks ms W' := ⟨fun D hD => (k.block D (Array.getElem?_eq_some_iff.1 (h.1 D hD)).1 (fun h => h)).trans (h.1 D hD), h.2⟩

theorem entsAll_succ (ss : List (List Ent)) (ways k : Nat) : entsAll ss ways (k + 1) = entsAll ss ways k ++ entsOf ss ways k := by simp [entsAll, List.range_succ]
/-- Those of set k that stand ahead of way y. -/
def entsTo (ss : List (List Ent)) (ways k : Nat) (pre : List Nat) : List (Nat × Nat) := entsAll ss ways k ++ (pre.filter (valid ss k)).map fun j => (k, j)
theorem entsTo_no {ss : List (List Ent)} {ways k y : Nat} (pre : List Nat) (h : valid ss k y = false) : entsTo ss ways k (pre ++ [y]) = entsTo ss ways k pre := by simp [entsTo, h]
theorem entsTo_yes {ss : List (List Ent)} {ways k y : Nat} (pre : List Nat) (h : valid ss k y = true) : entsTo ss ways k (pre ++ [y]) = entsTo ss ways k pre ++ [(k, y)] := by simp [entsTo, h]
theorem entsTo_nil (ss : List (List Ent)) (ways k : Nat) : entsTo ss ways k [] = entsAll ss ways k := by simp [entsTo]
theorem entsTo_all (ss : List (List Ent)) (ways k : Nat) : entsTo ss ways k (List.range ways) = entsAll ss ways (k + 1) := by rw [entsAll_succ]; rfl
theorem entsAll_pre (ss : List (List Ent)) (ways : Nat) {k n : Nat} (h : k ≤ n) : entsAll ss ways k <+: entsAll ss ways n := by
  induction n with
  | zero => obtain rfl : k = 0 := by omega
            exact List.prefix_refl _
  | succ n ih =>
    by_cases e : k = n + 1
    · subst e; exact List.prefix_refl _
    · rw [entsAll_succ]; exact (ih (by omega)).trans (List.prefix_append _ _)
theorem ents_here {ss : List (List Ent)} {ways k y n : Nat} (hk : k < n) (hy : y < ways) (h : valid ss k y = true) : ∃ rest, entsAll ss ways n = entsTo ss ways k (List.range y) ++ (k, y) :: rest := by
  obtain ⟨t, ht⟩ := entsAll_pre ss ways (show k + 1 ≤ n from hk)
  rw [← entsTo_all, range_split hy] at ht
  refine ⟨((List.range' (y + 1) (ways - y - 1)).filter (valid ss k)).map (fun j => (k, j)) ++ t, ?_⟩
  rw [← ht]
  simp [entsTo, h]

/-- Between two rounds of the loop over the sets. -/
structure AllI (J : List (Nat × Nat) → World → Prop) (p S Bc By l n1 : Nat) (bs : List Nat) (ways : Nat) (ss : List (List Ent)) (u : Value) (k : Nat) (ms : List Nat) (V : World) : Prop where
  upto : k ≤ bs.length
  told : J (entsAll ss ways k) V
  st : AllSt p S Bc By l bs ways ss u V
  marks : Marks ms V
  low : ∀ D ∈ ms, By < D ∧ D < V.heap.size
  by_ : By < V.heap.size

/-- Between two rounds over the ways of set k. -/
def AllI2 (J : List (Nat × Nat) → World → Prop) (p S Bc By l : Nat) (bs : List Nat) (ways : Nat) (ss : List (List Ent)) (u : Value) (k : Nat) (ms : List Nat) (pre : List Nat) (X : World) : Prop :=
  (J (entsTo ss ways k pre) X ∧ AllSt p S Bc By l bs ways ss u X) ∧ Marks ms X
def AllX2 (Jx : List (Nat × Nat) → World → Prop) (ms : List Nat) (xs : List (Nat × Nat)) (c : Code) (_ : List Nat) (X : World) : Prop := ((∃ q, q <+: xs ∧ Jx q X) ∧ Marks ms X) ∧ c = .ret

set_option maxRecDepth 100000 in
set_option maxHeartbeats 2000000 in
theorem all1_each (l p S Bc n1 ways : Nat) (bs : List Nat) (ss : List (List Ent)) (u : Value) (w : World) (hn1 : n1 ≤ l + 1) (hw4 : ways ≤ 4) (hb0 : 0 < bs.length) (hb8 : bs.length ≤ 8)
    (head : Holds w p 87 [.slice (some ⟨S, 0, none⟩) bs.length bs.length, u]) (sets : Holds w S 27 (bs.map fun b => .slice (some ⟨b, 0, none⟩) ways ways)) (self : Holds w Bc 23 [.pointer (some ⟨p, 0, none⟩)])
    (states : ∀ i b j, bs[i]? = some b → j < ways → w.cell? ⟨b, j * 21 + 1, none⟩ = some (.int .i64 ((ss.getD i []).getD j Ent.zero).state)) :
    SeqEach Fence.wide Try.prog 79 #[.pointer (some ⟨Bc, 0, none⟩)] (fun x : Nat × Nat => #[.pointer (some ⟨bs.getD x.1 0, x.2 * 21, none⟩)]) (AllKp p S Bc bs ways n1) (entsAll ss ways bs.length) w l := by
  intro m J Jx W hW hlW hJ hJx hY h0
  have hst : AllSt p S Bc W.heap.size l bs ways ss u (W.alloc (.cells #[.func (.yield l) #[] #[]] 139)) :=
    ⟨(head.same (hW.block _ head.lt)).alloc _, (sets.same (hW.block _ sets.lt)).alloc _, (self.same (hW.block _ self.lt)).alloc _, Holds.new W 139 [.func (.yield l) #[] #[]], fun i b j hb hj => by
      have hc := states i b j hb hj
      have hlt := World.block_lt_of_cell? _ _ hc
      rw [World.cell?_alloc_lt _ _ ⟨b, j * 21 + 1, none⟩ (Nat.lt_of_lt_of_le hlt hW.size), hW.cell (p := ⟨b, j * 21 + 1, none⟩) hlt]; exact hc⟩
  have hsz := hW.size
  have hJ1 : J [] (W.alloc (.cells #[.func (.yield l) #[] #[]] 139)) := hJ.alloc _ h0
  have hs1 : (W.alloc (.cells #[.func (.yield l) #[] #[]] 139)).heap.size = W.heap.size + 1 := by simp
  have self2 := self.same (hW.block _ self.lt)
  have head2 := head.same (hW.block _ head.lt)
  have hc1 : W.cell? ⟨Bc, 0, none⟩ = some (.pointer (some ⟨p, 0, none⟩)) := self2.cell (i := 0) rfl
  have hc2 : W.cell? ⟨p, 0, none⟩ = some (.slice (some ⟨S, 0, none⟩) bs.length bs.length) := head2.cell (i := 0) rfl
  have hl1 := self2.lt
  have hl2 := head2.lt
  clear head sets self states h0 self2 head2
  have HY := Lib.hid hY; clear hY
  have HJ := Lib.hid hJ; clear hJ
  have HJx := Lib.hid hJx; clear hJx
  have Hst := Lib.hid hst; clear hst
  have HJ1 := Lib.hid hJ1; clear hJ1
  have Hs1 := Lib.hid hs1; clear hs1
  clear hW
  refine callsIn_of_wp_marks Try.func79 rfl trivial ?_ rfl
  simp only [Try.ntmps79, List.size_toArray, List.length_cons, List.length_nil, Nat.reduceAdd, Nat.reduceSub, Array.replicate_succ, Array.replicate_zero, List.push_toArray, List.append_toArray, List.nil_append, List.cons_append]
  gi_wp2
  clear hc1 hc2
  refine wpIn_loop (fun a V => ∃ (k : Nat) (ms : List Nat) (u3 u11 u12 u13 u14 u15 u28 : Value), AllI J p S Bc W.heap.size l n1 bs ways ss u k ms V ∧ a = { tmps := #[.func (.yield l) #[] #[], .pointer (some ⟨Bc, 0, none⟩), .pointer (some ⟨W.heap.size, 0, none⟩), u3, undef, .pointer (some ⟨p, 0, none⟩), .pointer (some ⟨p, 0, none⟩), .pointer (some ⟨p, 0, none⟩),
      .slice (some ⟨S, 0, none⟩) bs.length bs.length, .int .i64 bs.length, .int .i64 k, u11, u12, u13, u14, u15, undef, undef, undef, undef, undef, undef, undef, undef, undef, undef, undef, undef, u28], defers := ms.map fun D => { target := .collected D, args := #[] } })
    (fun a _ => bs.length - (intOf (a.tmps.getD 10 undef)).toNat) ?_ ?_
  · exact ⟨0, [], _, _, _, _, _, _, _, ⟨Nat.zero_le _, HJ1.out, Hst.out, ⟨fun D h => (by cases h), List.nodup_nil⟩, fun D h => (by cases h), by rw [Hs1.out]; omega⟩, rfl⟩
  · rintro _ V ⟨k, ms, u3, u11, u12, u13, u14, u15, u28, hi, rfl⟩
    by_cases hk : k < bs.length
    · obtain ⟨b, hb⟩ : ∃ b, bs[k]? = some b := ⟨bs[k], List.getElem?_eq_getElem hk⟩
      have cB : V.cell? ⟨Bc, 0, none⟩ = some (.pointer (some ⟨p, 0, none⟩)) := hi.st.self.cell (i := 0) rfl
      have hL : (bs.map fun b => Value.slice (some ⟨b, 0, none⟩) ways ways)[k % bs.length]? = some (.slice (some ⟨b, 0, none⟩) ways ways) := by rw [Nat.mod_eq_of_lt hk]; simp [hb]
      have HL := Lib.hid hL; clear hL
      have Hi := Lib.hid hi; clear hi
      have Hb := Lib.hid hb; clear hb
      gi_wp2_with fail
      refine ⟨fun h => (by cases h), ?_⟩
      refine (callsIn_wide.2 (set_any p S k bs.length b ways u _ _ Hi.out.st.head Hi.out.st.sets HL.out hb0 hb8)).mono ?_
      rintro e w2 ⟨rfl, q, rfl⟩
      gi_wp2
      have hBx : Holds ((V.alloc (.cells #[.slice (some ⟨b, 0, none⟩) ways ways] 27)).drewN q) V.heap.size 27 [.slice (some ⟨b, 0, none⟩) ways ways] := (Holds.new V 27 [.slice (some ⟨b, 0, none⟩) ways ways]).drewN q
      have hT : Tch (fun _ => False) V ((V.alloc (.cells #[.slice (some ⟨b, 0, none⟩) ways ways] 27)).drewN q) := ((Tch.refl _ _).alloc _).drewN q
      have hJ0 : J (entsAll ss ways k) ((V.alloc (.cells #[.slice (some ⟨b, 0, none⟩) ways ways] 27)).drewN q) := HJ.out _ _ _ none (HJ.out.alloc (.cells #[.slice (some ⟨b, 0, none⟩) ways ways] 27) Hi.out.told) ⟨rfl, rfl, rfl, Nat.le_refl _, fun _ _ _ => rfl⟩ (fun r e => by cases e)
      have hs0 : ((V.alloc (.cells #[.slice (some ⟨b, 0, none⟩) ways ways] 27)).drewN q).heap.size = V.heap.size + 1 := by simp
      generalize (V.alloc (.cells #[.slice (some ⟨b, 0, none⟩) ways ways] 27)).drewN q = V0 at *
      have Hs0 := Lib.hid hs0; clear hs0
      have HJ0 := Lib.hid hJ0; clear hJ0
      have hby := Hi.out.by_
      have hlow : ∀ D ∈ ms, D < V0.heap.size := fun D h => by have := (Hi.out.low D h).2; have := Hs0.out; omega
      have hge : W.heap.size < V0.heap.size := by have := Hs0.out; omega
      have Hlow := Lib.hid hlow; clear hlow
      clear cB
      refine each_own rfl rfl (gf := 95) (lb := #[.pointer (some ⟨V.heap.size, 0, none⟩)]) rfl trivial (enters_of Try.func95 (by kernel_rfl) rfl)
        (set1_each _ b ways V.heap.size V0 hw4 hBx (KpHold V.heap.size 27) (fun _ _ h => h)) kpHold_t kpHold_b (fun _ => rfl) (AllI2 J p S Bc W.heap.size l bs ways ss u k ms) (AllX2 Jx ms (entsAll ss ways bs.length))
        (OwnFrom.and (OwnFrom.and (fun s X Y row hs hg hr => ownFrom_more HJ.out (by omega) _ X Y row hs hg hr) (AllSt.own _)) (marks_own Hlow.out))
        (fun c => OwnFrom.and (OwnFrom.and (fun s X Y row hs hg hr => by obtain ⟨q, h1, h2⟩ := hs; exact ⟨q, h1, ownFrom_more HJx.out (by omega) _ X Y row h2 hg hr⟩) (marks_own Hlow.out)) (ownFrom_pure _ _))
        ⟨⟨by rw [entsTo_nil]; exact HJ0.out, Hi.out.st.tch hT⟩, Hi.out.marks.tch hT⟩ ?round ?done ?stop
      case round =>
        intro pre y rest X hx hl hI
        obtain ⟨rfl, hlt⟩ := range_pre hx
        clear hx hl
        have HI := Lib.hid hI; clear hI
        unfold RoundOwes
        gi_wp2
        refine BodyOwes.plain (OwnFrom.and (OwnFrom.and (fun s X Y row hs hg hr => ownFrom_more HJ.out (by omega) _ X Y row hs hg hr) (AllSt.own _)) (marks_own Hlow.out)) (fun _ h => h) HI.out ?_
        clear HI
        rintro X2 hl2' ⟨⟨hj, hst2⟩, hm2⟩
        clear hl2'
        have cs := hst2.states k b y Hb.out hlt
        have cy : X2.cell? ⟨W.heap.size, 0, none⟩ = some (.func (.yield l) #[] #[]) := hst2.yield.cell (i := 0) rfl
        have Hj := Lib.hid hj; clear hj
        have Hst2 := Lib.hid hst2; clear hst2
        have Hm2 := Lib.hid hm2; clear hm2
        cases hv : valid ss k y
        · have g1 : (((ss.getD k []).getD y Ent.zero).state != 0) = false := hv
          have Hv := Lib.hid hv; clear hv
          generalize ((ss.getD k []).getD y Ent.zero).state = st at *
          gi_wp2
          exact ⟨KeepsFrom.refl _ _, fun _ h => h, ⟨by rw [entsTo_no _ Hv.out]; exact Hj.out, Hst2.out⟩, Hm2.out⟩
        · have g1 : (((ss.getD k []).getD y Ent.zero).state != 0) = true := hv
          have Hv := Lib.hid hv; clear hv
          generalize ((ss.getD k []).getD y Ent.zero).state = st at *
          obtain ⟨rest2, hx2⟩ := ents_here (n := bs.length) hk hlt Hv.out
          obtain ⟨fn, tmps, assign, body, hy, hR⟩ := HY.out (m - 1) _ (k, y) rest2 X2 hx2 Hj.out
          have hbk : bs.getD k 0 = b := by simp [List.getD_eq_getElem?_getD, Hb.out]
          have Hx2 := Lib.hid hx2; clear hx2
          simp only [hbk] at hy hR
          clear hbk
          gi_wp2
          refine ⟨fun h => (by cases h), RoundIn.mono (show RoundIn (Fence.wide.inRound (V0.heap.size + 1)) (m - 1) Try.prog l fn tmps assign body X2 _ from hR) ?_⟩
          clear hR hy
          rintro e X3 (⟨rfl, hJ3, hk3⟩ | ⟨rfl, hJ3, hk3⟩)
          · have HJ3 := Lib.hid hJ3; clear hJ3
            have Hk3 := Lib.hid hk3; clear hk3
            gi_wp2
            have hBv : n1 ≤ V.heap.size := by have := Hi.out.by_; omega
            refine ⟨⟨Hk3.out.size, fun k' o h1 h2 h3 => Hk3.out.recs k' o (by omega) h2 h3⟩, ?_, ⟨by rw [entsTo_yes _ Hv.out]; exact HJ3.out, Hst2.out.kept Hk3.out (by omega)⟩, Hm2.out.kept Hk3.out (fun D h => by have := (Hi.out.low D h).1; omega)⟩
            exact Hk3.out.box27 _ hBv
          · have HJ3 := Lib.hid hJ3; clear hJ3
            have Hk3 := Lib.hid hk3; clear hk3
            gi_wp2
            have hBv : n1 ≤ V.heap.size := by have := Hi.out.by_; omega
            refine ⟨⟨Hk3.out.size, fun k' o h1 h2 h3 => Hk3.out.recs k' o (by omega) h2 h3⟩, ?_, ⟨⟨_, ⟨rest2, ?_⟩, HJ3.out⟩, Hm2.out.kept Hk3.out (fun D h => by have := (Hi.out.low D h).1; omega)⟩, rfl⟩
            · exact Hk3.out.box27 _ hBv
            · rw [List.append_assoc]; exact Hx2.out.symm
      case done =>
        rintro X ⟨⟨hj, hst2⟩, hm2⟩ hK
        have Hj := Lib.hid hj; clear hj
        have Hst2 := Lib.hid hst2; clear hst2
        have Hm2 := Lib.hid hm2; clear hm2
        have HK := Lib.hid hK; clear hK
        gi_wp2
        have hlt0 := (Array.getElem?_eq_some_iff.1 HK.out).1
        refine ⟨⟨k + 1, V0.heap.size :: ms, _, _, _, _, _, _, _, ⟨by omega, by rw [← entsTo_all]; exact Hj.out, Hst2.out, ⟨fun D h => ?_, List.nodup_cons.2 ⟨fun h => by have := Hlow.out _ h; omega, Hm2.out.2⟩⟩, fun D h => ?_, by omega⟩, rfl⟩, by simp [intOf]; omega⟩
        · rcases List.mem_cons.1 h with rfl | h
          · exact HK.out
          · exact Hm2.out.1 D h
        · rcases List.mem_cons.1 h with rfl | h
          · exact ⟨hge, hlt0⟩
          · exact ⟨(Hi.out.low D h).1, by have := Hlow.out D h; omega⟩
      case stop =>
        rintro c pre X _ ⟨⟨⟨qq, hq, hjx⟩, hm2⟩, rfl⟩ hK
        have Hjx := Lib.hid hjx; clear hjx
        have Hm2 := Lib.hid hm2; clear hm2
        have HK := Lib.hid hK; clear hK
        gi_wp2
        refine leaves_marks (B := W.heap.size) (Z := fun X => ∃ q, q <+: entsAll ss ways bs.length ∧ Jx q X) ?_ ?_ (V0.heap.size :: ms) X ?_ ?_ ?_ ⟨qq, hq, Hjx.out⟩
        · intro s X Y row hs hg hr
          obtain ⟨q, h1, h2⟩ := hs
          exact ⟨q, h1, HJx.out _ X Y row h2 hg hr⟩
        · intro Z hz
          exact ⟨_, results_none rfl _ _ _, ⟨_, rfl⟩, .inr hz⟩
        · intro D h
          rcases List.mem_cons.1 h with rfl | h
          · exact HK.out
          · exact Hm2.out.1 D h
        · exact List.nodup_cons.2 ⟨fun h => by have := Hlow.out _ h; omega, Hm2.out.2⟩
        · intro D h
          rcases List.mem_cons.1 h with rfl | h
          · omega
          · have := (Hi.out.low D h).1; omega
    · have Hi := Lib.hid hi; clear hi
      gi_wp2
      obtain rfl : k = bs.length := by have := Hi.out.upto; omega
      refine leaves_marks (B := W.heap.size) (Z := fun X => J (entsAll ss ways bs.length) X) ?_ ?_ ms V Hi.out.marks.1 Hi.out.marks.2 ?_ Hi.out.told
      · intro s X Y row hs hg hr
        exact HJ.out _ X Y row hs hg hr
      · intro Z hz
        exact ⟨_, results_none rfl _ _ _, ⟨_, rfl⟩, .inl hz⟩
      · intro D h
        have := (Hi.out.low D h).1; omega

end Go.Proofs.Ytddajnpichchfaa
