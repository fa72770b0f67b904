/- The places at which parts begin, told by an iterator. Conditions: those stated in each theorem. -/
import Derived.Test.YtehnailokgoekaaDoorFlwB
import Derived.LoopIn
import Derived.LoopNIn
namespace Go.Proofs.YtehnailokgoekaaDoor
open Go.RowKit Go.BigFrame Go.Shelf
attribute [local go_sem] Oper.semAt_some
attribute [local simp] wide_fn

theorem flw_info {i : Option TypeInfo} {z : Option Value} {s b : Nat} (h : i.map (fun i => (i.zero, i.size, i.bytes)) = some (z, s, b)) : ∃ j, i = some j ∧ j.zero = z ∧ j.size = s ∧ j.bytes = b := by
  cases i with
  | none => cases h
  | some j => simp only [Option.map_some, Option.some.injEq, Prod.mk.injEq] at h; exact ⟨j, rfl, h⟩
theorem Tryd.infoBoolF : (Tryd.prog.info? 4).map (fun i => (i.zero, i.size, i.bytes)) = some (some (.bool false), 1, 1) := by kernel_rfl
theorem made_bool (n : Nat) : (madeCells (Value.bool false).cells (n * 1)).toList = List.replicate n (.bool false) := by
  apply List.ext_getElem
  · simp [madeCells]
  · intro j h1 h2
    simp [madeCells, Nat.mod_one, Value.cells]
theorem owns_full {w : World} {lo g n : Nat} {e : TypeId} {xs : List Value} (h : w.ownsRow lo e 1 (.slice (some ⟨g, 0, none⟩) n n) n xs) : Holds w g e xs := by
  rcases h.2 with ⟨h0, _⟩ | ⟨g', cap, cur, h0, _, h2, _, _, h3, h4⟩
  · cases h0
  · cases h0
    have e1 : cur.toList = xs := by rw [← h4, List.take_of_length_le (by simp [h3])]
    unfold Holds
    rw [h2, ← e1]
/-- A world's cells stay. -/
def CellsStay (W W' : World) : Prop := W.heap.size ≤ W'.heap.size ∧ ∀ (b : Nat) (c : Array Value) (t : TypeId) (m : Nat × Nat), W.heap[b]? = some (Obj.cells c t m) → W'.heap[b]? = some (Obj.cells c t m)
theorem cells_own {W W' : World} {row : Option Nat} {B : Nat} (hg : W.grownBy W' row) (hr : ∀ r, row = some r → B ≤ r ∧ ∃ o : Obj, W.heap[r]? = some o ∧ o.isCells = false) : CellsStay W W' :=
  ⟨hg.size, fun b c t m h => (hg.block b (Array.getElem?_eq_some_iff.1 h).1 (fun e => by
    obtain ⟨o, ho, hc⟩ := (hr b e.symm).2
    rw [h] at ho; cases ho; cases hc)).trans h⟩
theorem cells_below {W W' : World} (h : Below W.heap.size W W') : CellsStay W W' := ⟨h.size, fun b c t m hb => (h.block b (Array.getElem?_eq_some_iff.1 hb).1).trans hb⟩
theorem CellsStay.holds {W W' : World} (h : CellsStay W W') {b : Nat} {t : TypeId} {L : List Value} (hb : Holds W b t L) : Holds W' b t L := h.2 _ _ _ _ hb
theorem CellsStay.block {W W' : World} (h : CellsStay W W') {p : Addr} {u : Value} (hb : W.cell? p = some u) : W'.heap[p.block]? = W.heap[p.block]? := by
  obtain ⟨c, t, m, e⟩ := cells_of hb
  exact (h.2 _ _ _ _ e).trans e.symm
theorem CellsStay.rows {W W' : World} (h : CellsStay W W') {a : Option Addr} {c : List In} (hr : RowsIn W a 5 In.cells c) : RowsIn W' a 5 In.cells c := by
  rcases hr with hr | ⟨q, o, rfl, hq, hr⟩
  · exact .inl hr
  · refine .inr ⟨q, o, rfl, Nat.lt_of_lt_of_le hq h.1, fun k x hx => rangeAt_same (hr k x hx) ?_⟩
    have h0 := hr k x hx 0 (.int .i64 x.op) rfl
    exact h.block h0
theorem CellsStay.forms {W W' : World} (h : CellsStay W W') (hF : FormsAt W) : FormsAt W' := hF.same (h.block (hF 0 (by omega)).1)

/-- What the iterator has. -/
structure BgS (Bc Bt gb : Nat) (a : Option Addr) (cap : Nat) (c : List In) (G : Nat → Bool) (W : World) : Prop where
  code : Holds W Bc 22 [.slice a c.length cap]
  rows : RowsIn W a 5 In.cells c
  forms : FormsAt W
  box : Holds W Bt 36 [.slice (some ⟨gb, 0, none⟩) c.length c.length]
  gone : Holds W gb 4 ((List.range c.length).map fun p => .bool (G p))
theorem BgS.stay {Bc Bt gb : Nat} {a : Option Addr} {cap : Nat} {c : List In} {G : Nat → Bool} {W W' : World} (h : BgS Bc Bt gb a cap c G W) (k : CellsStay W W') : BgS Bc Bt gb a cap c G W' :=
  ⟨k.holds h.code, k.rows h.rows, k.forms h.forms, k.holds h.box, k.holds h.gone⟩
theorem BgS.next {Bc Bt gb : Nat} {a : Option Addr} {cap : Nat} {c : List In} {G : Nat → Bool} {W W' : World} (h : BgS Bc Bt gb a cap c G W) (k : Below W.heap.size W W') : BgS Bc Bt gb a cap c G W' := h.stay (cells_below k)
theorem BgS.set {Bc Bt gb : Nat} {a : Option Addr} {cap : Nat} {c : List In} {G : Nat → Bool} {W : World} (h : BgS Bc Bt gb a cap c G W) (hd : gb ≠ Bc ∧ gb ≠ Bt ∧ gb ≠ 0 ∧ ∀ ad, a = some ad → gb ≠ ad.block) {x : Nat} (hx : x < c.length) :
    BgS Bc Bt gb a cap c (fun p => G p || p == x) (W.setCell ⟨gb, x, none⟩ (.bool true)) := by
  have hB : ∀ b, b ≠ gb → (W.setCell ⟨gb, x, none⟩ (.bool true)).heap[b]? = W.heap[b]? := fun b hb => Below.heap_setCell _ _ _ _ hb
  refine ⟨h.code.same (hB _ hd.1.symm), ?_, h.forms.same (hB _ hd.2.2.1.symm), h.box.same (hB _ hd.2.1.symm), ?_⟩
  · rcases h.rows with hr | ⟨q, o, rfl, hq, hr⟩
    · exact .inl hr
    · exact .inr ⟨q, o, rfl, by rw [World.size_setCell]; exact hq, fun k y hy => rangeAt_same (hr k y hy) (hB _ (hd.2.2.2 _ rfl).symm)⟩
  · have := h.gone.set x (.bool true)
    have e : ((List.range c.length).map fun p => Value.bool (G p)).set x (.bool true) = (List.range c.length).map fun p => .bool (G p || p == x) := by
      apply List.ext_getElem
      · simp
      · intro j h1 h2
        rw [List.getElem_set]
        simp only [List.getElem_map, List.getElem_range]
        by_cases e : x = j
        · subst e; simp
        · have : (j == x) = false := by simp; omega
          simp [e, this]
    rwa [e] at this
theorem BgS.cell {Bc Bt gb : Nat} {a : Option Addr} {cap : Nat} {c : List In} {G : Nat → Bool} {W : World} (h : BgS Bc Bt gb a cap c G W) {p : Nat} (hp : p < c.length) : W.cell? ⟨gb, p, none⟩ = some (.bool (G p)) ∧ W.frozen? ⟨gb, p, none⟩ = false :=
  ⟨h.gone.cell (by simp [hp]), h.gone.free p⟩
theorem BgS.congr {Bc Bt gb : Nat} {a : Option Addr} {cap : Nat} {c : List In} {G G' : Nat → Bool} {W : World} (h : BgS Bc Bt gb a cap c G W) (e : ∀ p, p < c.length → G p = G' p) : BgS Bc Bt gb a cap c G' W :=
  ⟨h.code, h.rows, h.forms, h.box, by
    have : ((List.range c.length).map fun p => Value.bool (G p)) = (List.range c.length).map fun p => .bool (G' p) := List.map_congr_left (fun p hp => by rw [e p (List.mem_range.1 hp)])
    rw [← this]; exact h.gone⟩
/-- The marks that a function has by then. -/
def Mks (B : Nat) (ms : List Nat) (W : World) : Prop := (∀ D ∈ ms, W.heap[D]? = some (.deferred (some []))) ∧ ms.Nodup ∧ ∀ D ∈ ms, B ≤ D
theorem Mks.own {β : Type} {ms : List Nat} {B N : Nat} (hN : ∀ D ∈ ms, D < N) : OwnFrom N (fun (_ : β) W => Mks B ms W) := fun _ _ _ _ hs hg hr => ⟨fun D hD => kept_rec hg hr (hN D hD) (hs.1 D hD), hs.2⟩
theorem Mks.below {ms : List Nat} {B : Nat} {W W' : World} (h : Mks B ms W) (k : Below W.heap.size W W') : Mks B ms W' := ⟨fun D hD => (k.block D (Array.getElem?_eq_some_iff.1 (h.1 D hD)).1).trans (h.1 D hD), h.2⟩
theorem Mks.keeps {ms : List Nat} {B n : Nat} {W W' : World} (h : Mks B ms W) (k : KeepsFrom n W W') (hn : n ≤ B) : Mks B ms W' := ⟨fun D hD => k.same D _ (Nat.le_trans hn (h.2.2 D hD)) (h.1 D hD) rfl, h.2⟩
theorem Mks.lt {ms : List Nat} {B : Nat} {W : World} (h : Mks B ms W) : ∀ D ∈ ms, D < W.heap.size := fun D hD => (Array.getElem?_eq_some_iff.1 (h.1 D hD)).1
/-- What a round keeps. -/
def KpR (S : Nat → Prop) (T : TypeId → Prop) (n1 : Nat) (W W' : World) : Prop := KpB S T W W' ∧ KeepsFrom n1 W W'
theorem kpR_t {S : Nat → Prop} {T : TypeId → Prop} {n1 : Nat} {X Y Z : World} (h : KpR S T n1 X Y) (k : KpR S T n1 Y Z) : KpR S T n1 X Z := ⟨kpB_t h.1 k.1, Nat.le_trans h.2.1 k.2.1, fun i o hi h1 h2 => k.2.2 i o hi (h.2.2 i o hi h1 h2) h2⟩
theorem kpR_b {S : Nat → Prop} {T : TypeId → Prop} {n1 l : Nat} (hn : l < n1) (W : World) (o o' : Loop) (h : W.heap[l]? = some (.loop o)) : KpR S T n1 W (W.putObj l (.loop o')) :=
  ⟨kpB_b W o o' h, by rw [World.putObj_size]; exact Nat.le_refl _, fun i ob hi h1 _ => (World.putObj_heap_other (by omega)).trans h1⟩
theorem BgS.kept {Bc Bt gb : Nat} {a : Option Addr} {cap : Nat} {c : List In} {G : Nat → Bool} {W W' : World} {S : Nat → Prop} {T : TypeId → Prop} {n1 : Nat} (h : BgS Bc Bt gb a cap c G W) (k : KpR S T n1 W W') (hS : S Bc ∧ S 0 ∧ ∀ ad, a = some ad → S ad.block) (hT : T 4 ∧ T 36) : BgS Bc Bt gb a cap c G W' := by
  have hq : ∀ (p : Addr) (u : Value), S p.block → W.cell? p = some u → W'.heap[p.block]? = W.heap[p.block]? := fun p u hs hp => by
    obtain ⟨cc, t, m, e⟩ := cells_of hp
    exact (k.1 _ _ _ _ e (.inl hs)).trans e.symm
  refine ⟨k.1.holds h.code (.inl hS.1), ?_, h.forms.same (hq _ _ hS.2.1 (h.forms 0 (by omega)).1), k.1.holds h.box (.inr hT.2), k.1.holds h.gone (.inr hT.1)⟩
  rcases h.rows with hr | ⟨q, o, rfl, hq', hr⟩
  · exact .inl hr
  · exact .inr ⟨q, o, rfl, Nat.lt_of_lt_of_le hq' k.2.1, fun j x hx => rangeAt_same (hr j x hx) (hq ⟨q, o + j * 5 + 0, none⟩ _ (hS.2.2 ⟨q, o, none⟩ rfl) (hr j x hx 0 (.int .i64 x.op) rfl))⟩

theorem begs_upto (c : List In) (k : Nat) (h : k < c.length) : ∃ rest, begsP c = (List.range k).filter (firstP c) ++ (if firstP c k then k :: rest else rest) := by
  unfold begsP
  have e : List.range c.length = List.range k ++ k :: List.range' (k + 1) (c.length - k - 1) := by
    rw [List.range_eq_range', List.range_eq_range']
    rw [show c.length = k + ((c.length - k - 1) + 1) from by omega, ← List.range'_append_1, Nat.zero_add, List.range'_succ]
    simp
  rw [e, List.filter_append, List.filter_cons]
  refine ⟨(List.range' (k + 1) (c.length - k - 1)).filter (firstP c), ?_⟩
  split <;> rfl
theorem begs_next (c : List In) (k : Nat) : (List.range (k + 1)).filter (firstP c) = (List.range k).filter (firstP c) ++ if firstP c k then [k] else [] := by
  rw [List.range_succ, List.filter_append, List.filter_cons, List.filter_nil]

/-- Between two rounds of the inner range. -/
def BgI (Bc Bt gb B : Nat) (a : Option Addr) (cap : Nat) (c : List In) (W0 : World) (ms : List Nat) (k : Nat) (pre : List Nat) (W : World) : Prop :=
  (BgS Bc Bt gb a cap c (fun p => goneP c k p || pre.contains p) W ∧ Below W0.heap.size W0 W) ∧ Mks B ms W
theorem bgI_own {Bc Bt gb B : Nat} {a : Option Addr} {cap : Nat} {c : List In} {W0 : World} {ms : List Nat} {k N : Nat} (h0 : W0.heap.size ≤ N) (hN : ∀ D ∈ ms, D < N) : OwnFrom N (BgI Bc Bt gb B a cap c W0 ms k) :=
  OwnFrom.and (fun s X Y row hs hg hr => ⟨hs.1.stay (cells_own hg hr), hs.2.grown hg hs.2.size (fun r e => Nat.le_trans h0 (hr r e).1)⟩) (Mks.own hN)

set_option maxRecDepth 100000 in
set_option maxHeartbeats 1000000 in
theorem begs_each (l Bc cap n1 : Nat) (a : Option Addr) (c : List In) (hn : c.length ≤ 1024) (hi : ∀ i ∈ c, I64 i.imm) (w : World) (hn1 : n1 = l + 1) (hF : FormsAt w) (hc : Holds w Bc 22 [.slice a c.length cap]) (hr : RowsIn w a 5 In.cells c)
    (S : Nat → Prop) (T : TypeId → Prop) (hS : S Bc ∧ S 0 ∧ ∀ ad, a = some ad → S ad.block) (hT : T 4 ∧ T 36) :
    SeqEach Fence.wide Tryd.prog 28 #[.pointer (some ⟨Bc, 0, none⟩)] encN (KpR S T n1) (begsP c) w l := by
  intro n J Jx W hW hlW hJ hJx hY h0
  have hJb : ∀ pre (X Y : World), J pre X → Below X.heap.size X Y → J pre Y := fun pre X Y hj hb => hJ pre X Y none hj (grown_below hb) (fun r e => by cases e)
  have hF0 := hF.same (hW.block _ hF.lt)
  have hc0 := hc.same (hW.block _ hc.lt)
  have hr0 := (cells_below (W := w) (W' := W) ⟨hW.os, hW.tape, hW.output, hW.size, hW.block⟩).rows hr
  have hd0 : Bc < W.heap.size ∧ 0 < W.heap.size ∧ ∀ ad, a = some ad → c ≠ [] → ad.block < W.heap.size := ⟨hc0.lt, hF0.lt, fun ad e hne => by
    rcases hr0 with h | ⟨q, o, e2, hq, _⟩
    · exact absurd h hne
    · rw [e] at e2; cases e2; exact hq⟩
  clear hF hc hr hW
  obtain ⟨i1, hj0, hj1, hj2, hj3⟩ := flw_info Tryd.infoBoolF
  have Hj := Lib.hid (And.intro hj0 (And.intro hj1 (And.intro hj2 hj3))); clear hj0 hj1 hj2 hj3
  have c1 := hc0.cell (i := 0) rfl
  have HC := Lib.hid (And.intro hc0 (And.intro hr0 hF0)); clear hc0 hr0 hF0
  have HD := Lib.hid hd0; clear hd0
  have HJb := Lib.hid hJb; clear hJb
  have HJ := Lib.hid hJ; clear hJ
  have HJx := Lib.hid hJx; clear hJx
  have HY := Lib.hid hY; clear hY
  have H0 := Lib.hid h0; clear h0
  have Hi := Lib.hid hi; clear hi
  have Hn := Lib.hid hn; clear hn
  have Hl := Lib.hid (And.intro hlW hn1); clear hlW hn1
  refine callsIn_of_wp_marks Tryd.func28 rfl trivial ?_ rfl
  simp only [Tryd.ntmps28, List.size_toArray, List.length_cons, List.length_nil, Nat.reduceAdd, Nat.reduceSub, Array.replicate_succ, Array.replicate_zero, List.push_toArray, List.append_toArray, List.nil_append, List.cons_append]
  gi_upto_region 0 with fail
  refine wpIn_wide.2 ?_
  go_wp2_with (at_make; refine wpList_make_full _ rfl _ _ 36 rfl W.heap.size 4 i1 _ 1 Tryd.underlying36 Hj.out.1 Hj.out.2.1 Hj.out.2.2.1 .i64 .i64 c.length c.length c.length rfl rfl rfl rfl (by rw [Hj.out.2.2.2]; have := Hn.out; omega) (by unfold maxLen; have := Hn.out; omega) (Nat.le_refl _) ?_; intro w2 ho2 hg2; have Ho2 := Lib.hid ho2; have Hb2 := Lib.hid ((Below.refl W.heap.size W).grown hg2 (Nat.le_refl _) (fun g e => by cases e)); clear ho2 hg2)
  gi_upto_region 1 with fail
  have hgo := owns_full Ho2.out
  rw [made_bool] at hgo
  have hbW : Below W.heap.size W (w2.alloc (.cells #[.slice (some ⟨W.heap.size, 0, none⟩) c.length c.length] 36)) := Hb2.out.alloc Hb2.out.size _
  have hbs : BgS Bc w2.heap.size W.heap.size a cap c (goneP c 0) (w2.alloc (.cells #[.slice (some ⟨W.heap.size, 0, none⟩) c.length c.length] 36)) :=
    ⟨HC.out.1.below hbW, (cells_below hbW).rows HC.out.2.1, HC.out.2.2.below hbW, Holds.new w2 36 [.slice (some ⟨W.heap.size, 0, none⟩) c.length c.length], by
      have e : (List.replicate c.length (Value.bool false)) = (List.range c.length).map fun p => .bool (goneP c 0 p) := by
        apply List.ext_getElem
        · simp
        · intro j h1 h2; simp [goneP]
      rw [← e]; exact hgo.alloc _⟩
  have hgb : W.heap.size < w2.heap.size := hgo.lt
  have hsz : w2.heap.size < (w2.alloc (.cells #[.slice (some ⟨W.heap.size, 0, none⟩) c.length c.length] 36)).heap.size := by simp
  have hdis : W.heap.size ≠ Bc ∧ W.heap.size ≠ w2.heap.size ∧ W.heap.size ≠ 0 ∧ ∀ ad, a = some ad → c ≠ [] → W.heap.size ≠ ad.block := ⟨by have := HD.out.1; omega, by omega, by have := HD.out.2.1; omega, fun ad e hne => by have := HD.out.2.2 ad e hne; omega⟩
  clear hgo Hb2 Ho2 Hj c1
  generalize w2.alloc (.cells #[.slice (some ⟨W.heap.size, 0, none⟩) c.length c.length] 36) = W0 at *
  have HB0 := Lib.hid (And.intro hbW (And.intro hgb hsz)); clear hbW hgb hsz
  have HBS := Lib.hid hbs
  have HDI := Lib.hid hdis; clear hdis
  generalize w2.heap.size = Bt at *
  obtain ⟨gb, hgbe⟩ : ∃ gb, W.heap.size = gb := ⟨_, rfl⟩
  rw [hgbe] at hbs HBS HDI
  simp only [hgbe]
  have Hgb := Lib.hid hgbe; clear hgbe
  have c0 := hbs.code.cell (i := 0) rfl
  clear hbs
  gi_wp2_with fail
  clear c0
  refine wpIn_loop (fun A V => ∃ (k : Nat) (ms : List Nat) (u4 u5 u6 u14 u15 u16 u17 u18 u19 u20 u21 u22 u23 u24 u25 u26 u27 u28 : Value), (k ≤ c.length ∧ BgS Bc Bt gb a cap c (goneP c k) V ∧ Below W.heap.size W V ∧ Mks gb ms V) ∧ A = { tmps := #[.func (.yield l) #[] #[], .pointer (some ⟨Bc, 0, none⟩), undef, .pointer (some ⟨Bt, 0, none⟩), u4, u5, u6, undef, .slice a c.length cap, .int .i64 c.length, .slice (some ⟨gb, 0, none⟩) c.length c.length, .slice a c.length cap, .int .i64 c.length, .int .i64 k, u14, u15, u16, u17, u18, u19, u20, u21, u22, u23, u24, u25, u26, u27, u28, undef, undef, undef, undef, undef, undef, undef, undef, undef, undef, undef, undef, undef, undef, undef, undef, undef, undef, undef, undef, undef, undef, undef, undef, undef, undef, undef, undef], defers := ms.map fun D => { target := .collected D, args := #[] } })
    (fun A _ => c.length - (intOf (A.tmps.getD 13 undef)).toNat) ?_ ?_
  · exact ⟨0, [], _, _, _, _, _, _, _, _, _, _, _, _, _, _, _, _, _, _, ⟨Nat.zero_le _, HBS.out, HB0.out.1, ⟨fun D h => (by cases h), List.nodup_nil, fun D h => (by cases h)⟩⟩, rfl⟩
  · rintro _ V ⟨k, ms, u4, u5, u6, u14, u15, u16, u17, u18, u19, u20, u21, u22, u23, u24, u25, u26, u27, u28, ⟨hk, hbs, hbel, hms⟩, rfl⟩
    by_cases hlt : k < c.length
    · obtain ⟨i, hx⟩ : ∃ i, c[k]? = some i := ⟨c[k], List.getElem?_eq_getElem hlt⟩
      obtain ⟨q, o, rfl, hq, hr1⟩ := hbs.rows.row hx
      have hxo := Hi.out i (List.mem_of_getElem? hx)
      have hkk : IntKind.i64.wrap ((k : Int) + 1) = (k : Int) + 1 := by rw [IntKind.wrap_i64]; have := Hn.out; omega
      have hki : (0 : Int) ≤ k ∧ (k : Int) < c.length := by omega
      have r0 : V.cell? ⟨q, o + k * 5, none⟩ = some (.int .i64 i.op) := hr1 0 _ rfl
      have r1 : V.cell? ⟨q, o + k * 5 + 1, none⟩ = some (.int .i64 i.a) := hr1 1 _ rfl
      have r2 : V.cell? ⟨q, o + k * 5 + 2, none⟩ = some (.int .i64 i.b) := hr1 2 _ rfl
      have r3 : V.cell? ⟨q, o + k * 5 + 3, none⟩ = some (.int .i64 i.c) := hr1 3 _ rfl
      have r4 : V.cell? ⟨q, o + k * 5 + 4, none⟩ = some (.int .i64 i.imm) := hr1 4 _ rfl
      clear hr1
      have hbB : Below V.heap.size V (V.alloc (.cells i.cells.toArray 53)) := (Below.refl _ V).alloc (Nat.le_refl _) _
      have hqB : Holds (V.alloc (.cells i.cells.toArray 53)) V.heap.size 53 i.cells := Holds.new V 53 i.cells
      have hend := ends_any i _ (hbs.forms.below hbB)
      have hbs1 := hbs.next hbB
      have hbel1 := hbel.trans (hbB.mono hbel.size)
      have hms1 := hms.below hbB
      have Hbs := Lib.hid hbs1; clear hbs1 hbs
      have Hbel := Lib.hid hbel1; clear hbel1 hbel
      have Hms := Lib.hid hms1; clear hms1 hms
      have Hx := Lib.hid (And.intro hx (And.intro hxo hk)); clear hx hxo hk
      have He := Lib.hid (endsAt_some Hx.out.1)
      obtain ⟨xo, xa, xb, xc, xi⟩ := i
      simp only [In.cells, In.val] at r0 r1 r2 r3 r4 hbB hqB hend Hbs Hbel Hms
      have Hend := Lib.hid hend; clear hend
      have HqB := Lib.hid hqB; clear hqB hbB
      gi_upto_region 4 with fail
      clear r0 r1 r2 r3 r4
      have b0 := HqB.out.cell (i := 0) rfl
      have b1 := HqB.out.cell (i := 1) rfl
      have b2 := HqB.out.cell (i := 2) rfl
      have b3 := HqB.out.cell (i := 3) rfl
      have b4 := HqB.out.cell (i := 4) rfl
      generalize V.alloc (.cells #[.int .i64 xo, .int .i64 xa, .int .i64 xb, .int .i64 xc, .int .i64 xi] 53) = V1 at *
      gi_wp2_with fail
      first | refine ⟨fun h => (by cases h), ?_⟩ | refine ⟨trivial, fun h => (by cases h), ?_⟩ | skip
      refine (callsIn_wide.2 Hend.out).mono ?_
      rintro e V2 ⟨rfl, hb2⟩
      have Hbs2 := Lib.hid (Hbs.out.next hb2)
      have Hbel2 := Lib.hid (Hbel.out.trans (hb2.mono Hbel.out.size))
      have Hms2 := Lib.hid (Hms.out.below hb2)
      clear hb2 Hbs Hbel Hms Hend HqB b0 b1 b2 b3 b4
      cases he : endsP ⟨xo, xa, xb, xc, xi⟩ with
      | false =>
        rw [he] at He
        gi_wp2_with fail
        refine ⟨⟨k + 1, ms, _, _, _, _, _, _, _, _, _, _, _, _, _, _, _, _, _, _, ⟨by omega, Hbs2.out.congr (fun p _ => by rw [goneP_succ, He.out]; simp), Hbel2.out, Hms2.out⟩, rfl⟩, by simp [intOf]; omega⟩
      | true =>
        rw [he] at He
        have d0 := Hbs2.out.code.cell (i := 0) rfl
        gi_wp2_with fail
        first | refine ⟨fun h => (by cases h), ?_⟩ | refine ⟨trivial, fun h => (by cases h), ?_⟩ | skip
        refine (callsIn_wide.2 (gos_make _ _ _ _ _)).mono ?_
        rintro e V3 ⟨rfl, hV3⟩
        clear d0
        have hb3 : Below V2.heap.size V2 V3 := by rw [hV3]; exact ((Below.refl _ V2).alloc (Nat.le_refl _) _).alloc (by simp) _
        have hA3 : Holds V3 V2.heap.size 22 [.slice (some ⟨q, o, none⟩) c.length cap] := by rw [hV3]; exact (Holds.new V2 22 [.slice (some ⟨q, o, none⟩) c.length cap]).alloc _
        have hB3 : Holds V3 (V2.heap.size + 1) 3 [.int .i64 k] := by
          rw [hV3]
          have := Holds.new (V2.alloc (.cells #[.slice (some ⟨q, o, none⟩) c.length cap] 22)) 3 [.int .i64 k]
          rwa [World.size_alloc] at this
        have hz3 : V3.heap.size = V2.heap.size + 2 := by rw [hV3]; simp
        clear hV3
        have hbs3 := Hbs2.out.next hb3
        have hbel3 := Hbel2.out.trans (hb3.mono Hbel2.out.size)
        have hms3 := Hms2.out.below hb3
        have hrow3 : V3.rangeAt q (o + k * 5) (In.cells ⟨xo, xa, xb, xc, xi⟩) := by
          obtain ⟨q', o', e', _, hr'⟩ := hbs3.rows.row Hx.out.1
          cases e'; exact hr'
        have hg3 : GosAt V3 V2.heap.size (V2.heap.size + 1) q o c.length cap k ⟨xo, xa, xb, xc, xi⟩ := ⟨hA3, hB3, hrow3⟩
        have hgb2 : gb < V2.heap.size := Hbs2.out.gone.lt
        have hcne : c ≠ [] := fun e => by rw [e] at hlt; simp at hlt
        have hgs := gos_each (V3.heap.size + 1) V2.heap.size (V2.heap.size + 1) q o cap c k ⟨xo, xa, xb, xc, xi⟩ Hx.out.1 Hn.out Hx.out.2.1 V3 hbs3.forms hg3 (fun b => b = V2.heap.size ∨ b = V2.heap.size + 1 ∨ b = q) (fun _ => False) ⟨.inl rfl, .inr (.inl rfl), .inr (.inr rfl)⟩
        have hne3 : gb ≠ V2.heap.size ∧ gb ≠ V2.heap.size + 1 ∧ gb ≠ q := ⟨by omega, by omega, HDI.out.2.2.2 _ rfl hcne⟩
        have hlt3 := hms3.lt
        have hn1 : gb ≤ V3.heap.size := by have := Hgb.out; have := hbel3.size; omega
        have hW3 := hbel3.size
        have HGS := Lib.hid hgs; clear hgs
        have HNE := Lib.hid hne3; clear hne3
        have Hbs3 := Lib.hid hbs3; clear hbs3
        have Hbel3 := Lib.hid hbel3; clear hbel3
        have Hms3 := Lib.hid hms3; clear hms3
        have Hlt3 := Lib.hid (And.intro hlt3 (And.intro hn1 (And.intro hW3 hcne))); clear hlt3 hn1 hW3 hcne hgb2
        clear hb3 hA3 hB3 hz3 hrow3 hg3 Hbs2 Hbel2 Hms2
        generalize V2.heap.size + 1 = Bb at *
        generalize V2.heap.size = Ba at *
        gi_wp2_with fail
        refine each_own rfl rfl (gf := 30) (lb := #[.pointer (some ⟨Ba, 0, none⟩), .pointer (some ⟨Bb, 0, none⟩)]) rfl trivial (enters_of Tryd.func30 (by kernel_rfl) rfl)
          HGS.out kpB_t kpB_b (fun _ => rfl) (BgI Bc Bt gb gb (some ⟨q, o, none⟩) cap c W ms k) (fun _ _ _ => False) (bgI_own Hlt3.out.2.2.1 Hlt3.out.1) (fun _ _ _ _ _ hs _ _ => hs)
          ⟨⟨Hbs3.out.congr (fun p _ => by simp), Hbel3.out⟩, Hms3.out⟩ ?round ?done ?stop
        case round =>
          rintro pre x rest X hx hl hI
          have hxm : x < c.length := gosP_lt (k := k) (by rw [hx]; simp)
          clear hx hl
          unfold RoundOwes
          simp only [encN]
          have HI := Lib.hid hI; clear hI
          gi_wp2
          refine BodyOwes.plain (bgI_own Hlt3.out.2.2.1 Hlt3.out.1) (kpB_r _) HI.out (fun X2 hl hI2 => ?_)
          clear hl HI
          obtain ⟨⟨hbs4, hbel4⟩, hms4⟩ := hI2
          have e0 := hbs4.box.cell (i := 0) rfl
          have e1 := (hbs4.cell hxm).1
          have e2 := (hbs4.cell hxm).2
          have hxi : (0 : Int) ≤ x ∧ (x : Int) < c.length := by omega
          have Hbs4 := Lib.hid hbs4; clear hbs4
          have Hbel4 := Lib.hid hbel4; clear hbel4
          have Hms4 := Lib.hid hms4; clear hms4
          gi_wp2
          have hT : Tch (fun b => b = gb) X2 (X2.setCell ⟨gb, x, none⟩ (.bool true)) := (Tch.refl (fun b => b = gb) X2).setCell (p := ⟨gb, x, none⟩) (.inl rfl) _
          have hkf : ∀ B, KeepsFrom B X2 (X2.setCell ⟨gb, x, none⟩ (.bool true)) := fun B => hT.keepsFrom (fun b ob hb _ ho => by
            subst hb
            have := Hbs4.out.gone
            unfold Holds at this
            rw [this] at ho; cases ho; rfl)
          refine ⟨hkf _, hT.kpB (fun b hb e => by subst e; have := HNE.out; rcases hb with hb | hb | hb <;> simp_all) (fun _ _ _ _ _ _ h => h), ⟨(Hbs4.out.set ⟨HDI.out.1, HDI.out.2.1, HDI.out.2.2.1, fun ad e => HDI.out.2.2.2 ad e Hlt3.out.2.2.2⟩ hxm).congr (fun p _ => ?_), Hbel4.out.setCell (p := ⟨gb, x, none⟩) (by have := Hgb.out; simp; omega) _⟩, Hms4.out.keeps (hkf _) (Nat.le_refl _)⟩
          rw [List.contains_eq_mem, List.contains_eq_mem]
          by_cases ep : p = x <;> simp [ep]
        case done =>
          rintro X ⟨⟨hbs4, hbel4⟩, hms4⟩ hK
          have hDlt := (Array.getElem?_eq_some_iff.1 hK).1
          have Hbs4 := Lib.hid hbs4; clear hbs4
          have Hbel4 := Lib.hid hbel4; clear hbel4
          have Hms4 := Lib.hid (And.intro hms4 hK); clear hms4 hK
          gi_wp2
          refine ⟨⟨k + 1, V3.heap.size :: ms, _, _, _, _, _, _, _, _, _, _, _, _, _, _, _, _, _, _, ⟨by omega, Hbs4.out.congr (fun p _ => by rw [goneP_succ, He.out]; simp), Hbel4.out, ⟨fun D hD => ?_, List.nodup_cons.2 ⟨fun h => by have := Hlt3.out.1 _ h; omega, Hms4.out.1.2.1⟩, fun D hD => ?_⟩⟩, rfl⟩, by simp [intOf]; omega⟩
          · rcases List.mem_cons.1 hD with rfl | hD
            · exact Hms4.out.2
            · exact Hms4.out.1.1 D hD
          · rcases List.mem_cons.1 hD with rfl | hD
            · exact Hlt3.out.2.1
            · exact Hms4.out.1.2.2 D hD
        case stop =>
          rintro _ _ _ _ h _
          exact h.elim
    · obtain rfl : k = c.length := by omega
      have e0 := hbs.code.cell (i := 0) rfl
      have Hbs := Lib.hid hbs; clear hbs
      have Hbel := Lib.hid hbel; clear hbel
      have Hms := Lib.hid hms; clear hms
      clear HC HB0 HBS hk
      gi_wp2_with fail
      clear e0
      have hj0 := HJb.out _ _ _ H0.out (show Below W.heap.size W V by rw [Hgb.out]; rw [Hgb.out] at *; exact Hbel.out)
      have HJ0 := Lib.hid hj0; clear hj0
      refine wpIn_loop (fun A U => ∃ (k : Nat) (u4 u5 u6 u7 u13 u14 u15 u16 u17 u18 u19 u20 u21 u22 u23 u24 u25 u26 u27 u28 u32 u33 u34 u35 u36 u37 u38 u39 u40 u41 u42 u43 u44 u45 u46 u47 u48 u49 u50 u51 u52 u53 u54 u55 u56 : Value), (k ≤ c.length ∧ BgS Bc Bt gb a cap c (goneP c c.length) U ∧ J ((List.range k).filter (firstP c)) U ∧ Mks gb ms U) ∧ A = { tmps := #[.func (.yield l) #[] #[], .pointer (some ⟨Bc, 0, none⟩), undef, .pointer (some ⟨Bt, 0, none⟩), u4, u5, u6, u7, .slice a c.length cap, .int .i64 c.length, .slice (some ⟨gb, 0, none⟩) c.length c.length, .slice a c.length cap, .int .i64 c.length, u13, u14, u15, u16, u17, u18, u19, u20, u21, u22, u23, u24, u25, u26, u27, u28, .slice a c.length cap, .int .i64 c.length, .int .i64 k, u32, u33, u34, u35, u36, u37, u38, u39, u40, u41, u42, u43, u44, u45, u46, u47, u48, u49, u50, u51, u52, u53, u54, u55, u56], defers := ms.map fun D => { target := .collected D, args := #[] } })
        (fun A _ => c.length - (intOf (A.tmps.getD 31 undef)).toNat) ?_ ?_
      · exact ⟨0, _, _, _, _, _, _, _, _, _, _, _, _, _, _, _, _, _, _, _, _, _, _, _, _, _, _, _, _, _, _, _, _, _, _, _, _, _, _, _, _, _, _, _, _, _, ⟨Nat.zero_le _, Hbs.out, HJ0.out, Hms.out⟩, rfl⟩
      · rintro _ U ⟨k, u4, u5, u6, u7, u13, u14, u15, u16, u17, u18, u19, u20, u21, u22, u23, u24, u25, u26, u27, u28, u32, u33, u34, u35, u36, u37, u38, u39, u40, u41, u42, u43, u44, u45, u46, u47, u48, u49, u50, u51, u52, u53, u54, u55, u56, ⟨hk, hbs, hju, hms⟩, rfl⟩
        by_cases hlt : k < c.length
        · skip
          have hki : (0 : Int) ≤ k ∧ (k : Int) < c.length := by omega
          have hkk : IntKind.i64.wrap ((k : Int) + 1) = (k : Int) + 1 := by rw [IntKind.wrap_i64]; have := Hn.out; omega
          have hng : n1 ≤ gb := by have := Hl.out; have := Hgb.out; omega
          have Hng := Lib.hid hng; clear hng
          have g0 := hbs.box.cell (i := 0) rfl
          have g1 := (hbs.cell hlt).1
          have g2 := hbs.code.cell (i := 0) rfl
          have Hbu := Lib.hid hbs; clear hbs
          have Hju := Lib.hid hju; clear hju
          have Hmu := Lib.hid hms; clear hms
          clear Hbs Hbel HJ0 Hms
          gi_upto_region 12 with fail
          gi_cut [55] from 57 (fun s wx => ∃ b, s = .bool b ∧ (if b = true then (∃ pre, pre <+: begsP c ∧ Jx pre wx) else (J ((List.range (k + 1)).filter (firstP c)) wx ∧ BgS Bc Bt gb a cap c (goneP c c.length) wx)) ∧ Mks gb ms wx)
          case first =>
            by_cases hk0 : k = 0
            · have hf : firstP c k = true := by simp [firstP, hk0]
              have hk0' : ((k : Int) == 0) = true := by rw [hk0]; rfl
              clear g0 g1 g2 hk0
              obtain ⟨rest, hxx⟩ := begs_upto c k hlt
              rw [if_pos hf] at hxx
              have hnx := begs_next c k
              rw [if_pos hf] at hnx
              obtain ⟨fn, tmps, assign, body, hy, hR⟩ := HY.out (n - 1) _ k rest U hxx Hju.out
              have HR := Lib.hid hR; clear hR
              have HXX := Lib.hid (And.intro hxx hnx); clear hxx hnx
              simp only [encN, Int.ofNat_eq_natCast, Int.natCast_zero, Int.cast_ofNat_Int] at hy
              gi_wp2_with fail
              refine ⟨fun h => (by cases h), HR.out.mono ?_⟩
              rintro e W9 (⟨rfl, hJ9, hK9⟩ | ⟨rfl, hJ9, hK9⟩)
              · have HJ9 := Lib.hid hJ9; clear hJ9
                have HK9 := Lib.hid hK9; clear hK9 hy
                gi_wp2_with fail
                gi_meet
                case rel => exact ⟨false, rfl, ⟨(by rw [HXX.out.2]; exact HJ9.out), Hbu.out.kept HK9.out hS hT⟩, Hmu.out.keeps HK9.out.2 Hng.out⟩
              · have HJ9 := Lib.hid hJ9; clear hJ9
                have HK9 := Lib.hid hK9; clear hK9 hy
                gi_wp2_with fail
                gi_meet
                case rel => exact ⟨true, rfl, ⟨_, ⟨rest, (by rw [HXX.out.1]; simp)⟩, HJ9.out⟩, Hmu.out.keeps HK9.out.2 Hng.out⟩
            · have hk0' : ((k : Int) == 0) = false := by rw [beq_eq_false_iff_ne]; omega
              cases hg : goneP c c.length k with
              | true =>
                rw [hg] at g1
                have hf : firstP c k = true := by simp [firstP, hg]
                obtain ⟨rest, hxx⟩ := begs_upto c k hlt
                rw [if_pos hf] at hxx
                have hnx := begs_next c k
                rw [if_pos hf] at hnx
                obtain ⟨fn, tmps, assign, body, hy, hR⟩ := HY.out (n - 1) _ k rest U hxx Hju.out
                have HR := Lib.hid hR; clear hR
                have HXX := Lib.hid (And.intro hxx hnx); clear hxx hnx
                simp only [encN, Int.ofNat_eq_natCast, Int.natCast_zero, Int.cast_ofNat_Int] at hy
                gi_wp2_with fail
                refine ⟨fun h => (by cases h), HR.out.mono ?_⟩
                rintro e W9 (⟨rfl, hJ9, hK9⟩ | ⟨rfl, hJ9, hK9⟩)
                · have HJ9 := Lib.hid hJ9; clear hJ9
                  have HK9 := Lib.hid hK9; clear hK9 hy
                  gi_wp2_with fail
                  gi_meet
                  case rel => exact ⟨false, rfl, ⟨(by rw [HXX.out.2]; exact HJ9.out), Hbu.out.kept HK9.out hS hT⟩, Hmu.out.keeps HK9.out.2 Hng.out⟩
                · have HJ9 := Lib.hid hJ9; clear hJ9
                  have HK9 := Lib.hid hK9; clear hK9 hy
                  gi_wp2_with fail
                  gi_meet
                  case rel => exact ⟨true, rfl, ⟨_, ⟨rest, (by rw [HXX.out.1]; simp)⟩, HJ9.out⟩, Hmu.out.keeps HK9.out.2 Hng.out⟩
              | false =>
                rw [hg] at g1
                have hk1 : IntKind.i64.wrap ((k : Int) - 1) = ((k - 1 : Nat) : Int) := by rw [IntKind.wrap_i64]; have := Hn.out; omega
                obtain ⟨i, hx⟩ : ∃ i, c[k - 1]? = some i := ⟨c[k - 1], List.getElem?_eq_getElem (by omega)⟩
                obtain ⟨q, o, rfl, hq, hr1⟩ := Hbu.out.rows.row hx
                have hk2 : ((k - 1 : Nat) : Int) < c.length ∧ (0 : Int) ≤ ((k - 1 : Nat) : Int) := by omega
                have r0 : U.cell? ⟨q, o + (k - 1) * 5, none⟩ = some (.int .i64 i.op) := hr1 0 _ rfl
                have r1 : U.cell? ⟨q, o + (k - 1) * 5 + 1, none⟩ = some (.int .i64 i.a) := hr1 1 _ rfl
                have r2 : U.cell? ⟨q, o + (k - 1) * 5 + 2, none⟩ = some (.int .i64 i.b) := hr1 2 _ rfl
                have r3 : U.cell? ⟨q, o + (k - 1) * 5 + 3, none⟩ = some (.int .i64 i.c) := hr1 3 _ rfl
                have r4 : U.cell? ⟨q, o + (k - 1) * 5 + 4, none⟩ = some (.int .i64 i.imm) := hr1 4 _ rfl
                clear hr1
                have hend := ends_any i _ Hbu.out.forms
                have hfe : firstP c k = endsP i := by simp [firstP, hg, hk0, endsAt_some hx]
                obtain ⟨xo, xa, xb, xc, xi⟩ := i
                simp only [In.val] at hend r0 r1 r2 r3 r4
                have Hend := Lib.hid hend; clear hend
                gi_wp2_with fail
                first | refine ⟨fun h => (by cases h), ?_⟩ | refine ⟨trivial, fun h => (by cases h), ?_⟩ | skip
                refine (callsIn_wide.2 Hend.out).mono ?_
                rintro e U2 ⟨rfl, hb2⟩
                have Hbu2 := Lib.hid (Hbu.out.next hb2)
                have Hju2 := Lib.hid (HJb.out _ _ _ Hju.out hb2)
                have Hmu2 := Lib.hid (Hmu.out.below hb2)
                clear hb2 r0 r1 r2 r3 r4 g0 g1 g2 Hbu Hju Hmu Hend hx
                cases he : endsP ⟨xo, xa, xb, xc, xi⟩ with
                | true =>
                  have hf : firstP c k = true := by rw [hfe, he]
                  clear hfe he
                  obtain ⟨rest, hxx⟩ := begs_upto c k hlt
                  rw [if_pos hf] at hxx
                  have hnx := begs_next c k
                  rw [if_pos hf] at hnx
                  obtain ⟨fn, tmps, assign, body, hy, hR⟩ := HY.out (n - 1) _ k rest U2 hxx Hju2.out
                  have HR := Lib.hid hR; clear hR
                  have HXX := Lib.hid (And.intro hxx hnx); clear hxx hnx
                  simp only [encN, Int.ofNat_eq_natCast, Int.natCast_zero, Int.cast_ofNat_Int] at hy
                  gi_wp2_with fail
                  refine ⟨fun h => (by cases h), HR.out.mono ?_⟩
                  rintro e W9 (⟨rfl, hJ9, hK9⟩ | ⟨rfl, hJ9, hK9⟩)
                  · have HJ9 := Lib.hid hJ9; clear hJ9
                    have HK9 := Lib.hid hK9; clear hK9 hy
                    gi_wp2_with fail
                    gi_meet
                    case rel => exact ⟨false, rfl, ⟨(by rw [HXX.out.2]; exact HJ9.out), Hbu2.out.kept HK9.out hS hT⟩, Hmu2.out.keeps HK9.out.2 Hng.out⟩
                  · have HJ9 := Lib.hid hJ9; clear hJ9
                    have HK9 := Lib.hid hK9; clear hK9 hy
                    gi_wp2_with fail
                    gi_meet
                    case rel => exact ⟨true, rfl, ⟨_, ⟨rest, (by rw [HXX.out.1]; simp)⟩, HJ9.out⟩, Hmu2.out.keeps HK9.out.2 Hng.out⟩
                | false =>
                  have Hfe := Lib.hid (show firstP c k = false by rw [hfe, he])
                  clear hfe he
                  gi_wp2_with fail
                  gi_meet
                  case rel => exact ⟨false, rfl, ⟨(by rw [begs_next, Hfe.out]; simpa using Hju2.out), Hbu2.out⟩, Hmu2.out⟩
          case rest =>
            obtain ⟨b, rfl, hc2, hms2⟩ := hcut
            clear g0 g1 g2 Hbu Hju Hmu
            have Hm2 := Lib.hid hms2; clear hms2
            cases b with
            | true =>
              obtain ⟨pre, hpre, hjx⟩ := hc2
              have Hp := Lib.hid (And.intro hpre hjx); clear hpre hjx
              gi_wp2
              refine leaves_marks (B := W.heap.size) (Z := fun X => Jx pre X) (fun s X Y row hs hg hr => HJx.out _ X Y row hs hg hr) ?_ ms _ Hm2.out.1 Hm2.out.2.1 (by rw [Hgb.out]; exact Hm2.out.2.2) Hp.out.2
              intro Z hz
              exact ⟨_, results_none rfl _ _ _, ⟨_, rfl⟩, .inr ⟨_, Hp.out.1, hz⟩⟩
            | false =>
              obtain ⟨hj2, hb2⟩ := hc2
              have Hp := Lib.hid (And.intro hj2 hb2); clear hj2 hb2
              gi_wp2
              refine ⟨⟨k + 1, _, _, _, _, _, _, _, _, _, _, _, _, _, _, _, _, _, _, _, _, _, _, _, _, _, _, _, _, _, _, _, _, _, _, _, _, _, _, _, _, _, _, _, _, _, ⟨by omega, Hp.out.2, Hp.out.1, Hm2.out⟩, rfl⟩, by simp [intOf]; omega⟩
        · obtain rfl : k = c.length := by omega
          have Hju := Lib.hid hju; clear hju
          have Hmu := Lib.hid hms; clear hms
          clear hbs hk Hbs Hbel HJ0
          gi_wp2_with fail
          refine leaves_marks (B := W.heap.size) (Z := fun X => J (begsP c) X) (fun s X Y row hs hg hr => HJ.out _ X Y row hs hg hr) ?_ ms _ Hmu.out.1 Hmu.out.2.1 (by rw [Hgb.out]; exact Hmu.out.2.2) Hju.out
          intro Z hz
          exact ⟨_, results_none rfl _ _ _, ⟨_, rfl⟩, .inl hz⟩

end Go.Proofs.YtehnailokgoekaaDoor
