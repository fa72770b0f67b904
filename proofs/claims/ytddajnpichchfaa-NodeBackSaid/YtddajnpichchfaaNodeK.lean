/- A node: grants. Conditions: those stated in each theorem. -/
import Derived.Test.YtddajnpichchfaaNodeJ
import Derived.Maps.AppendAt
namespace Go.Proofs.Ytddajnpichchfaa
open Go.RowKit Go.BigFrame Go.Sort

theorem Try.infoM : (Try.prog.info? 52).map (fun i => (i.zero, i.size, i.bytes)) = some (some (.agg MsgV.zero.cells.toArray), 11, 88) := by kernel_rfl
theorem msg_zero_cells : MsgV.zero.cells = [.int .i64 0, .int .i64 0, .int .i64 0, .int .u64 0, .int .u64 0, .int .u64 0, .int .u64 0, .int .u64 0, .int .u64 0, .int .u64 0, .int .u64 0] := rfl

section
variable {w w' : World} {lo a p S : Nat} {bs : List Nat} {ways : Nat} {bv : Value} {n : Nd}

theorem promote_x {ss : Sets} {u : Int} (h : CacheAt w p S bs ways ss u) (k : Int) (x0 x1 x2 x3 x4 x5 x6 x7 : Int) :
    Calls Try.prog 42 #[.pointer (some ⟨p, 0, none⟩), .int .i64 k, .agg #[.int .u64 x0, .int .u64 x1, .int .u64 x2, .int .u64 x3, .int .u64 x4, .int .u64 x5, .int .u64 x6, .int .u64 x7]] w fun e w' => e = .returned (.int .i64 (promoteX ss k)) ∧ CacheAt w' p S bs ways (promoteL ss u k ⟨x0, x1, x2, x3, x4, x5, x6, x7⟩).1 u ∧ Tch (Turns p bs) w w' :=
  (promote_any h k ⟨x0, x1, x2, x3, x4, x5, x6, x7⟩).mono fun e w' hd => ⟨by rw [← promoteL_val ss u k ⟨x0, x1, x2, x3, x4, x5, x6, x7⟩]; exact hd.1, by have := hd.2.1; rwa [promoteL_u] at this, hd.2.2⟩
theorem promoteL_same (ss : Sets) (u k : Int) (d : L8) (h : promoteX ss k ≠ 0) : (promoteL ss u k d).1 = ss := by
  unfold promoteX at h
  unfold promoteL
  split
  · rfl
  · rename_i hf
    rw [hf] at h
    split
    · rename_i h2; simp [h2] at h
    · rfl
theorem grant_keeps (h : NodeAt w lo a p S bs ways bv n) {b4 : Nat} {kd co ln x0 x1 x2 x3 x4 x5 x6 x7 : Int} (hb : Holds w b4 52 (MsgV.cells ⟨kd, co, ln, ⟨x0, x1, x2, x3, x4, x5, x6, x7⟩⟩)) (hn : ¬ Turns p bs b4) (V : World) (hT : Tch (Turns p bs) w V) :
    V.cell? ⟨a, 2, none⟩ = some (.pointer (some ⟨p, 0, none⟩)) ∧ V.cell? ⟨b4, 2, none⟩ = some (.int .i64 ln) ∧ V.cell? ⟨b4, 3, none⟩ = some (.int .u64 x0) ∧ V.cell? ⟨b4, 4, none⟩ = some (.int .u64 x1) ∧ V.cell? ⟨b4, 5, none⟩ = some (.int .u64 x2) ∧ V.cell? ⟨b4, 6, none⟩ = some (.int .u64 x3) ∧ V.cell? ⟨b4, 7, none⟩ = some (.int .u64 x4) ∧ V.cell? ⟨b4, 8, none⟩ = some (.int .u64 x5) ∧ V.cell? ⟨b4, 9, none⟩ = some (.int .u64 x6) ∧ V.cell? ⟨b4, 10, none⟩ = some (.int .u64 x7) := by
  have h7 := hT.holds hn hb
  exact ⟨(hT.holds h.not_turns.1 h.head).cell (i := 2) rfl, h7.cell (i := 2) rfl, h7.cell (i := 3) rfl, h7.cell (i := 4) rfl, h7.cell (i := 5) rfl, h7.cell (i := 6) rfl, h7.cell (i := 7) rfl, h7.cell (i := 8) rfl, h7.cell (i := 9) rfl, h7.cell (i := 10) rfl⟩

/-- A message behind what was answered. -/
theorem NOut.snoc {w4 w5 w6 : World} {n' : Nd} {ms : List MsgV} {v v' : Value} {m : MsgV} (hlt : a < w.heap.size ∧ p < w.heap.size ∧ S < w.heap.size ∧ ∀ b ∈ bs, b < w.heap.size) (hn : NOut w lo a p S bs ways bv n' ms v w4) (hb : Below w4.heap.size w4 w5) (ho : w6.ownsRow w.heap.size 52 11 v' (ms.length + 1) (ms.flatMap MsgV.cells ++ m.cells)) (hg : w5.grownBy w6 v.ownBlock) (hv : v'.ownBlock = v.ownBlock ∨ v'.ownBlock = some w5.heap.size) :
    NOut w lo a p S bs ways bv n' (ms ++ [m]) v' w6 := by
  obtain ⟨bv', h1, h2, h3, h4⟩ := hn
  have h5 := h2.below hb (Nat.le_refl _)
  have hgv : ∀ g, v.ownBlock = some g → w.heap.size ≤ g := fun g e => (owns_lt h1.1 e).1
  have hT : Tch (fun k => v.ownBlock = some k) w5 w6 := (Tch.refl _ w5).grown hg (fun k e => .inl e)
  refine ⟨bv', ⟨by rw [List.length_append, List.flatMap_append]; simpa using ho, fun g e => ?_⟩, ?_, ((h3.trans (below_own hb)).grown hg (fun k e => .inr (hgv k e))), h4⟩
  · rcases hv with h | h
    · exact h1.2 g (by rw [← h]; exact e)
    · rw [h] at e
      cases e
      exact fun e2 => absurd (owns_lt h5.own e2).2 (Nat.lt_irrefl _)
  · exact h5.frame hT (fun e => by have := hgv _ e; omega) (fun e => by have := hgv _ e; omega) (fun e => by have := hgv _ e; omega) (fun b hb e => by have := hgv _ e; have := hlt.2.2.2 b hb; omega) (fun g e e2 => h1.2 g e2 e)
theorem NodeAt.lts (h : NodeAt w lo a p S bs ways bv n) : a < w.heap.size ∧ p < w.heap.size ∧ S < w.heap.size ∧ ∀ b ∈ bs, b < w.heap.size := ⟨h.head.lt, h.cache.lt.1, h.cache.lt.2.1, h.cache.lt.2.2⟩
theorem Nd.letGo_core (n : Nd) (e : Ent) : (n.letGo e).1.core = n.core := by unfold Nd.letGo; split <;> rfl
theorem fill_core (n : Nd) (l st : Int) (d : L8) : (n.fill l st d).1.core = n.core := by unfold Nd.fill; split <;> rw [Nd.letGo_core] <;> rfl
theorem Nd.letGo_len (n : Nd) (e : Ent) : (n.letGo e).2.length ≤ 1 := by unfold Nd.letGo; split <;> simp
theorem fill_len (n : Nd) (l st : Int) (d : L8) : (n.fill l st d).2.length ≤ 1 := by unfold Nd.fill; split <;> exact Nd.letGo_len _ _
theorem hearG_yes (n : Nd) (m : MsgV) (st : Int) (h : promoteX n.ss m.line = 0) : n.hearG m st = ({ n with out := MsgV.zero, ss := (promoteL n.ss n.u m.line m.data).1 }, [n.msg 7 m.line]) := by
  unfold Nd.hearG; exact if_pos h
theorem hearG_no (n : Nd) (m : MsgV) (st : Int) (h : promoteX n.ss m.line ≠ 0) : n.hearG m st = ((({ n with out := MsgV.zero } : Nd).fill m.line st m.data).1, (({ n with out := MsgV.zero } : Nd).fill m.line st m.data).2 ++ [n.msg 7 m.line]) := by
  unfold Nd.hearG; exact if_neg h

set_option maxRecDepth 100000 in
set_option maxHeartbeats 4000000 in
theorem hearG_any (h : NodeAt w lo a p S bs ways bv n) (m : MsgV) (st : Int) (h0 : 0 ≤ n.u) (hu : n.u < 4294967296) (hl : n.backs.length < 100000) :
    Calls Try.prog 89 #[.pointer (some ⟨a, 0, none⟩), .agg m.cells.toArray, .int .i64 st] w fun e w' => ∃ v, e = .returned v ∧ NOut w lo a p S bs ways bv (n.hearG m st).1 (n.hearG m st).2 v w' := by
  obtain ⟨kd, co, ln, x0, x1, x2, x3, x4, x5, x6, x7⟩ := m
  have hb0 : Below w.heap.size w (w.alloc (.cells (MsgV.cells ⟨kd, co, ln, ⟨x0, x1, x2, x3, x4, x5, x6, x7⟩⟩).toArray 52)) := (Below.refl _ w).alloc (Nat.le_refl _) _
  have h1 := h.below hb0 (Nat.le_refl _)
  have h7 : Holds (w.alloc (.cells (MsgV.cells ⟨kd, co, ln, ⟨x0, x1, x2, x3, x4, x5, x6, x7⟩⟩).toArray 52)) w.heap.size 52 (MsgV.cells ⟨kd, co, ln, ⟨x0, x1, x2, x3, x4, x5, x6, x7⟩⟩) := Holds.new w _ _
  have hl0 := h.cache.lt
  have hal := h.head.lt
  have hown : ∀ k, Own a p bs bv k → k < w.heap.size := fun k hk => by
    rcases hk with rfl | hk | hk
    · exact hal
    · exact hk.elim (fun e => by omega) (fun hm => hl0.2.2 _ hm)
    · exact (owns_lt h.own hk).2
  have hT0 : Tch (Own a p bs bv) w (w.alloc (.cells (MsgV.cells ⟨kd, co, ln, ⟨x0, x1, x2, x3, x4, x5, x6, x7⟩⟩).toArray 52)) := below_own hb0
  have hs1 : (w.alloc (.cells (MsgV.cells ⟨kd, co, ln, ⟨x0, x1, x2, x3, x4, x5, x6, x7⟩⟩).toArray 52)).heap.size = w.heap.size + 1 := by simp
  have Hown := Lib.hid hown; clear hown
  have Hlts := Lib.hid h.lts
  simp only [MsgV.cells] at h1 h7 hs1 hT0 ⊢
  clear h hb0 hl0
  have hT2 : Tch (Own a p bs bv) (w.alloc (.cells #[.int .i64 kd, .int .i64 co, .int .i64 ln, .int .u64 x0, .int .u64 x1, .int .u64 x2, .int .u64 x3, .int .u64 x4, .int .u64 x5, .int .u64 x6, .int .u64 x7] 52)) ((w.alloc (.cells #[.int .i64 kd, .int .i64 co, .int .i64 ln, .int .u64 x0, .int .u64 x1, .int .u64 x2, .int .u64 x3, .int .u64 x4, .int .u64 x5, .int .u64 x6, .int .u64 x7] 52)).setCells a 3 MsgV.zero.cells) := Tch.setCells (.inl (.inl rfl)) _ _ (Tch.refl _ _)
  have h2 := h1.sets 3 MsgV.zero.cells { n with out := MsgV.zero } rfl rfl rfl rfl
  have hno : ¬ Own a p bs bv w.heap.size := fun e => by have := Hown.out _ e; omega
  have h72 := hT2.holds hno h7
  have ht := h1.head.there' 3 11 (by rw [Nd.len]; omega)
  have Ht := Lib.hid ht; clear ht
  have hs2 : w.heap.size + 1 ≤ ((w.alloc (.cells #[.int .i64 kd, .int .i64 co, .int .i64 ln, .int .u64 x0, .int .u64 x1, .int .u64 x2, .int .u64 x3, .int .u64 x4, .int .u64 x5, .int .u64 x6, .int .u64 x7] 52)).setCells a 3 MsgV.zero.cells).heap.size := by have := hT2.size; omega
  have Hs2 := Lib.hid hs2; clear hs2
  have HT2 := Lib.hid (hT0.trans hT2); clear hT0 hT2 h1 h7
  have hk0 := grant_keeps h2 h72 (fun e => hno (.inr (.inl e))) _ (Tch.refl _ _)
  obtain ⟨k2, c2, e0, e1, e2, e3, e4, e5, e6, e7⟩ := hk0
  have HK := Lib.hid (grant_keeps h2 h72 (fun e => hno (.inr (.inl e))))
  have H2 := Lib.hid (And.intro h2 h72); clear h2 h72
  go_enter Try.func89, Try.ntmps89
  go_wp2_with (refine wpList_store_mid rfl 52 (.tmp 11) (.tmp 9) rfl a 3 MsgV.zero.cells.toArray rfl rfl ?_ Try.size52 (oneMsg _) ?_; exact Ht.out; change wpList _ _ _ _ _ ((w.alloc (.cells #[.int .i64 kd, .int .i64 co, .int .i64 ln, .int .u64 x0, .int .u64 x1, .int .u64 x2, .int .u64 x3, .int .u64 x4, .int .u64 x5, .int .u64 x6, .int .u64 x7] 52)).setCells a 3 MsgV.zero.cells); generalize (w.alloc (.cells #[.int .i64 kd, .int .i64 co, .int .i64 ln, .int .u64 x0, .int .u64 x1, .int .u64 x2, .int .u64 x3, .int .u64 x4, .int .u64 x5, .int .u64 x6, .int .u64 x7] 52)).setCells a 3 MsgV.zero.cells = W1 at *; generalize hb4 : w.heap.size = b4 at *; have Hb4 := Lib.hid hb4; clear hb4)
  have hTd : Tch (Turns p bs) W1 W1.drew := (Tch.refl _ W1).drew
  have HTd := Lib.hid hTd; clear hTd
  have Hno := Lib.hid hno; clear hno
  have HP := Lib.hid (promote_x (w := W1.drew) (H2.out.1.cache.below (drew_below (Below.refl W1.heap.size W1)) (Nat.le_refl _)) ln x0 x1 x2 x3 x4 x5 x6 x7)
  clear hs1 hal
  obtain ⟨i0, hi0, hz0, hz1, hz2⟩ := info_parts Try.infoM
  have Hi := Lib.hid hi0; clear hi0
  have Hz0 := Lib.hid hz0; clear hz0
  have Hz1 := Lib.hid hz1; clear hz1
  have Hz2 := Lib.hid hz2; clear hz2
  go_still_tail 8, (by kernel_rfl)
  change wpList _ _ _ _ _ W1.drew
  clear k2 c2 e0 e1 e2 e3 e4 e5 e6 e7
  by_cases hp : promoteX n.ss ln = 0
  · have HP0 : Hid (Calls Try.prog 42 #[.pointer (some ⟨p, 0, none⟩), .int .i64 ln, .agg #[.int .u64 x0, .int .u64 x1, .int .u64 x2, .int .u64 x3, .int .u64 x4, .int .u64 x5, .int .u64 x6, .int .u64 x7]] W1.drew fun e w' => e = .returned (.int .i64 0) ∧ CacheAt w' p S bs ways (promoteL n.ss n.u ln ⟨x0, x1, x2, x3, x4, x5, x6, x7⟩).1 n.u ∧ Tch (Turns p bs) W1.drew w') := Lib.hid (by have := HP.out; rw [show promoteX ({ n with out := MsgV.zero } : Nd).ss ln = 0 from hp] at this; exact this)
    have Hp := Lib.hid hp; clear hp HP
    go_wp2_with fail
    refine HP0.out.mono ?_
    rintro e V ⟨rfl, hc, hT⟩
    have h2 := (H2.out.1.below (drew_below (Below.refl W1.heap.size W1)) (Nat.le_refl _)).turnu hc hT
    have hT2 := HT2.out.trans (tch_own (HTd.out.trans hT))
    have hbx := (HTd.out.trans hT).holds (fun e => Hno.out (.inr (.inl e))) H2.out.2
    have d2 : V.cell? ⟨b4, 2, none⟩ = some (.int .i64 ln) := hbx.cell (i := 2) rfl
    have HM := Lib.hid (message_any h2 7 ln)
    have H3 := Lib.hid (And.intro h2 hT2)
    clear hc hT h2 hT2 hbx HP0
    go_wp2_with fail
    refine HM.out.mono ?_
    rintro e w5 ⟨rfl, hb5⟩
    have h5 := H3.out.1.below hb5 (Nat.le_refl _)
    have hT5 := H3.out.2.trans (below_own (a := a) (p := p) (bs := bs) (bv := bv) hb5)
    have H5 := Lib.hid (And.intro h5 hT5)
    have hnil : (w5.alloc (.cells #[.int .i64 7, .int .i64 n.core, .int .i64 ln, .int .u64 0, .int .u64 0, .int .u64 0, .int .u64 0, .int .u64 0, .int .u64 0, .int .u64 0, .int .u64 0] 52)).ownsRow w5.heap.size 52 11 (.slice none 0 0) 0 [] := ⟨rfl, .inl ⟨rfl, rfl⟩⟩
    have Hnil := Lib.hid hnil
    clear h5 hT5 hb5 d2 hnil
    simp only [Nd.msg, MsgV.cells, L8.zero]
    go_wp2_with (at_builtin; refine wpList_append_own_at _ rfl (.tmp 29) (.tmp 34) 46 rfl w5.heap.size 52 i0 (.agg MsgV.zero.cells.toArray) 11 88 Try.underlying46 Hi.out Hz0.out Hz1.out Hz2.out rfl (by omega) (.slice none 0 0) 0 ([]) rfl Hnil.out ⟨w5.heap.size, 0, none⟩ 1 1 [.int .i64 7, .int .i64 n.core, .int .i64 ln, .int .u64 0, .int .u64 0, .int .u64 0, .int .u64 0, .int .u64 0, .int .u64 0, .int .u64 0, .int .u64 0] rfl rfl (World.news_of_block (t := 52) (fr := (0, 0)) (World.alloc_heap_new w5 _)) (by simp [Value.oneCell']) (by unfold maxLen; omega) (by omega) (by simp) ?_; intro v' w6 hown6 hgrow6 hnil6 hat6)
    have hB : Below w5.heap.size w5 (w5.alloc (.cells #[.int .i64 7, .int .i64 n.core, .int .i64 ln, .int .u64 0, .int .u64 0, .int .u64 0, .int .u64 0, .int .u64 0, .int .u64 0, .int .u64 0, .int .u64 0] 52)) := (Below.refl _ w5).alloc (Nat.le_refl _) _
    have hN := NOut.snoc (m := n.msg 7 ln) (by rw [Hb4.out]; exact Hlts.out) (NOut.self H5.out.1 H5.out.2) hB (owns_mono (show w6.ownsRow _ _ _ _ _ _ from hown6) (fun g e => Nat.le_trans H5.out.2.size (owns_lt hown6 e).1)) hgrow6 (by exact hat6)
    have HN := Lib.hid hN
    clear hN hB hown6 hgrow6 hnil6 hat6
    go_wp2
    go_ret
    refine ⟨v', rfl, ?_⟩
    rw [hearG_yes n ⟨kd, co, ln, ⟨x0, x1, x2, x3, x4, x5, x6, x7⟩⟩ st Hp.out]
    exact HN.out
  · have hpne : (promoteX n.ss ln != 0) = true := by simpa using hp
    have hsame := promoteL_same n.ss n.u ln ⟨x0, x1, x2, x3, x4, x5, x6, x7⟩ hp
    have HP0 : Hid (Calls Try.prog 42 #[.pointer (some ⟨p, 0, none⟩), .int .i64 ln, .agg #[.int .u64 x0, .int .u64 x1, .int .u64 x2, .int .u64 x3, .int .u64 x4, .int .u64 x5, .int .u64 x6, .int .u64 x7]] W1.drew fun e w' => e = .returned (.int .i64 (promoteX n.ss ln)) ∧ CacheAt w' p S bs ways n.ss n.u ∧ Tch (Turns p bs) W1.drew w') := Lib.hid (by have := HP.out; simp only [hsame] at this; exact this)
    have Hp := Lib.hid hp; clear hp HP hsame
    go_wp2_with fail
    refine HP0.out.mono ?_
    rintro e V ⟨rfl, hc, hT⟩
    have h2 := (H2.out.1.below (drew_below (Below.refl W1.heap.size W1)) (Nat.le_refl _)).turnu hc hT
    have hT2 := HT2.out.trans (tch_own (HTd.out.trans hT))
    have hbx := (HTd.out.trans hT).holds (fun e => Hno.out (.inr (.inl e))) H2.out.2
    have d2 : V.cell? ⟨b4, 2, none⟩ = some (.int .i64 ln) := hbx.cell (i := 2) rfl
    have d3 : V.cell? ⟨b4, 3, none⟩ = some (.int .u64 x0) := hbx.cell (i := 3) rfl
    have d4 : V.cell? ⟨b4, 4, none⟩ = some (.int .u64 x1) := hbx.cell (i := 4) rfl
    have d5 : V.cell? ⟨b4, 5, none⟩ = some (.int .u64 x2) := hbx.cell (i := 5) rfl
    have d6 : V.cell? ⟨b4, 6, none⟩ = some (.int .u64 x3) := hbx.cell (i := 6) rfl
    have d7 : V.cell? ⟨b4, 7, none⟩ = some (.int .u64 x4) := hbx.cell (i := 7) rfl
    have d8 : V.cell? ⟨b4, 8, none⟩ = some (.int .u64 x5) := hbx.cell (i := 8) rfl
    have d9 : V.cell? ⟨b4, 9, none⟩ = some (.int .u64 x6) := hbx.cell (i := 9) rfl
    have d10 : V.cell? ⟨b4, 10, none⟩ = some (.int .u64 x7) := hbx.cell (i := 10) rfl
    have HFl := Lib.hid (nfill_any h2 ln st ⟨x0, x1, x2, x3, x4, x5, x6, x7⟩ h0 hu hl)
    have H3 := Lib.hid (And.intro h2 (And.intro hT2 hbx))
    clear hc hT h2 hT2 hbx HP0
    generalize hpx : promoteX n.ss ln = px at *
    have Hpx := Lib.hid hpx; clear hpx
    go_wp2_with fail
    refine HFl.out.mono ?_
    rintro e w4 ⟨v, rfl, hn⟩
    have hcore : (({ n with out := MsgV.zero } : Nd).fill ln st ⟨x0, x1, x2, x3, x4, x5, x6, x7⟩).1.core = n.core := fill_core _ _ _ _
    have hml := fill_len ({ n with out := MsgV.zero } : Nd) ln st ⟨x0, x1, x2, x3, x4, x5, x6, x7⟩
    have hall := hn
    obtain ⟨bv4, o4, n4, t4, g4⟩ := hn
    have hbx4 := t4.holds Hno.out H3.out.2.2
    have dd2 : w4.cell? ⟨b4, 2, none⟩ = some (.int .i64 ln) := hbx4.cell (i := 2) rfl
    have HM := Lib.hid (show Calls Try.prog 85 #[.pointer (some ⟨a, 0, none⟩), .int .i64 7, .int .i64 ln] w4 (fun e w' => e = .returned (.agg (n.msg 7 ln).cells.toArray) ∧ Below w4.heap.size w4 w') from by
      have := message_any n4 7 ln
      rwa [show (({ n with out := MsgV.zero } : Nd).fill ln st ⟨x0, x1, x2, x3, x4, x5, x6, x7⟩).1.msg 7 ln = n.msg 7 ln from by unfold Nd.msg; rw [hcore]] at this)
    have HN4 := Lib.hid (hall.after H3.out.2.1)
    have O4 := Lib.hid o4.1
    have Hml := Lib.hid hml
    have Hvs := Lib.hid t4.size
    clear hall o4 n4 t4 g4 hbx4 hml hcore d2 d3 d4 d5 d6 d7 d8 d9 d10 HFl
    generalize hms : (({ n with out := MsgV.zero } : Nd).fill ln st ⟨x0, x1, x2, x3, x4, x5, x6, x7⟩).2 = ms at *
    have Hms := Lib.hid hms; clear hms
    go_wp2_with fail
    refine HM.out.mono ?_
    rintro e w5 ⟨rfl, hb5⟩
    have hown : (w5.alloc (.cells #[.int .i64 7, .int .i64 n.core, .int .i64 ln, .int .u64 0, .int .u64 0, .int .u64 0, .int .u64 0, .int .u64 0, .int .u64 0, .int .u64 0, .int .u64 0] 52)).ownsRow V.heap.size 52 11 v ms.length (ms.flatMap MsgV.cells) := owns_same O4.out (fun g e => by
      have hg := (owns_lt O4.out e).2
      exact (Below.heap_alloc w5 _ g (Nat.lt_of_lt_of_le hg hb5.size)).trans (hb5.block g hg))
    have Hown5 := Lib.hid hown
    have Hvs5 := Lib.hid (Nat.le_trans Hvs.out hb5.size)
    have HB5 := Lib.hid hb5
    clear hown hb5 dd2
    simp only [Nd.msg, MsgV.cells, L8.zero]
    go_wp2_with (at_builtin; refine wpList_append_own_at _ rfl (.tmp 29) (.tmp 34) 46 rfl V.heap.size 52 i0 (.agg MsgV.zero.cells.toArray) 11 88 Try.underlying46 Hi.out Hz0.out Hz1.out Hz2.out rfl (by omega) v ms.length (ms.flatMap MsgV.cells) rfl Hown5.out ⟨w5.heap.size, 0, none⟩ 1 1 [.int .i64 7, .int .i64 n.core, .int .i64 ln, .int .u64 0, .int .u64 0, .int .u64 0, .int .u64 0, .int .u64 0, .int .u64 0, .int .u64 0, .int .u64 0] rfl rfl (World.news_of_block (t := 52) (fr := (0, 0)) (World.alloc_heap_new w5 _)) (by simp [Value.oneCell']) (by have := Hml.out; unfold maxLen; omega) (by have := Hml.out; omega) (by have := Hvs5.out; simp; omega) ?_; intro v' w6 hown6 hgrow6 hnil6 hat6)
    have hB : Below w4.heap.size w4 (w5.alloc (.cells #[.int .i64 7, .int .i64 n.core, .int .i64 ln, .int .u64 0, .int .u64 0, .int .u64 0, .int .u64 0, .int .u64 0, .int .u64 0, .int .u64 0, .int .u64 0] 52)) := HB5.out.alloc HB5.out.size _
    have hN := NOut.snoc (m := n.msg 7 ln) (by rw [Hb4.out]; exact Hlts.out) HN4.out hB (owns_mono (show w6.ownsRow _ _ _ _ _ _ from hown6) (fun g e => Nat.le_trans H3.out.2.1.size (owns_lt hown6 e).1)) hgrow6 hat6
    have HN := Lib.hid hN
    clear hN hB hown6 hgrow6 hnil6 hat6
    go_wp2
    go_ret
    refine ⟨v', rfl, ?_⟩
    rw [hearG_no n ⟨kd, co, ln, ⟨x0, x1, x2, x3, x4, x5, x6, x7⟩⟩ st (by rw [show promoteX n.ss (MsgV.mk kd co ln ⟨x0, x1, x2, x3, x4, x5, x6, x7⟩).line = px from Hpx.out]; exact Hp.out), show (({ n with out := MsgV.zero } : Nd).fill (MsgV.mk kd co ln ⟨x0, x1, x2, x3, x4, x5, x6, x7⟩).line st (MsgV.mk kd co ln ⟨x0, x1, x2, x3, x4, x5, x6, x7⟩).data).2 = ms from Hms.out]
    exact HN.out
end

end Go.Proofs.Ytddajnpichchfaa
