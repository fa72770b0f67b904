/- Join beside the document's own: the law's first loop (the lists are lent). Conditions: those stated in each theorem. -/
import Derived.Test.YthjbcpgncnchoaaLjA
import Derived.Laws.AppendOwnNone
import Derived.Deep.RegionHeld3
namespace Go.Proofs.Ythjbcpgncnchoaa
open Go.RowKit Go.BigFrame

theorem owns_cap {w : World} {lo n m cap : Nat} {e : TypeId} {size : Nat} {ad : Option Addr} {xs : List Value} (h : w.ownsRow lo e size (.slice ad m cap) n xs) (hn : 0 < n) : n ≤ cap := by
  rcases h.2 with ⟨_, h0⟩ | ⟨g, c, cur, hv, _, _, h1, _⟩
  · omega
  · cases hv; exact h1
/-- Lists that came in. -/
def PartsC (w : World) (a : Option Addr) (ls : List (List In)) : Prop :=
  ∀ (k : Nat) (l : List In), ls[k]? = some l → ∃ q c ad cap, a = some ⟨q, c, none⟩ ∧ w.cell? ⟨q, c + k, none⟩ = some (.slice ad l.length cap) ∧ RowsIn w ad 5 In.cells l ∧ (ad = none → l = [] ∧ cap = 0)
theorem PartsC.below {w w' : World} {a : Option Addr} {ls : List (List In)} (h : PartsC w a ls) (hb : Below w.heap.size w w') : PartsC w' a ls := fun k l hl => by
  obtain ⟨q, c, ad, cap, h1, h2, h3, h4⟩ := h k l hl
  refine ⟨q, c, ad, cap, h1, ?_, h3.below hb, h4⟩
  rw [World.cell?_of_block (a := ⟨q, c + k, none⟩) (hb.block q (World.block_lt_of_cell? _ _ h2))]
  exact h2
theorem PartsC.parts {w : World} {a : Option Addr} {ls : List (List In)} (h : PartsC w a ls) : PartsIn w a ls := fun k l hl => by
  obtain ⟨q, c, ad, cap, h1, h2, h3, _⟩ := h k l hl
  exact ⟨q, c, ad, cap, h1, h2, h3⟩

def i77 : In := ⟨77, 0, 0, 0, 0⟩
/-- Lists that were lent: each is the first part of a row of its own, with one behind it. -/
def LentAt (w : World) (B : Nat) (lv : List Value) (ls : List (List In)) : Prop :=
  lv.length = ls.length ∧ ∀ (i : Nat) (l : List In) (v : Value), ls[i]? = some l → lv[i]? = some v → ∃ g cap, v = .slice (some ⟨g, 0, none⟩) l.length cap ∧ w.ownsRow B 40 5 (.slice (some ⟨g, 0, none⟩) (l.length + 1) cap) (l.length + 1) (flatI (l ++ [i77]))
theorem LentAt.same {w w' : World} {B : Nat} {lv : List Value} {ls : List (List In)} (h : LentAt w B lv ls) (hs : ∀ k c, B ≤ k → w.heap[k]? = some (.cells c 40 (0, 0)) → w'.heap[k]? = w.heap[k]?) : LentAt w' B lv ls :=
  ⟨h.1, fun i l v hl hv => by
    obtain ⟨g, cap, e, ho⟩ := h.2 i l v hl hv
    obtain ⟨c, hc⟩ := owns_kind ho (k := g) rfl
    exact ⟨g, cap, e, owns_same ho (fun g' e' => by cases e'; exact hs g c (owns_lt ho rfl).1 hc)⟩⟩
theorem LentAt.snoc {w : World} {B g cap : Nat} {lv : List Value} {ls : List (List In)} (h : LentAt w B lv ls) {l : List In} (ho : w.ownsRow B 40 5 (.slice (some ⟨g, 0, none⟩) (l.length + 1) cap) (l.length + 1) (flatI (l ++ [i77]))) :
    LentAt w B (lv ++ [.slice (some ⟨g, 0, none⟩) l.length cap]) (ls ++ [l]) :=
  ⟨by simp [h.1], fun i l' v hl hv => by
    by_cases hi : i < ls.length
    · rw [List.getElem?_append_left hi] at hl
      rw [List.getElem?_append_left (by rw [h.1]; exact hi)] at hv
      exact h.2 i l' v hl hv
    · rw [List.getElem?_append_right (by omega)] at hl
      rw [List.getElem?_append_right (by rw [h.1]; omega)] at hv
      have : i - ls.length = 0 := by have := (List.getElem?_eq_some_iff.1 hl).1; simp at this; omega
      rw [h.1, this] at hv
      rw [this] at hl
      simp at hl hv
      subst hl; subst hv
      exact ⟨g, cap, rfl, ho⟩⟩
theorem LentAt.rows {w : World} {B : Nat} {lv : List Value} {ls : List (List In)} (h : LentAt w B lv ls) {i : Nat} {l : List In} {v : Value} (hl : ls[i]? = some l) (hv : lv[i]? = some v) : ∃ g cap, v = .slice (some ⟨g, 0, none⟩) l.length cap ∧ RowsIn w (some ⟨g, 0, none⟩) 5 In.cells l ∧ l.length + 1 ≤ cap ∧ w.cell? ⟨g, l.length * 5, none⟩ = some (.int .i64 77) := by
  obtain ⟨g, cap, e, ho⟩ := h.2 i l v hl hv
  refine ⟨g, cap, e, ?_, owns_cap ho (by omega), ?_⟩
  · refine .inr ⟨g, 0, rfl, (owns_lt ho rfl).2, fun k x hx j v hj => ?_⟩
    rw [Nat.zero_add]
    refine (owns_cell ho (g := g) rfl (flatI_at (l ++ [i77]) k x ?_ j v hj)).1
    rw [List.getElem?_append_left (List.getElem?_eq_some_iff.1 hx).1]; exact hx
  · exact (owns_cell ho (g := g) rfl (flatI_at (l ++ [i77]) l.length i77 (by simp) 0 _ rfl)).1
/-- What was lent, as lists in a row of slices. -/
theorem lent_parts {w : World} {B : Nat} {ad : Option Addr} {cap : Nat} {lv : List Value} {ls : List (List In)} (h : LentAt w B lv ls) (ho : w.ownsRow B 32 1 (.slice ad ls.length cap) ls.length lv) : PartsIn w ad ls := fun k l hl => by
  have hk := (List.getElem?_eq_some_iff.1 hl).1
  obtain ⟨v, hv⟩ : ∃ v, lv[k]? = some v := ⟨lv[k]'(by rw [h.1]; exact hk), List.getElem?_eq_getElem _⟩
  rcases owns_form ho with ⟨_, h0, _⟩ | ⟨g, cap', e, _⟩
  · omega
  · cases e
    obtain ⟨g1, c1, rfl, hr, _, _⟩ := h.rows hl hv
    exact ⟨g, 0, _, _, rfl, by rw [Nat.zero_add]; exact (owns_cell ho (g := g) rfl hv).1, hr⟩

/-! ### What Join leaves, and what is turned in it -/
theorem joinP_le (ls : List (List In)) (h : ∀ l ∈ ls, l.length ≤ 300) : ∀ k, (joinP (ls.take k)).length ≤ 300 * k
  | 0 => by simp [joinP]
  | k + 1 => by
    have ih := joinP_le ls h k
    rw [List.take_add_one]
    cases hx : ls[k]? with
    | none => simp only [Option.toList, List.append_nil]; omega
    | some l =>
      simp only [Option.toList]
      rw [joinP_snoc]
      have := h l (List.mem_of_getElem? hx)
      simp only [joinA, List.length_append, List.length_map]
      omega
def inc1 (i : In) : In := { i with op := wrap64 (i.op + 1) }
def incL (J : List In) (k : Nat) : List In := (J.take k).map inc1 ++ J.drop k
theorem incL_len (J : List In) (k : Nat) : (incL J k).length = J.length := by simp [incL]; omega
theorem incL_at {J : List In} {k : Nat} {x : In} (h : J[k]? = some x) : (incL J k)[k]? = some x := by
  have hk := (List.getElem?_eq_some_iff.1 h).1
  unfold incL
  rw [List.getElem?_append_right (by simp; omega)]
  simp only [List.length_map, List.length_take]
  rw [List.getElem?_drop, show k + (k - min k J.length) = k by omega]; exact h
theorem incL_next {J : List In} {k : Nat} {x : In} (h : J[k]? = some x) : flatI (incL J (k + 1)) = (flatI (incL J k)).set (k * 5) (.int .i64 (wrap64 (x.op + 1))) := by
  have hk := (List.getElem?_eq_some_iff.1 h).1
  have hx : J.drop k = x :: J.drop (k + 1) := by rw [← (List.getElem?_eq_some_iff.1 h).2]; exact List.drop_eq_getElem_cons hk
  have hl : (flatI ((J.take k).map inc1)).length = k * 5 := by rw [flatI_len]; simp; omega
  unfold incL
  rw [List.take_add_one, h, hx]
  simp only [Option.toList, List.map_append, List.map_cons, List.map_nil]
  unfold flatI at hl ⊢
  simp only [List.flatMap_append, List.flatMap_cons, List.flatMap_nil, List.append_nil, List.append_assoc]
  rw [List.set_append_right _ _ (by omega), hl, Nat.sub_self]
  rfl

theorem Try.infoS : (Try.prog.info? 32).map (fun i => (i.zero, i.size, i.bytes)) = some (some (.slice none 0 0), 1, 24) := by kernel_rfl

set_option maxRecDepth 100000 in
set_option maxHeartbeats 4000000 in
theorem ljoins_dev (a : Option Addr) (ca : Nat) (ls : List (List In)) (w : World) (hp : PartsC w a ls) (hn : ls.length ≤ 20) :
    Calls Try.prog 4 #[.slice a ls.length ca] w fun e w' => e = .returned (.bool true) ∧ Below w.heap.size w w' := by
  have HP := Lib.hid hp; clear hp
  obtain ⟨i0, hi0, hz0, hz1, hz2⟩ := info_parts Try.infoIn
  have Hi := Lib.hid hi0; clear hi0
  have Hz0 := Lib.hid hz0; clear hz0
  have Hz1 := Lib.hid hz1; clear hz1
  have Hz2 := Lib.hid hz2; clear hz2
  obtain ⟨i1, hi1, hy0, hy1, hy2⟩ := info_parts Try.infoS
  have Hi1 := Lib.hid hi1; clear hi1
  have Hy0 := Lib.hid hy0; clear hy0
  have Hy1 := Lib.hid hy1; clear hy1
  have Hy2 := Lib.hid hy2; clear hy2
  have hn1 : (ls.length : Int) ≤ 20 := by omega
  go_enter Try.func4, Try.ntmps4
  go_wp2_with fail
  go_loopw [3, 4, 5] (fun u3 u4 _ wr => ∃ (k : Nat) (lv : List Value), k ≤ ls.length ∧ u4 = .int .i64 k ∧ wr.ownsRow w.heap.size 32 1 u3 k lv ∧ LentAt wr w.heap.size lv (ls.take k) ∧ (∀ l ∈ ls.take k, l.length ≤ 300) ∧ Below w.heap.size w wr) (fun _ i _ _ => ls.length - (intOf i).toNat)
  case atStart => exact ⟨0, [], by omega, by simp, World.ownsRow_nil _ _ _ _, ⟨rfl, fun i l v h => by simp at h⟩, by simp, Below.refl _ _⟩
  case round =>
    obtain ⟨k, lv, hk, rfl, hown, hlent, hle, hbw⟩ := hrel
    have Hbw := Lib.hid hbw; clear hbw
    obtain ⟨adA, capA, rfl⟩ := row_form hown
    have Hown := Lib.hid hown; clear hown
    have Hlent := Lib.hid hlent; clear hlent
    have Hle := Lib.hid hle; clear hle
    by_cases hlt : k < ls.length
    · obtain ⟨l, hl⟩ : ∃ l, ls[k]? = some l := ⟨ls[k], List.getElem?_eq_getElem hlt⟩
      obtain ⟨q, c, adL, capL, rfl, hcell, hrow, hnil⟩ := HP.out.below Hbw.out k l hl
      have hqw := World.block_lt_of_cell? _ _ hcell
      have hbk : (0 : Int) ≤ k ∧ (k : Int) < ls.length := by omega
      have htk : ls.take (k + 1) = ls.take k ++ [l] := by rw [List.take_add_one, hl]; rfl
      have Htk := Lib.hid htk; clear htk hl
      by_cases h300 : 300 < l.length
      · have h300i : (300 : Int) < l.length := by omega
        clear hnil
        go_wp2_with fail
        exact bodyPost_ret (results_tmp rfl _ _ _) rfl ⟨rfl, Hbw.out⟩
      · have h300i : (l.length : Int) ≤ 300 := by omega
        have Hrow := Lib.hid hrow; clear hrow
        have Hcell := Lib.hid hcell
        cases adL with
        | none =>
          obtain ⟨rfl, rfl⟩ := hnil rfl
          clear hnil
          obtain ⟨v3, hv3⟩ : ∃ v : Value, v = .slice none 0 0 := ⟨_, rfl⟩
          have Hv3 := Lib.hid hv3; clear hv3
          go_wp2_with (at_builtin; refine wpList_append_own_none rfl (.tmp 26) (.tmp 30) 32 rfl w.heap.size 40 i0 5 Try.underlying32 Hi.out v3 0 [] Hv3.out.symm (Hv3.out ▸ World.ownsRow_nil _ _ _ _) rfl ?_; refine Hid.out ?_)
          refine Lib.hid ?_
          have Hb3 : Hid (Below wr.heap.size wr wr) := Lib.hid (Below.refl _ _)
          have Ho3 : Hid (wr.ownsRow wr.heap.size 40 5 v3 0 (flatI [])) := Lib.hid (Hv3.out ▸ World.ownsRow_nil _ _ _ _)
          go_wp2_with (at_builtin; go_loud (refine wpList_append_own_at _ rfl (.tmp 31) (.tmp 33) 32 rfl wr.heap.size 40 i0 _ 5 40 Try.underlying32 Hi.out Hz0.out Hz1.out Hz2.out rfl (by decide) v3 0 (flatI []) rfl (World.ownsRow.alloc Ho3.out _) ⟨wr.heap.size, 0, none⟩ 1 1 [.int .i64 77, .int .i64 0, .int .i64 0, .int .i64 0, .int .i64 0] rfl rfl (World.news_of_block (cs := #[.int .i64 77, .int .i64 0, .int .i64 0, .int .i64 0, .int .i64 0]) (t := 40) (fr := (0, 0)) (new_block wr _)) (by simp [Value.oneCell']) (by unfold maxLen; omega) (by omega) (by simp) ?_); intro v4 w4 hown4 hgrow4 _ _; refine Hid.out ?_)
          refine Lib.hid ?_
          have hb4 : Below wr.heap.size wr w4 := (Hb3.out.alloc Hb3.out.size _).grown hgrow4 (by simp) (fun g e => (owns_lt Ho3.out e).1)
          obtain ⟨g4, cap4, rfl, -, -⟩ := hown4.form (by omega)
          have hcap4 := owns_cap hown4 (by omega)
          have hf4 : flatI [] ++ [.int .i64 77, .int .i64 0, .int .i64 0, .int .i64 0, .int .i64 0] = flatI ([] ++ [i77]) := by rw [flatI_snoc]; rfl
          rw [hf4] at hown4
          have Hown4 := Lib.hid (owns_mono hown4 (lo' := w.heap.size) (fun g e => Nat.le_trans Hbw.out.size (owns_lt hown4 e).1))
          have Hrow4 := Lib.hid (owns_same Hown.out (w' := w4) (fun g e => hb4.block g (owns_lt Hown.out e).2))
          have Hlent4 : Hid (LentAt w4 w.heap.size lv (ls.take k)) := Lib.hid (Hlent.out.same (fun b c _ hc => hb4.block b (Array.getElem?_eq_some_iff.1 hc).1))
          have Hb4 := Lib.hid (Hbw.out.trans (hb4.mono Hbw.out.size))
          have d4 : w4.cell? ⟨q, c + k, none⟩ = some (.slice none 0 0) := by rw [World.cell?_of_block (a := ⟨q, c + k, none⟩) (hb4.block q hqw)]; exact Hcell.out
          clear hown4 hgrow4 hb4 hf4 Ho3 Hb3
          have hc4i : (0 : Int) + 1 ≤ (cap4 : Int) := by omega
          have hc4j : (0 : Int) ≤ (cap4 : Int) := by omega
          have hc4k : 0 ≤ cap4 := by omega
          go_wp2_with (at_builtin; refine wpList_append_own_at _ rfl (.tmp 35) (.tmp 43) 38 rfl w.heap.size 32 i1 _ 1 24 Try.underlying38 Hi1.out Hy0.out Hy1.out Hy2.out rfl (by decide) (.slice adA k capA) k lv rfl (World.ownsRow.alloc Hrow4.out _) ⟨w4.heap.size, 0, none⟩ 1 1 [.slice (some ⟨g4, 0, none⟩) 0 cap4] rfl rfl (World.news_of_block (cs := #[.slice (some ⟨g4, 0, none⟩) 0 cap4]) (t := 32) (fr := (0, 0)) (new_block w4 _)) (by simp [Value.oneCell']) (by unfold maxLen; omega) (by omega) (by have := Hb4.out.size; simp; omega) ?_; intro v6 w6 hown6 hgrow6 _ _; refine Hid.out ?_)
          refine Lib.hid ?_
          have hT6 : Tch (fun x => (Value.slice adA k capA).ownBlock = some x) w4 w6 := ((Tch.refl _ w4).alloc _).grown hgrow6 (fun b e => .inl e)
          have hb6 : Below w.heap.size w w6 := (Hb4.out.alloc Hb4.out.size _).grown hgrow6 (by have := Hb4.out.size; simp; omega) (fun g e => (owns_lt Hrow4.out e).1)
          have hdiff : ∀ b c', w4.heap[b]? = some (Obj.cells c' 40 (0, 0)) → w6.heap[b]? = w4.heap[b]? := fun b c' hc => hT6.block b (Array.getElem?_eq_some_iff.1 hc).1 (fun e => by
            obtain ⟨c2, hc2⟩ := owns_kind Hrow4.out e
            rw [hc] at hc2; cases hc2)
          have Hlent6 : Hid (LentAt w6 w.heap.size lv (ls.take k)) := Lib.hid (Hlent4.out.same (fun b c' _ hc => hdiff b c' hc))
          have Hown6 := Lib.hid (owns_same Hown4.out (w' := w6) (fun g e => by obtain ⟨c', hc⟩ := owns_kind Hown4.out e; exact hdiff g c' hc))
          have Hrow6 := Lib.hid hown6
          have Hb6 := Lib.hid hb6
          clear hown6 hgrow6 hT6 hb6 hdiff d4 Hlent4 Hown4 Hrow4
          obtain ⟨ad6, cap6, rfl⟩ := row_form Hrow6.out
          go_wp2_with fail
          go_roundw
          case rel => exact ⟨k + 1, _, by omega, by go_num, Hrow6.out, by rw [Htk.out]; exact Hlent6.out.snoc Hown6.out, by
            intro l' hl'
            rw [Htk.out, List.mem_append] at hl'
            rcases hl' with hl' | hl'
            · exact Hle.out l' hl'
            · simp at hl'; subst hl'; simp, Hb6.out⟩
          case measure => simp [intOf]; omega
        | some ad =>
          clear hnil
          go_wp2_with (at_builtin; refine wpList_append_own_at _ rfl (.tmp 26) (.tmp 30) 32 rfl wr.heap.size 40 i0 _ 5 40 Try.underlying32 Hi.out Hz0.out Hz1.out Hz2.out rfl (by decide) (.slice none 0 0) 0 [] rfl (World.ownsRow_nil _ _ _ _) ad l.length capL (flatI l) rfl (by rw [flatI_len]) (rows_news Hrow.out ad rfl) (flatI_one l) (by unfold maxLen; omega) (by omega) (by omega) ?_; intro v3 w3 hown3 hgrow3 _ _; refine Hid.out ?_)
          refine Lib.hid ?_
          have hb3 : Below wr.heap.size wr w3 := (Below.refl _ wr).grown hgrow3 (by omega) (fun g e => by cases e)
          rw [List.nil_append, Nat.zero_add] at hown3
          have Ho3 := Lib.hid hown3
          have Hb3 := Lib.hid hb3
          have d3 : w3.cell? ⟨q, c + k, none⟩ = some (.slice (some ad) l.length capL) := by rw [World.cell?_of_block (a := ⟨q, c + k, none⟩) (hb3.block q hqw)]; exact Hcell.out
          clear hown3 hgrow3 hb3
          go_wp2_with (at_builtin; refine wpList_append_own_at _ rfl (.tmp 31) (.tmp 33) 32 rfl wr.heap.size 40 i0 _ 5 40 Try.underlying32 Hi.out Hz0.out Hz1.out Hz2.out rfl (by decide) v3 l.length (flatI l) rfl (World.ownsRow.alloc Ho3.out _) ⟨w3.heap.size, 0, none⟩ 1 1 [.int .i64 77, .int .i64 0, .int .i64 0, .int .i64 0, .int .i64 0] rfl rfl (World.news_of_block (cs := #[.int .i64 77, .int .i64 0, .int .i64 0, .int .i64 0, .int .i64 0]) (t := 40) (fr := (0, 0)) (new_block w3 _)) (by simp [Value.oneCell']) (by unfold maxLen; omega) (by omega) (by have := Hb3.out.size; simp; omega) ?_; intro v4 w4 hown4 hgrow4 _ _; refine Hid.out ?_)
          refine Lib.hid ?_
          have hb4 : Below wr.heap.size wr w4 := (Hb3.out.alloc Hb3.out.size _).grown hgrow4 (by have := Hb3.out.size; simp; omega) (fun g e => (owns_lt Ho3.out e).1)
          obtain ⟨g4, cap4, rfl, -, -⟩ := hown4.form (by omega)
          have hcap4 := owns_cap hown4 (by omega)
          have hf4 : flatI l ++ [.int .i64 77, .int .i64 0, .int .i64 0, .int .i64 0, .int .i64 0] = flatI (l ++ [i77]) := by rw [flatI_snoc]; rfl
          rw [hf4] at hown4
          have Hown4 := Lib.hid (owns_mono hown4 (lo' := w.heap.size) (fun g e => Nat.le_trans Hbw.out.size (owns_lt hown4 e).1))
          have Hrow4 := Lib.hid (owns_same Hown.out (w' := w4) (fun g e => hb4.block g (owns_lt Hown.out e).2))
          have Hlent4 : Hid (LentAt w4 w.heap.size lv (ls.take k)) := Lib.hid (Hlent.out.same (fun b c _ hc => hb4.block b (Array.getElem?_eq_some_iff.1 hc).1))
          have Hb4 := Lib.hid (Hbw.out.trans (hb4.mono Hbw.out.size))
          have d4 : w4.cell? ⟨q, c + k, none⟩ = some (.slice (some ad) l.length capL) := by rw [World.cell?_of_block (a := ⟨q, c + k, none⟩) (hb4.block q hqw)]; exact Hcell.out
          clear hown4 hgrow4 hb4 hf4 Ho3 Hb3 d3
          have hc4i : (l.length : Int) + 1 ≤ (cap4 : Int) := by omega
          have hc4j : (0 : Int) ≤ (l.length : Int) ∧ (l.length : Int) ≤ (cap4 : Int) := by omega
          have hc4k : l.length ≤ cap4 := by omega
          go_wp2_with (at_builtin; refine wpList_append_own_at _ rfl (.tmp 35) (.tmp 43) 38 rfl w.heap.size 32 i1 _ 1 24 Try.underlying38 Hi1.out Hy0.out Hy1.out Hy2.out rfl (by decide) (.slice adA k capA) k lv rfl (World.ownsRow.alloc Hrow4.out _) ⟨w4.heap.size, 0, none⟩ 1 1 [.slice (some ⟨g4, 0, none⟩) l.length cap4] rfl rfl (World.news_of_block (cs := #[.slice (some ⟨g4, 0, none⟩) l.length cap4]) (t := 32) (fr := (0, 0)) (new_block w4 _)) (by simp [Value.oneCell']) (by unfold maxLen; omega) (by omega) (by have := Hb4.out.size; simp; omega) ?_; intro v6 w6 hown6 hgrow6 _ _; refine Hid.out ?_)
          refine Lib.hid ?_
          have hT6 : Tch (fun x => (Value.slice adA k capA).ownBlock = some x) w4 w6 := ((Tch.refl _ w4).alloc _).grown hgrow6 (fun b e => .inl e)
          have hb6 : Below w.heap.size w w6 := (Hb4.out.alloc Hb4.out.size _).grown hgrow6 (by have := Hb4.out.size; simp; omega) (fun g e => (owns_lt Hrow4.out e).1)
          have hdiff : ∀ b c', w4.heap[b]? = some (Obj.cells c' 40 (0, 0)) → w6.heap[b]? = w4.heap[b]? := fun b c' hc => hT6.block b (Array.getElem?_eq_some_iff.1 hc).1 (fun e => by
            obtain ⟨c2, hc2⟩ := owns_kind Hrow4.out e
            rw [hc] at hc2; cases hc2)
          have Hlent6 : Hid (LentAt w6 w.heap.size lv (ls.take k)) := Lib.hid (Hlent4.out.same (fun b c' _ hc => hdiff b c' hc))
          have Hown6 := Lib.hid (owns_same Hown4.out (w' := w6) (fun g e => by obtain ⟨c', hc⟩ := owns_kind Hown4.out e; exact hdiff g c' hc))
          have Hrow6 := Lib.hid hown6
          have Hb6 := Lib.hid hb6
          clear hown6 hgrow6 hT6 hb6 hdiff d4 Hlent4 Hown4 Hrow4
          obtain ⟨ad6, cap6, rfl⟩ := row_form Hrow6.out
          go_wp2_with fail
          go_roundw
          case rel => exact ⟨k + 1, _, by omega, by go_num, Hrow6.out, by rw [Htk.out]; exact Hlent6.out.snoc Hown6.out, by
            intro l' hl'
            rw [Htk.out, List.mem_append] at hl'
            rcases hl' with hl' | hl'
            · exact Hle.out l' hl'
            · simp at hl'; subst hl'; omega, Hb6.out⟩
          case measure => simp [intOf]; omega
    · obtain rfl : k = ls.length := by omega
      have hl0 := Hlent.out
      rw [List.take_length] at hl0
      have Hl0 := Lib.hid hl0; clear hl0
      have hle0 := Hle.out
      rw [List.take_length] at hle0
      have Hle0 := Lib.hid hle0; clear hle0 Hle Hlent
      have HPw := Lib.hid (fun V (hV : Below wr.heap.size wr V) => (HP.out.below (Hbw.out.trans (hV.mono Hbw.out.size))))
      have hlk : (joinP ls).length ≤ 6000 := by
        have := joinP_le ls Hle0.out ls.length
        rw [List.take_length] at this; omega
      have hR := fun V hV => rjoin_any a ca ls V hV (by omega) (fun l hl => by have := Hle0.out l hl; omega) (fun k => by have := joinP_le ls Hle0.out k; omega)
      have hJ := fun ad cap V hV => join_any ad cap ls V hV (by omega) (fun l hl => by have := Hle0.out l hl; omega) (fun k => by have := joinP_le ls Hle0.out k; omega)
      generalize joinP ls = J at hlk hR hJ
      have HR := Lib.hid hR; clear hR
      have HJ := Lib.hid hJ; clear hJ
      have Hlp := Lib.hid (fun V (hV : Below wr.heap.size wr V) => lent_parts (Hl0.out.same (w' := V) (fun b c' _ hc => hV.block b (Array.getElem?_eq_some_iff.1 hc).1)) (owns_same Hown.out (w' := V) (fun g e => hV.block g (owns_lt Hown.out e).2)))
      go_wp2_with (go_at_call 17; refine (HR.out _ (HPw.out _ (Below.refl _ _)).parts).mono ?_; rintro e w1 ⟨v1, rfl, ho1, hb1⟩; refine Hid.out ?_)
      refine Lib.hid ?_
      obtain ⟨ad1, cap1, rfl⟩ := row_form ho1
      have Ho1 := Lib.hid ho1
      have Hb1 := Lib.hid hb1
      have Hs1 := Lib.hid hb1.size
      have Hg1 := Lib.hid (fun g e => (owns_lt ho1 (g := g) e).2); clear ho1 hb1
      go_wp2_with (go_at_call 18; refine (HJ.out _ _ _ (Hlp.out _ Hb1.out)).mono ?_; rintro e w2 ⟨v2, rfl, ho2, hb2⟩; refine Hid.out ?_)
      refine Lib.hid ?_
      obtain ⟨ad2, cap2, rfl⟩ := row_form ho2
      have Ho2 := Lib.hid ho2
      have Hg2 := Lib.hid (fun g e => (owns_lt ho2 (g := g) e).2)
      have Hw1 := Lib.hid hb2.size
      have Hb2 := Lib.hid (Hb1.out.trans (hb2.mono Hb1.out.size))
      have Ho1 := Lib.hid (owns_same Ho1.out (w' := w2) (fun g e => hb2.block g (owns_lt Ho1.out e).2))
      clear ho2 hb2 Hb1
      go_wp2_with (go_at_call 18; refine (HJ.out _ _ _ (Hlp.out _ Hb2.out)).mono ?_; rintro e w3 ⟨v3, rfl, ho3, hb3⟩; refine Hid.out ?_)
      refine Lib.hid ?_
      obtain ⟨ad3, cap3, rfl⟩ := row_form ho3
      have Ho3 := Lib.hid ho3
      have Hb3 := Lib.hid (Hb2.out.trans (hb3.mono Hb2.out.size))
      have Hw1 := Lib.hid (Nat.le_trans Hw1.out hb3.size)
      have Ho1 := Lib.hid (owns_same Ho1.out (w' := w3) (fun g e => hb3.block g (owns_lt Ho1.out e).2))
      have Ho2 := Lib.hid (owns_same Ho2.out (w' := w3) (fun g e => hb3.block g (owns_lt Ho2.out e).2))
      have Hs2 := Lib.hid Hb2.out.size
      clear ho3 hb3 Hb2
      go_wp2_with (go_at_call 19; refine (same_yes ad2 ad1 cap2 cap1 J w3 (rows_all Ho2.out) (rows_all Ho1.out) (by omega)).mono ?_; rintro e w4 ⟨rfl, hb4⟩; refine Hid.out ?_)
      refine Lib.hid ?_
      have Ho1 := Lib.hid (owns_same Ho1.out (w' := w4) (fun g e => hb4.block g (owns_lt Ho1.out e).2))
      have Ho2 := Lib.hid (owns_same Ho2.out (w' := w4) (fun g e => hb4.block g (owns_lt Ho2.out e).2))
      have Ho3 := Lib.hid (owns_same Ho3.out (w' := w4) (fun g e => hb4.block g (owns_lt Ho3.out e).2))
      have Hb4 := Lib.hid (Hb3.out.trans (hb4.mono Hb3.out.size))
      have Hw1 := Lib.hid (Nat.le_trans Hw1.out hb4.size)
      clear hb4 Hb3
      go_wp2_with fail
      go_loopw [9, 57] (fun _ u57 wr2 => ∃ k : Nat, k ≤ J.length ∧ u57 = .int .i64 k ∧ wr2.ownsRow w1.heap.size 40 5 (.slice ad2 J.length cap2) J.length (flatI (incL J k)) ∧ Tch (fun x => (Value.slice ad2 J.length cap2).ownBlock = some x) w4 wr2) (fun _ i _ => J.length - (intOf i).toNat)
      case atStart => exact ⟨0, by omega, by simp, by simpa [incL] using Ho2.out, Tch.refl _ _⟩
      case round =>
        clear Ho2
        obtain ⟨k2, hk2, rfl, ho2, hT2⟩ := hrel
        by_cases hlt2 : k2 < J.length
        · obtain ⟨x, hx⟩ : ∃ x, J[k2]? = some x := ⟨J[k2], List.getElem?_eq_getElem hlt2⟩
          rcases owns_form ho2 with ⟨_, h0, _⟩ | ⟨g2, cap2', e2, _⟩
          · omega
          cases e2
          obtain ⟨d0, f0⟩ := owns_cell ho2 (g := g2) rfl (flatI_at _ k2 x (incL_at hx) 0 _ rfl)
          have hst := (ho2.stored (k2 * 5) (.int .i64 (wrap64 (x.op + 1)))).1
          rw [← incL_next hx] at hst
          have Hst := Lib.hid hst; clear hst
          have HT2 := Lib.hid (hT2.setCell (p := ⟨g2, k2 * 5, none⟩) (.inl rfl) (.int .i64 (wrap64 (x.op + 1)))); clear hT2 ho2
          have hbk2 : (0 : Int) ≤ k2 ∧ (k2 : Int) < J.length := by omega
          obtain ⟨op, xa, xb, xc, imm⟩ := x
          rw [Nat.add_zero] at d0 f0
          simp only at d0 f0
          clear hx
          go_wp2_with fail
          go_roundw
          case rel => exact ⟨k2 + 1, by omega, by go_num, Hst.out, HT2.out⟩
          case measure => simp [intOf]; omega
        · obtain rfl : k2 = J.length := by omega
          have hlb : (Value.slice ad2 J.length cap2).ownBlock = (Value.slice ad2 J.length cap2).ownBlock := rfl
          have Ho2 := Lib.hid ho2; clear ho2 hlb
          have HT2 := Lib.hid hT2; clear hT2
          have hj6 : (J.length : Int) ≤ 6000 := by omega
          go_wp2_with (at_builtin; refine wpList_append_own_at _ rfl (.tmp 71) (.tmp 73) 32 rfl w1.heap.size 40 i0 _ 5 40 Try.underlying32 Hi.out Hz0.out Hz1.out Hz2.out rfl (by decide) (.slice ad2 J.length cap2) J.length (flatI (incL J J.length)) rfl (World.ownsRow.alloc Ho2.out _) ⟨wr.heap.size, 0, none⟩ 1 1 [.int .i64 5, .int .i64 0, .int .i64 0, .int .i64 0, .int .i64 0] rfl rfl (World.news_of_block (cs := #[.int .i64 5, .int .i64 0, .int .i64 0, .int .i64 0, .int .i64 0]) (t := 40) (fr := (0, 0)) (new_block wr _)) (by simp [Value.oneCell']) (by unfold maxLen; omega) (by omega) (by have := HT2.out.size; have := Hw1.out; simp; omega) ?_; intro v5 w5 hown5 hgrow5 _ _; refine Hid.out ?_)
          refine Lib.hid ?_
          obtain ⟨ad5, cap5, rfl⟩ := row_form hown5
          have hT5 : Tch (fun x => (Value.slice ad2 J.length cap2).ownBlock = some x) w4 w5 := (HT2.out.trans (Tch.of_idle ((Below.refl _ wr).alloc (Nat.le_refl _) _))).grown hgrow5 (fun b e => .inl e)
          have Hb5 := Lib.hid (Hb4.out.trans (hT5.below Hb4.out.size (fun g e => Nat.le_trans Hs1.out (owns_lt Ho2.out e).1)))
          have Ho1 := Lib.hid (owns_same Ho1.out (w' := w5) (fun g e => hT5.block g (owns_lt Ho1.out e).2 (fun e' => by have := (owns_lt Ho2.out e').1; have := Hg1.out g e; omega)))
          have Ho3 := Lib.hid (owns_same Ho3.out (w' := w5) (fun g e => hT5.block g (owns_lt Ho3.out e).2 (fun e' => by have := (owns_lt Ho3.out e).1; have := Hg2.out g e'; omega)))
          clear hown5 hgrow5 hT5 HT2 Ho2 Hg1 Hg2
          have HFin := Lib.hid (Hbw.out.trans (Hb5.out.mono Hbw.out.size))
          go_wp2_with fail
          go_loopw [10] (fun u10 wr3 => ∃ k3 : Nat, k3 ≤ ls.length ∧ u10 = .int .i64 k3 ∧ Below w5.heap.size w5 wr3) (fun i _ => ls.length - (intOf i).toNat)
          case atStart => exact ⟨0, by omega, by simp, Below.refl _ _⟩
          case round =>
            obtain ⟨k3, hk3, rfl, hb3⟩ := hrel
            have Hb6 := Lib.hid (Hb5.out.trans (hb3.mono Hb5.out.size))
            have Hb3 := Lib.hid hb3; clear hb3
            by_cases hlt3 : k3 < ls.length
            · obtain ⟨l, hl⟩ : ∃ l, ls[k3]? = some l := ⟨ls[k3], List.getElem?_eq_getElem hlt3⟩
              obtain ⟨q, c, adL, capL, rfl, hcell, hrow, -⟩ := HPw.out _ Hb6.out k3 l hl
              have hoA := owns_same Hown.out (w' := wr) (fun g e => Hb6.out.block g (owns_lt Hown.out e).2)
              rcases owns_form hoA with ⟨_, h0, _⟩ | ⟨gA, capA', eA, _⟩
              · omega
              cases eA
              have hla := Hl0.out.same (w' := wr) (fun b c' _ hc => Hb6.out.block b (Array.getElem?_eq_some_iff.1 hc).1)
              obtain ⟨v, hv⟩ : ∃ v, lv[k3]? = some v := ⟨lv[k3]'(by rw [hla.1]; exact hlt3), List.getElem?_eq_getElem _⟩
              obtain ⟨g7, c7, rfl, hrow7, hc7, h77⟩ := hla.rows hl hv
              have hcA := (owns_cell hoA (g := gA) rfl hv).1
              have hC := fun V (hV : Below wr.heap.size wr V) => same_yes (some ⟨g7, 0, none⟩) adL c7 capL l V (hrow7.below hV) (hrow.below hV) (by have := Hle0.out l (List.mem_of_getElem? hl); omega)
              have hS3 : ∀ V, Below wr.heap.size wr V → V.cell? ⟨gA, k3, none⟩ = some (.slice (some ⟨g7, 0, none⟩) l.length c7) ∧ V.cell? ⟨q, c + k3, none⟩ = some (.slice adL l.length capL) ∧ V.cell? ⟨g7, l.length * 5, none⟩ = some (.int .i64 77) := fun V hV =>
                ⟨(hV.cell (World.block_lt_of_cell? _ _ hcA)).trans hcA, (hV.cell (World.block_lt_of_cell? _ _ hcell)).trans hcell, (hV.cell (World.block_lt_of_cell? _ _ h77)).trans h77⟩
              have hl3 : l.length ≤ 300 := Hle0.out l (List.mem_of_getElem? hl)
              have HC := Lib.hid hC; clear hC
              have HS3 := Lib.hid hS3; clear hS3
              clear hoA hla hrow hrow7 hl hv
              have hP := below_drew1 (Below.refl wr.heap.size wr)
              have hbk3 : (0 : Int) ≤ k3 ∧ (k3 : Int) < ls.length := by omega
              have hw3 : IntKind.i64.wrap ((l.length : Int) + 1) = (l.length : Int) + 1 := by rw [IntKind.wrap_i64]; omega
              have hb7 : (0 : Int) ≤ (l.length : Int) + 1 ∧ (l.length : Int) + 1 ≤ c7 := by omega
              obtain ⟨hb7a, hb7b⟩ := hb7
              have hb8 : (l.length : Int) < (l.length : Int) + 1 := by omega
              go_upto_region 26 with (fail)
              first | (go_region_held3 (fun V => V.cell? ⟨gA, k3, none⟩ = some (.slice (some ⟨g7, 0, none⟩) l.length c7) ∧ V.cell? ⟨q, c + k3, none⟩ = some (.slice adL l.length capL) ∧ V.cell? ⟨g7, l.length * 5, none⟩ = some (.int .i64 77)) (first | with_reducible exact HS3.out _ hP) (first | (go_at_call 19; (with_reducible refine (HC.out _ hP).mono ?_); rintro e V ⟨rfl, hb⟩; replace hP := Below.trans hP (hb.mono hP.size); clear hb))) | (fail "LAW")
              go_wp2_with fail
              go_roundw
              case rel => exact ⟨k3 + 1, by omega, by go_num, Hb3.out.trans (hP.mono Hb3.out.size)⟩
              case measure => simp [intOf]; omega
            · obtain rfl : k3 = ls.length := by omega
              have o1 := owns_same Ho1.out (w' := wr) (fun g e => Hb3.out.block g (owns_lt Ho1.out e).2)
              have o3 := owns_same Ho3.out (w' := wr) (fun g e => Hb3.out.block g (owns_lt Ho3.out e).2)
              have HSm := Lib.hid (same_yes ad3 ad1 cap3 cap1 J wr (rows_all o3) (rows_all o1) (by omega))
              have hw9 : IntKind.i64.wrap ((J.length : Int) + 1) = (J.length : Int) + 1 := by rw [IntKind.wrap_i64]; omega
              clear o1 o3
              go_wp2_with (go_at_call 19; refine HSm.out.mono ?_; rintro e w9 ⟨rfl, hb9⟩; refine Hid.out ?_)
              refine Lib.hid ?_
              have HF9 := Lib.hid (HFin.out.trans ((Hb3.out.trans (hb9.mono Hb3.out.size)).mono HFin.out.size)); clear hb9
              go_wp2_with fail
              exact bodyPost_ret (results_tmp rfl _ _ _) rfl ⟨by simp, HF9.out⟩

end Go.Proofs.Ythjbcpgncnchoaa
