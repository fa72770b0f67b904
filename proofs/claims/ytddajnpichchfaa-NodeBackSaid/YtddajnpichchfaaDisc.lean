/- Commit and Discard. Conditions: those stated in each theorem. -/
import Derived.Test.YtddajnpichchfaaMarks
namespace Go.Proofs.Ytddajnpichchfaa
open Go.RowKit Go.Shelf
attribute [local go_sem] Oper.semAt_some
attribute [local simp] wide_fn

set_option maxHeartbeats 400000 in
theorem commit_nil (w : World) : Calls Try.prog 46 #[.pointer none] w fun e w' => e = .returned (.int .i64 1) ∧ w = w' := by
  go_enter Try.func46, Try.ntmps46
  go_wp2
  go_ret
  exact ⟨rfl, rfl⟩

set_option maxHeartbeats 400000 in
theorem commit_any (p S ways : Nat) (bs : List Nat) (ss : List (List Ent)) (u : Int) (w : World) (h : CacheAt w p S bs ways ss u) :
    Calls Try.prog 46 #[.pointer (some ⟨p, 0, none⟩)] w fun e w' => e = .returned (.int .i64 0) ∧ CacheAt w' p S bs ways (turnAll Ent.clear ss) u ∧ Tch (· ∈ bs) w w' := by
  have H := Lib.hid h; clear h
  go_enter Try.func46, Try.ntmps46
  go_wp2_with fail
  refine (unmark_any p S ways bs ss u _ H.out).mono ?_
  rintro e w1 ⟨rfl, h1⟩
  have H1 := Lib.hid h1; clear h1
  go_wp2
  go_ret
  exact ⟨rfl, H1.out⟩

set_option maxHeartbeats 400000 in
theorem discard_nil (w : World) : Calls Try.prog 48 #[.pointer none] w fun e w' => e = .returned (.int .i64 1) ∧ w = w' := by
  go_enter Try.func48, Try.ntmps48
  go_wp2
  go_ret
  exact ⟨rfl, rfl⟩

theorem oneCells (d : L8) : (d.cells.toArray).all (·.oneCell') = true := by simp [L8.cells, Value.oneCell']

theorem upd_id {ss : List (List Ent)} {i j : Nat} (hi : i < ss.length) (hj : j < (ss.getD i []).length) : upd ss i j (getE ss i j) = ss := by
  refine ext_ents (by simp [upd]) (fun k => upd_shape ss i j k _) (fun i' j' _ _ => ?_)
  rw [getE_upd _ _ _ _ _ _ hi hj]
  split
  · rename_i h; rw [h.1, h.2]
  · rfl
theorem CacheAt.upd_id {w : World} {p S : Nat} {bs : List Nat} {ways : Nat} {ss : List (List Ent)} {u : Int} (h : CacheAt w p S bs ways ss u) {i j : Nat} (hi : i < bs.length) (hj : j < ways) : upd ss i j (getE ss i j) = ss := by
  have hl : i < ss.length := by rw [h.many]; exact hi
  refine Go.Proofs.Ytddajnpichchfaa.upd_id hl ?_
  simp only [List.getD_eq_getElem?_getD, List.getElem?_eq_getElem hl, Option.getD_some]; rw [h.wide _ (List.getElem_mem hl)]; exact hj

def DiscPost (p S ways : Nat) (bs : List Nat) (ss : List (List Ent)) (u : Int) (w : World) (e : Ending) (w' : World) : Prop := e = .returned (.int .i64 0) ∧ CacheAt w' p S bs ways (turnAll Ent.clear (turnAll Ent.back ss)) u ∧ Tch (· ∈ bs) w w'

set_option maxRecDepth 100000 in
set_option maxHeartbeats 500000 in
theorem discard_any (p S ways : Nat) (bs : List Nat) (ss : List (List Ent)) (u : Int) (w : World) (h : CacheAt w p S bs ways ss u) :
    Calls Try.prog 48 #[.pointer (some ⟨p, 0, none⟩)] w (DiscPost p S ways bs ss u w) := by
  refine (callsIn_wide (n := 9)).1 ?_
  have hlt := h.lt
  have hap := h.ap
  have h0 := h.alloc (.cells #[.pointer (some ⟨p, 0, none⟩)] 23)
  have hT0 : Tch (· ∈ bs) w (w.alloc (.cells #[.pointer (some ⟨p, 0, none⟩)] 23)) := (Tch.refl _ w).alloc _
  have hBc := Holds.new w 23 [.pointer (some ⟨p, 0, none⟩)]
  change Holds (w.alloc (.cells #[.pointer (some ⟨p, 0, none⟩)] 23)) _ _ _ at hBc
  have hs0 : (w.alloc (.cells #[.pointer (some ⟨p, 0, none⟩)] 23)).heap.size = w.heap.size + 1 := by simp
  refine callsIn_of_wp_marks Try.func48 rfl trivial ?_ rfl
  simp only [Try.ntmps48, List.size_toArray, List.length_cons, List.length_nil, Nat.reduceAdd, Nat.reduceSub, Array.replicate_succ, Array.replicate_zero, List.push_toArray, List.append_toArray, List.nil_append, List.cons_append]
  have Hs0 := Lib.hid hs0; clear hs0
  have H0 := Lib.hid h0; clear h0
  have HT0 := Lib.hid hT0; clear hT0
  have HBc := Lib.hid hBc; clear hBc
  gi_wp2_with (gi_at_call 52; refine (callsIn_wide.2 (all_any p _)).mono ?_; rintro e w2 ⟨rfl, rfl⟩)
  generalize w.alloc (.cells #[.pointer (some ⟨p, 0, none⟩)] 23) = W0 at *
  have hsz := Hs0.out
  have hbW : ∀ b ∈ bs, b < W0.heap.size := fun b hb => by have := hlt.2.2 b hb; omega
  have hnB : w.heap.size ∉ bs := fun hb => by have := hlt.2.2 _ hb; omega
  have hk1 : W0.heap.size + 1 ≠ p := by omega
  have hk2 : W0.heap.size + 1 ≠ S := by omega
  have hk3 : W0.heap.size + 1 ≠ w.heap.size := by omega
  have hk4 : W0.heap.size + 1 ∉ bs := fun hb => by have := hbW _ hb; omega
  clear hsz
  refine each_own rfl rfl (gf := 79) (lb := #[.pointer (some ⟨w.heap.size, 0, none⟩)]) rfl trivial (enters_of Try.func79 (by kernel_rfl) rfl)
    (all1_each _ p S w.heap.size (W0.heap.size + 2) ways bs ss (.int .i64 u) W0 (by omega) h.w4 h.n1 h.n8 H0.out.head H0.out.sets HBc.out H0.out.head2) AllKp.trans (allKp_b (by omega) hk1 hk2 hk3 hk4) (fun _ => rfl)
    (TurnI Ent.back p S bs ways ss u W0) NoX turnI_own noX_own ⟨H0.out, Tch.refl _ _⟩ ?round ?done ?stop
  case round =>
    rintro pre ⟨i, j⟩ rest W hx hl hi
    obtain ⟨hil, hjl⟩ := mem_ents_of hx
    clear hx hl
    obtain ⟨b, hb⟩ : ∃ b, bs[i]? = some b := ⟨bs[i], List.getElem?_eq_getElem hil⟩
    have hbk : bs.getD i 0 = b := by simp [List.getD_eq_getElem?_getD, hb]
    dsimp only
    rw [hbk]
    clear hbk
    have Hi := Lib.hid hi; clear hi
    have Hb := Lib.hid hb; clear hb
    unfold RoundOwes
    gi_wp2
    refine BodyOwes.plain turnI_own (AllKp.refl _ _ _ _ _ _ _) Hi.out ?_
    clear Hi
    intro W2 _ hi
    obtain ⟨s, hs, he, hr⟩ := hi.1.ent Hb.out hjl
    have c3 := hr.ent he (k := 3) (by omega) rfl
    have ht := hr.there he (k := 4) (n := 8) (by omega)
    have hg : W2.rangeAt b (j * 21 + 12) (getE (updAll Ent.back ss pre) i j).old.cells := hr.range he (k := 12) (fun i v hv => by
      have hi8 : i < 8 := (List.getElem?_eq_some_iff.1 hv).1
      refine ⟨by omega, ?_⟩
      rw [← hv]
      match i, hi8 with
      | 0, _ | 1, _ | 2, _ | 3, _ | 4, _ | 5, _ | 6, _ | 7, _ => rfl)
    have Ht := Lib.hid ht; clear ht
    have Hg := Lib.hid hg; clear hg
    have Hi := Lib.hid hi; clear hi
    have Hs := Lib.hid hs; clear hs
    have He := Lib.hid he; clear he
    clear hr
    have hrest : (getE (updAll Ent.back ss pre) i j).write = true → KeepsFrom W0.heap.size W2 (W2.setCells b (j * 21 + 4) (getE (updAll Ent.back ss pre) i j).old.cells) ∧ AllKp p S w.heap.size bs ways (W0.heap.size + 2) W2 (W2.setCells b (j * 21 + 4) (getE (updAll Ent.back ss pre) i j).old.cells) ∧ TurnI Ent.back p S bs ways ss u W0 (pre ++ [(i, j)]) (W2.setCells b (j * 21 + 4) (getE (updAll Ent.back ss pre) i j).old.cells) := fun hw => by
      have h3 := Hi.out.1.puts Hb.out Hs.out He.out (e' := (getE (updAll Ent.back ss pre) i j).back) [(4, (getE (updAll Ent.back ss pre) i j).old.cells)] (by simp [L8.cells]) (by rw [Ent.back, if_pos hw]; rfl)
      have hT : Tch (· ∈ bs) W2 (wr W2 b (j * 21) [(4, (getE (updAll Ent.back ss pre) i j).old.cells)]) := Tch.wrs (.inl (List.mem_of_getElem? Hb.out)) _ (Tch.refl _ _)
      exact turn_next Hi.out hil hjl h3 (by rw [Ent.back, if_pos hw]) hT hbW (by omega) hnB (by have := Hi.out.2.size; have := Hs0.out; omega)
    have hsame : (getE (updAll Ent.back ss pre) i j).write = false → KeepsFrom W0.heap.size W2 W2 ∧ AllKp p S w.heap.size bs ways (W0.heap.size + 2) W2 W2 ∧ TurnI Ent.back p S bs ways ss u W0 (pre ++ [(i, j)]) W2 := fun hw => by
      refine turn_next Hi.out hil hjl ?_ (by rw [Ent.back, if_neg (by simp [hw])]) (Tch.refl _ _) hbW (by omega) hnB (by have := Hi.out.2.size; have := Hs0.out; omega)
      rw [Ent.back, if_neg (by simp [hw]), Hi.out.1.upd_id hil hjl]; exact Hi.out.1
    have Hrest := Lib.hid hrest; clear hrest
    have Hsame := Lib.hid hsame; clear hsame
    clear He
    generalize getE (updAll Ent.back ss pre) i j = e at *
    obtain ⟨el, es, er, ew, ed, eo, eu⟩ := e
    cases ew
    · gi_wp2
      exact Hsame.out trivial
    · gi_wp2_with (first | (refine in_load_mid rfl 36 _ rfl b (j * 21 + 12) rfl eo.cells _ ?_ Try.underlying36 rfl Try.size36 ?_; exact Hg.out) | (refine in_store_mid rfl 36 _ _ rfl b (j * 21 + 4) eo.cells.toArray rfl rfl ?_ Try.size36 (oneCells eo) ?_; exact Ht.out))
      exact Hrest.out trivial
  case done =>
    rintro W hi hK
    have h1 := hi.1
    rw [← h.many, updAll_turnAll Ent.back_idem ss ways h.wide] at h1
    have hT := HT0.out.trans hi.2
    have H1 := Lib.hid h1; clear h1
    have HT := Lib.hid hT; clear hT
    clear hi
    have HK := Lib.hid hK; clear hK
    gi_wp2_with fail
    refine (callsIn_wide.2 (unmark_any p S ways bs _ u _ H1.out)).mono ?_
    rintro e w1 ⟨rfl, h2, hT2⟩
    have H2 := Lib.hid h2; clear h2
    have HT2 := Lib.hid hT2; clear hT2
    gi_wp2
    have hK1 : w1.heap[W0.heap.size]? = some (.deferred (some [])) := (HT2.out.block _ (Array.getElem?_eq_some_iff.1 HK.out).1 (fun hb => by have := hbW _ hb; omega)).trans HK.out
    refine leaves_mark hK1 ⟨_, results_tmp rfl _ _ _, rfl, ?_, ?_⟩
    · exact (cacheAt_own (β := Unit) W0.heap.size fun _ => turnAll Ent.clear (turnAll Ent.back ss)).putObj (s := ()) (.deferred none) H2.out (Nat.le_refl _) hK1 rfl
    · exact (HT.out.trans HT2.out).putObj (.inr (by have := Hs0.out; omega)) _
  case stop =>
    rintro c pre W _ h _
    exact h.elim

end Go.Proofs.Ytddajnpichchfaa
