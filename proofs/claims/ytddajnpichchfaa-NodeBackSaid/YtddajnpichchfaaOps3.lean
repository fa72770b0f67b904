/- Mark, Demote, Promote, Find and Drop. Conditions: those stated in each theorem. -/
import Derived.Test.YtddajnpichchfaaOps2
import Derived.StillTailTactics
namespace Go.Proofs.Ytddajnpichchfaa
open Go.RowKit

theorem Holds.words {w : World} {b : Nat} {s : List Ent} (h : Holds w b 42 (s.flatMap Ent.cells)) {j : Nat} {e : Ent} (he : s[j]? = some e) : w.rangeAt b (j * 21 + 4) e.data.cells :=
  h.range he (k := 4) (fun i v hv => by
    have hi8 : i < 8 := (List.getElem?_eq_some_iff.1 hv).1
    refine ⟨by omega, ?_⟩
    rw [← hv]
    match i, hi8 with
    | 0, _ | 1, _ | 2, _ | 3, _ | 4, _ | 5, _ | 6, _ | 7, _ => rfl)
theorem Holds.whole {w : World} {b : Nat} {s : List Ent} (h : Holds w b 42 (s.flatMap Ent.cells)) {j : Nat} {e : Ent} (he : s[j]? = some e) : w.rangeAt b (j * 21) e.cells := by
  have := h.range he (k := 0) (cs := e.cells) (fun k v hk => ⟨by have := (List.getElem?_eq_some_iff.1 hk).1; rw [Ent.len] at this; omega, by rw [Nat.zero_add]; exact hk⟩)
  rwa [Nat.add_zero] at this
theorem Holds.there0 {w : World} {b : Nat} {s : List Ent} (h : Holds w b 42 (s.flatMap Ent.cells)) {j : Nat} {e : Ent} (he : s[j]? = some e) : w.there b (j * 21) 21 := by
  have := h.there he (k := 0) (n := 21) (by omega)
  rwa [Nat.add_zero] at this

set_option maxHeartbeats 400000 in
theorem mark_nil (k : Int) (w : World) : Calls Try.prog 38 #[.pointer none, .int .i64 k, .bool false] w fun e w' => e = .returned (.int .i64 1) ∧ Below w.heap.size w w' := by
  go_enter Try.func38, Try.ntmps38
  go_wp2_with fail
  refine (held_nil _ _).mono ?_
  rintro e w1 ⟨rfl, hb⟩
  have Hb := Lib.hid hb; clear hb
  go_wp2
  go_ret
  exact ⟨rfl, Hb.out⟩
set_option maxHeartbeats 400000 in
theorem mark_none {w : World} {p S : Nat} {bs : List Nat} {ways : Nat} {ss : List (List Ent)} {u : Int} (h : CacheAt w p S bs ways ss u) (k : Int) (hf : Finds ss k = none) :
    Calls Try.prog 38 #[.pointer (some ⟨p, 0, none⟩), .int .i64 k, .bool false] w fun e w' => e = .returned (.int .i64 20) ∧ Below w.heap.size w w' := by
  have H := Lib.hid (held_none h hf); clear h hf
  go_enter Try.func38, Try.ntmps38
  go_wp2_with fail
  refine H.out.mono ?_
  rintro e w1 ⟨rfl, hb⟩
  have Hb := Lib.hid hb; clear hb
  go_wp2
  go_ret
  exact ⟨rfl, Hb.out⟩
set_option maxHeartbeats 400000 in
theorem mark_read {w : World} {p S : Nat} {bs : List Nat} {ways : Nat} {ss : List (List Ent)} {u : Int} (h : CacheAt w p S bs ways ss u) (k : Int) {i j : Nat} (hf : Finds ss k = some (i, j)) :
    Calls Try.prog 38 #[.pointer (some ⟨p, 0, none⟩), .int .i64 k, .bool false] w fun e w' => e = .returned (.int .i64 0) ∧ CacheAt w' p S bs ways (upd ss i j { getE ss i j with read := true }) u ∧ Tch (Turns p bs) w w' := by
  obtain ⟨b, hbx, hjl⟩ := Finds.bk h hf
  have H := Lib.hid (held_some h hf hbx)
  have HC := Lib.hid h; clear h hf
  have Hbx := Lib.hid hbx; clear hbx
  go_enter Try.func38, Try.ntmps38
  go_wp2_with fail
  refine H.out.mono ?_
  rintro e w1 ⟨rfl, hb⟩
  have h1 := HC.out.below hb (Nat.le_refl _)
  obtain ⟨s, hs, he, hr⟩ := h1.ent Hbx.out hjl
  have c2 := hr.ent he (k := 2) (by omega) rfl
  have f2 := hr.free (j * 21 + 2)
  have h3 := h1.puts Hbx.out hs he (e' := { getE ss i j with read := true }) [(2, [.bool true])] (by simp) rfl
  have hT3 : Tch (Turns p bs) w (wr w1 b (j * 21) [(2, [.bool true])]) := Tch.wrs (.inl (.inr (List.mem_of_getElem? Hbx.out))) _ (turns_of_below hb)
  have H3 := Lib.hid h3
  have HT3 := Lib.hid hT3
  clear h3 hT3 hs he hr h1 hb
  generalize (getE ss i j).read = x at *
  go_wp2
  go_ret
  exact ⟨rfl, H3.out, HT3.out⟩

set_option maxHeartbeats 400000 in
theorem markW_bad {w : World} {q : Value} {v : Int} (k : Int) (hv : v = 1 ∨ v = 20) (h : Calls Try.prog 77 #[q, .int .i64 k, .int .i64 2] w fun e w' => e = .returned (.tuple #[.pointer none, .int .i64 v]) ∧ Below w.heap.size w w') :
    Calls Try.prog 76 #[q, .int .i64 k] w fun e w' => e = .returned (.int .i64 v) ∧ Below w.heap.size w w' := by
  have H := Lib.hid h; clear h
  rcases hv with rfl | rfl
  all_goals
    go_enter Try.func76, Try.ntmps76
    go_wp2_with fail
    refine H.out.mono ?_
    rintro e w1 ⟨rfl, hb⟩
    have Hb := Lib.hid hb; clear hb
    go_wp2
    go_ret
    exact ⟨rfl, Hb.out⟩

def Ent.keep (e : Ent) : Ent := if e.write then e else { e with write := true, old := e.data }

set_option maxHeartbeats 1000000 in
theorem markW_ok {w : World} {p S : Nat} {bs : List Nat} {ways : Nat} {ss : List (List Ent)} {u : Int} (h : CacheAt w p S bs ways ss u) (k : Int) {i j : Nat} (hf : Finds ss k = some (i, j)) (ht : (getE ss i j).state = 2) :
    Calls Try.prog 76 #[.pointer (some ⟨p, 0, none⟩), .int .i64 k] w fun e w' => e = .returned (.int .i64 0) ∧ CacheAt w' p S bs ways (upd ss i j (getE ss i j).keep) u ∧ Tch (Turns p bs) w w' := by
  obtain ⟨b, hbx, hjl⟩ := Finds.bk h hf
  obtain ⟨-, -, hil, -, -, -⟩ := Finds.facts h hf
  have H := Lib.hid (heldAs_ok h 2 hf hbx ht)
  have HC := Lib.hid h; clear h hf ht
  have Hbx := Lib.hid hbx; clear hbx
  cases hw : (getE ss i j).write
  · have Hw := Lib.hid hw
    go_enter Try.func76, Try.ntmps76
    clear hw
    go_wp2_with fail
    refine H.out.mono ?_
    rintro e w1 ⟨rfl, hb⟩
    have h1 := HC.out.below hb (Nat.le_refl _)
    obtain ⟨s, hs, he, hr⟩ := h1.ent Hbx.out hjl
    have c3 := hr.ent he (k := 3) (by omega) rfl
    rw [Hw.out] at c3
    have f3 := hr.free (j * 21 + 3)
    have hg := hr.words he
    have ht := there_set (hr.there he (k := 12) (n := 8) (by omega)) ⟨b, j * 21 + 3, none⟩ (.bool true)
    have h3 := h1.puts Hbx.out hs he (e' := (getE ss i j).keep) [(3, [.bool true]), (12, (getE ss i j).data.cells)] (by simp [L8.cells]) (by rw [Ent.keep, if_neg (by simp [Hw.out])]; rfl)
    have hT3 : Tch (Turns p bs) w (wr w1 b (j * 21) [(3, [.bool true]), (12, (getE ss i j).data.cells)]) := Tch.wrs (.inl (.inr (List.mem_of_getElem? Hbx.out))) _ (turns_of_below hb)
    have H3 := Lib.hid h3
    have HT3 := Lib.hid hT3
    have Hg := Lib.hid hg; clear hg
    have Ht := Lib.hid ht; clear ht
    clear h3 hT3 hs he hr h1 hb
    generalize (getE ss i j).data = dd at *
    go_wp2_with (first | (refine wpList_load_mid rfl 36 _ rfl b (j * 21 + 4) rfl dd.cells _ ?_ Try.underlying36 rfl Try.size36 ?_; exact Hg.out) | (refine wpList_store_mid rfl 36 _ _ rfl b (j * 21 + 12) dd.cells.toArray rfl rfl ?_ Try.size36 (oneCells dd) ?_; exact Ht.out))
    go_ret
    exact ⟨rfl, H3.out, HT3.out⟩
  · have Hw := Lib.hid hw
    go_enter Try.func76, Try.ntmps76
    clear hw
    go_wp2_with fail
    refine H.out.mono ?_
    rintro e w1 ⟨rfl, hb⟩
    have h1 := HC.out.below hb (Nat.le_refl _)
    obtain ⟨s, hs, he, hr⟩ := h1.ent Hbx.out hjl
    have c3 := hr.ent he (k := 3) (by omega) rfl
    rw [Hw.out] at c3
    have hT3 := turns_of_below (p := p) (bs := bs) hb
    have h3 : CacheAt w1 p S bs ways (upd ss i j (getE ss i j).keep) u := by
      rw [Ent.keep, if_pos Hw.out, HC.out.upd_id hil hjl]; exact h1
    have H3 := Lib.hid h3
    have HT3 := Lib.hid hT3
    clear h3 hT3 hs he hr h1 hb
    go_wp2
    go_ret
    exact ⟨rfl, H3.out, HT3.out⟩

set_option maxHeartbeats 400000 in
theorem mark_write {w : World} {q : Value} (k : Int) {R : Ending → World → Prop} (v : Int) (h : Calls Try.prog 76 #[q, .int .i64 k] w fun e w' => e = .returned (.int .i64 v) ∧ R e w') :
    Calls Try.prog 38 #[q, .int .i64 k, .bool true] w fun e w' => e = .returned (.int .i64 v) ∧ R e w' := by
  have H := Lib.hid h; clear h
  go_enter Try.func38, Try.ntmps38
  go_wp2_with fail
  refine H.out.mono ?_
  rintro e w1 ⟨rfl, hb⟩
  have Hb := Lib.hid hb; clear hb
  go_wp2
  go_ret
  exact ⟨rfl, Hb.out⟩

end Go.Proofs.Ytddajnpichchfaa
