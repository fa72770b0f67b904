/- Fill, where it takes the line in. Conditions: those stated in each theorem. -/
import Derived.Test.YtddajnpichchfaaFillB
namespace Go.Proofs.Ytddajnpichchfaa
open Go.RowKit

theorem end_at {b j rs nd p : Nat} {e : Ent} {L : List Value} {w3 w4 : World} (hT : Tch (· = p) w3.drew w4) (hrow : w3.rangeAt nd 0 e.cells) (ht : w3.there rs 0 21) (h1 : nd ≠ p) (h2 : nd ≠ b) (h3 : nd ≠ rs) (h4 : rs ≠ p) (h5 : nd < w3.heap.size) (h6 : rs < w3.heap.size) :
    EndAt (w4.setCells b (j * 21) L) rs nd e (e.state != 0) := by
  have r4 : w4.rangeAt nd 0 e.cells := fun i v hi => by
    rw [World.cell?_of_block (a := ⟨nd, 0 + i, none⟩) (hT.block nd h5 h1)]; exact hrow i v hi
  have t4 : w4.there rs 0 21 := there_later (w := w3.drew) ht (hT.block rs h6 h4)
  have r5 := range_other (b' := b) (o' := j * 21) r4 h2 L
  exact ⟨r5, there_setCells _ _ t4, (range_other (b' := rs) (o' := 0) r5 h3 e.cells) 1 _ rfl, rfl⟩

def FillPost (p S ways : Nat) (bs : List Nat) (ss : List (List Ent)) (u : Int) (i j : Nat) (k : Nat) (st : Int) (d : L8) (w : World) (e : Ending) (w' : World) : Prop :=
  e = .returned (.tuple #[.agg (getE ss i j).cells.toArray, .bool ((getE ss i j).state != 0), .int .i64 0]) ∧ CacheAt w' p S bs ways (upd ss i j (Ent.fresh k st d (u + 1))) (u + 1) ∧ Tch (Turns p bs) w w'

set_option maxRecDepth 100000 in
set_option maxHeartbeats 600000 in
theorem fill_ok1 {w : World} {p S : Nat} {bs : List Nat} {ways : Nat} {ss : List (List Ent)} {u : Int} (h : CacheAt w p S bs ways ss u) (k : Nat) (d : L8) (hf : Finds ss k = none) {i j : Nat} (hg : Goes ss k = some (i, j)) (h0 : 0 ≤ u) (hu : u < 4294967296) :
    Calls Try.prog 32 #[.pointer (some ⟨p, 0, none⟩), .int .i64 k, .int .i64 1, .agg #[.int .u64 d.x0, .int .u64 d.x1, .int .u64 d.x2, .int .u64 d.x3, .int .u64 d.x4, .int .u64 d.x5, .int .u64 d.x6, .int .u64 d.x7]] w (FillPost p S ways bs ss u i j k 1 d w) := by
  obtain ⟨-, hil, hjl⟩ := Goes.facts h hg
  obtain ⟨b, hbx⟩ : ∃ b, bs[i]? = some b := ⟨bs[i], List.getElem?_eq_getElem hil⟩
  have hlw := h.lt
  have hbm := List.mem_of_getElem? hbx
  have hbl := hlw.2.2 b hbm
  have Hn := Lib.hid (there_res w (.cells #[.int .u64 d.x0, .int .u64 d.x1, .int .u64 d.x2, .int .u64 d.x3, .int .u64 d.x4, .int .u64 d.x5, .int .u64 d.x6, .int .u64 d.x7] 36))
  have HB0 := Lib.hid (below_two w (.cells #[.int .u64 d.x0, .int .u64 d.x1, .int .u64 d.x2, .int .u64 d.x3, .int .u64 d.x4, .int .u64 d.x5, .int .u64 d.x6, .int .u64 d.x7] 36) (.cells Ent.zero.cells.toArray 42))
  have Hs0 : Hid (((w.alloc (.cells #[.int .u64 d.x0, .int .u64 d.x1, .int .u64 d.x2, .int .u64 d.x3, .int .u64 d.x4, .int .u64 d.x5, .int .u64 d.x6, .int .u64 d.x7] 36)).alloc (.cells Ent.zero.cells.toArray 42)).heap.size = w.heap.size + 2) := Lib.hid (by simp)
  have Hbox : Hid (Holds ((w.alloc (.cells #[.int .u64 d.x0, .int .u64 d.x1, .int .u64 d.x2, .int .u64 d.x3, .int .u64 d.x4, .int .u64 d.x5, .int .u64 d.x6, .int .u64 d.x7] 36)).alloc (.cells Ent.zero.cells.toArray 42)) w.heap.size 36 d.cells) := Lib.hid ((Holds.new w 36 d.cells).alloc _)
  have hc0 := (h.alloc (.cells #[.int .u64 d.x0, .int .u64 d.x1, .int .u64 d.x2, .int .u64 d.x3, .int .u64 d.x4, .int .u64 d.x5, .int .u64 d.x6, .int .u64 d.x7] 36)).alloc (.cells Ent.zero.cells.toArray 42)
  have H := Lib.hid (held_none hc0 hf)
  have H0 := Lib.hid hc0
  have Hbx := Lib.hid hbx
  clear h hf hc0 hbx
  have g1 : decide ((k : Int) < 0) = false := by simp
  go_enter Try.func32, Try.ntmps32
  go_wp2_with fail
  refine H.out.mono ?_
  rintro e w1 ⟨rfl, hb⟩
  have H1 := Lib.hid (H0.out.below hb (Nat.le_refl _))
  have Hb := Lib.hid hb; clear hb
  go_wp2_with fail
  refine (toGo_some H1.out hg Hbx.out).mono ?_
  rintro e w2 ⟨rfl, hb2⟩
  have hle := Hb.out.size
  rw [Hs0.out] at hle
  have hle2 := hb2.size
  have h2 := H1.out.below hb2 (Nat.le_refl _)
  obtain ⟨s, hs, he, hr⟩ := h2.ent Hbx.out hjl
  have hgw := hr.whole he
  have ht := there_later (there_later Hn.out (Hb.out.block (w.heap.size + 1) (by rw [Hs0.out]; omega))) (hb2.block (w.heap.size + 1) (by omega))
  have hbox2 := (Hbox.out.same (Hb.out.block w.heap.size (by rw [Hs0.out]; omega))).same (hb2.block w.heap.size (by omega))
  have hB := (HB0.out.trans (Hb.out.mono (by rw [Hs0.out]; omega))).trans (hb2.mono (by omega))
  have hnew := there_new w2 Ent.zero.cells 42 21 rfl
  have hT3 : Tch (fun k => k = w2.heap.size) w2 ((w2.alloc (.cells Ent.zero.cells.toArray 42)).setCells w2.heap.size 0 (getE ss i j).cells) := Tch.setCells (C := fun k => k = w2.heap.size) (.inl rfl) _ _ ((Tch.refl _ w2).alloc _)
  have hrow3 := range_set (w := w2.alloc (.cells Ent.zero.cells.toArray 42)) (b := w2.heap.size) (o := 0) (getE ss i j).cells (by rw [Ent.len]; exact hnew)
  have hl2 := h2.lt
  have h3 := h2.frame hT3 (by omega) (by omega) (fun b hb => by have := hl2.2.2 b hb; omega)
  have ht3 := there_later (w' := (w2.alloc (.cells Ent.zero.cells.toArray 42)).setCells w2.heap.size 0 (getE ss i j).cells) ht (hT3.block _ (by omega) (by omega))
  have hbox3 := hbox2.same (w' := (w2.alloc (.cells Ent.zero.cells.toArray 42)).setCells w2.heap.size 0 (getE ss i j).cells) (hT3.block _ (by omega) (by omega))
  have hB3 : Tch (Turns p bs) w ((w2.alloc (.cells Ent.zero.cells.toArray 42)).setCells w2.heap.size 0 (getE ss i j).cells) := Tch.setCells (.inr (by omega)) _ _ ((turns_of_below hB).alloc _)
  have hsz3 : w2.heap.size < ((w2.alloc (.cells Ent.zero.cells.toArray 42)).setCells w2.heap.size 0 (getE ss i j).cells).heap.size := by
    have := (Tch.setCells (C := fun k => k = w2.heap.size) (.inl rfl) (getE ss i j).cells 0 (Tch.refl _ (w2.alloc (.cells Ent.zero.cells.toArray 42)))).size
    rw [World.size_alloc] at this
    omega
  have Hg := Lib.hid hgw; clear hgw
  have Hnew := Lib.hid hnew; clear hnew
  have H3 := Lib.hid h3; clear h3
  have Ht3 := Lib.hid ht3; clear ht3
  have Hbox3 := Lib.hid hbox3; clear hbox3
  have HB3 := Lib.hid hB3; clear hB3
  have Hrow3 := Lib.hid hrow3; clear hrow3
  have Hsz3 := Lib.hid hsz3; clear hsz3
  have Hle2 := Lib.hid hle2; clear hle2
  have Hle := Lib.hid hle; clear hle
  clear hs he hr h2 hb2 ht hbox2 hB hT3 hl2
  go_wp2_with (first | (refine wpList_load_mid rfl 42 (.tmp 45) rfl b (j * 21) rfl (getE ss i j).cells _ ?_ Try.underlying42 rfl Try.size42 ?_; exact Hg.out) | (refine wpList_store_mid rfl 42 (.tmp 14) (.tmp 46) rfl w2.heap.size 0 (getE ss i j).cells.toArray rfl rfl ?_ Try.size42 (oneEnt _) ?_; exact Hnew.out))
  change Code.wp Try.prog _ _ _ ((w2.alloc (.cells Ent.zero.cells.toArray 42)).setCells w2.heap.size 0 (getE ss i j).cells)
  generalize (w2.alloc (.cells Ent.zero.cells.toArray 42)).setCells w2.heap.size 0 (getE ss i j).cells = W3 at *
  have huse := use_at (w := W3.drew) (p := p) (S := S) (bs := bs) (ways := ways) (ss := ss) (u := u) (H3.out.frame (C := fun _ => False) (Tch.refl _ _).drew (fun h => h) (fun h => h) (fun _ _ h => h)) h0 hu
  have Huse := Lib.hid huse; clear huse
  refine (wpIn_wide (n := 9)).1 ?_
  refine (fill_region 9 w.heap.size p b j k _ u d _ _ _ _ _ _ _ _ _ _ _ _ _ _ _ _ _ _ _ _ _ _ _ _ _ _ _ _ _ _ _ _ _ _ _ _ _ _ _ _ _ _ _ _ _ _ _ _ _ _ _ _ _ _ _ (fun _ _ _ _ _ h => h) _ (fun w4 => CacheAt w4 p S bs ways ss (u + 1) ∧ Tch (· = p) W3.drew w4) Hbox3.out.rangeAll (Huse.out.mono fun _ _ h => h) ?_)
  rintro w4 ⟨h4, hT4⟩
  have hle := Hle.out
  have hle2 := Hle2.out
  have hsz3 := Hsz3.out
  obtain ⟨s, hs, he, hr⟩ := h4.ent Hbx.out hjl
  have htb := hr.there0 he
  have hbox4 := hT4.holds (b := w.heap.size) (by omega) Hbox3.out
  have hE := end_at (b := b) (j := j) (rs := w.heap.size + 1) (nd := w2.heap.size) (p := p) (e := getE ss i j) (L := (Ent.fresh k 1 d (u + 1)).cells) hT4 Hrow3.out Ht3.out (by omega) (by omega) (by omega) (by omega) hsz3 (by omega)
  have h5 := h4.puts Hbx.out hs he (e' := Ent.fresh k _ d (u + 1)) [(0, (Ent.fresh k 1 d (u + 1)).cells)] (by simp [Ent.cells]) (Ent.over _ _)
  have h6 : CacheAt ((w4.setCells b (j * 21) (Ent.fresh k 1 d (u + 1)).cells)) p S bs ways (upd ss i j (Ent.fresh k 1 d (u + 1))) (u + 1) := by
    rw [← wr_one]; exact h5
  have hl6 := h6.lt
  have h7 := h6.frame (Tch.setCells (C := (· = w.heap.size + 1)) (.inl rfl) (getE ss i j).cells 0 (Tch.refl _ _)) (by omega) (by omega) (fun b hb => by have := hlw.2.2 b hb; omega)
  have hT7 : Tch (Turns p bs) w (((w4.setCells b (j * 21) (Ent.fresh k 1 d (u + 1)).cells)).setCells (w.heap.size + 1) 0 (getE ss i j).cells).drew :=
    (Tch.setCells (.inr (by omega)) _ _ (Tch.setCells (.inl (.inr hbm)) _ _ ((HB3.out.drew).via hT4 (fun _ h => .inl h)))).drew
  have HE := Lib.hid hE; clear hE
  have H7 := Lib.hid h7; clear h7
  have HT7 := Lib.hid hT7; clear hT7
  refine ⟨hbox4.rangeAll, htb, ?_⟩
  clear hs he hr htb hbox4 h5 h6 hl6 h4 hT4 hle hle2 hsz3
  go_wp2
  refine (wpIn_wide (n := 9)).1 ?_
  refine fill_end 9 (w.heap.size + 1) w2.heap.size (getE ss i j) _ _ _ _ _ _ _ _ _ _ _ _ _ _ _ _ _ _ _ _ _ _ _ _ _ _ _ _ _ _ _ _ _ _ _ _ _ _ _ _ _ _ _ _ _ _ _ _ _ _ _ _ _ _ _ _ _ _ _ _ HE.out ?_
  go_wp2
  have hrs := range_set (w := w4.setCells b (j * 21) (Ent.fresh k 1 d (u + 1)).cells) (b := w.heap.size + 1) (o := 0) (getE ss i j).cells (by rw [Ent.len]; exact HE.out.there)
  refine bodyPost_ret (results_ctt (a := 8) (t := 9) (t2 := 10) (ty := 42) (ad := ⟨w.heap.size + 1, 0, none⟩) (v := .agg (getE ss i j).cells.toArray) (u := .bool ((getE ss i j).state != 0)) (u2 := .int .i64 0) rfl rfl ?_ rfl rfl) rfl ?_
  · exact Try.load42 (getE ss i j) (fun x v hx => (cell_drew _ _).trans (hrs x v hx))
  · exact ⟨rfl, H7.out.frame (C := fun _ => False) (Tch.refl _ _).drew (fun h => h) (fun h => h) (fun _ _ h => h), HT7.out⟩

set_option maxRecDepth 100000 in
set_option maxHeartbeats 600000 in
theorem fill_ok2 {w : World} {p S : Nat} {bs : List Nat} {ways : Nat} {ss : List (List Ent)} {u : Int} (h : CacheAt w p S bs ways ss u) (k : Nat) (d : L8) (hf : Finds ss k = none) {i j : Nat} (hg : Goes ss k = some (i, j)) (h0 : 0 ≤ u) (hu : u < 4294967296) :
    Calls Try.prog 32 #[.pointer (some ⟨p, 0, none⟩), .int .i64 k, .int .i64 2, .agg #[.int .u64 d.x0, .int .u64 d.x1, .int .u64 d.x2, .int .u64 d.x3, .int .u64 d.x4, .int .u64 d.x5, .int .u64 d.x6, .int .u64 d.x7]] w (FillPost p S ways bs ss u i j k 2 d w) := by
  obtain ⟨-, hil, hjl⟩ := Goes.facts h hg
  obtain ⟨b, hbx⟩ : ∃ b, bs[i]? = some b := ⟨bs[i], List.getElem?_eq_getElem hil⟩
  have hlw := h.lt
  have hbm := List.mem_of_getElem? hbx
  have hbl := hlw.2.2 b hbm
  have Hn := Lib.hid (there_res w (.cells #[.int .u64 d.x0, .int .u64 d.x1, .int .u64 d.x2, .int .u64 d.x3, .int .u64 d.x4, .int .u64 d.x5, .int .u64 d.x6, .int .u64 d.x7] 36))
  have HB0 := Lib.hid (below_two w (.cells #[.int .u64 d.x0, .int .u64 d.x1, .int .u64 d.x2, .int .u64 d.x3, .int .u64 d.x4, .int .u64 d.x5, .int .u64 d.x6, .int .u64 d.x7] 36) (.cells Ent.zero.cells.toArray 42))
  have Hs0 : Hid (((w.alloc (.cells #[.int .u64 d.x0, .int .u64 d.x1, .int .u64 d.x2, .int .u64 d.x3, .int .u64 d.x4, .int .u64 d.x5, .int .u64 d.x6, .int .u64 d.x7] 36)).alloc (.cells Ent.zero.cells.toArray 42)).heap.size = w.heap.size + 2) := Lib.hid (by simp)
  have Hbox : Hid (Holds ((w.alloc (.cells #[.int .u64 d.x0, .int .u64 d.x1, .int .u64 d.x2, .int .u64 d.x3, .int .u64 d.x4, .int .u64 d.x5, .int .u64 d.x6, .int .u64 d.x7] 36)).alloc (.cells Ent.zero.cells.toArray 42)) w.heap.size 36 d.cells) := Lib.hid ((Holds.new w 36 d.cells).alloc _)
  have hc0 := (h.alloc (.cells #[.int .u64 d.x0, .int .u64 d.x1, .int .u64 d.x2, .int .u64 d.x3, .int .u64 d.x4, .int .u64 d.x5, .int .u64 d.x6, .int .u64 d.x7] 36)).alloc (.cells Ent.zero.cells.toArray 42)
  have H := Lib.hid (held_none hc0 hf)
  have H0 := Lib.hid hc0
  have Hbx := Lib.hid hbx
  clear h hf hc0 hbx
  have g1 : decide ((k : Int) < 0) = false := by simp
  go_enter Try.func32, Try.ntmps32
  go_wp2_with fail
  refine H.out.mono ?_
  rintro e w1 ⟨rfl, hb⟩
  have H1 := Lib.hid (H0.out.below hb (Nat.le_refl _))
  have Hb := Lib.hid hb; clear hb
  go_wp2_with fail
  refine (toGo_some H1.out hg Hbx.out).mono ?_
  rintro e w2 ⟨rfl, hb2⟩
  have hle := Hb.out.size
  rw [Hs0.out] at hle
  have hle2 := hb2.size
  have h2 := H1.out.below hb2 (Nat.le_refl _)
  obtain ⟨s, hs, he, hr⟩ := h2.ent Hbx.out hjl
  have hgw := hr.whole he
  have ht := there_later (there_later Hn.out (Hb.out.block (w.heap.size + 1) (by rw [Hs0.out]; omega))) (hb2.block (w.heap.size + 1) (by omega))
  have hbox2 := (Hbox.out.same (Hb.out.block w.heap.size (by rw [Hs0.out]; omega))).same (hb2.block w.heap.size (by omega))
  have hB := (HB0.out.trans (Hb.out.mono (by rw [Hs0.out]; omega))).trans (hb2.mono (by omega))
  have hnew := there_new w2 Ent.zero.cells 42 21 rfl
  have hT3 : Tch (fun k => k = w2.heap.size) w2 ((w2.alloc (.cells Ent.zero.cells.toArray 42)).setCells w2.heap.size 0 (getE ss i j).cells) := Tch.setCells (C := fun k => k = w2.heap.size) (.inl rfl) _ _ ((Tch.refl _ w2).alloc _)
  have hrow3 := range_set (w := w2.alloc (.cells Ent.zero.cells.toArray 42)) (b := w2.heap.size) (o := 0) (getE ss i j).cells (by rw [Ent.len]; exact hnew)
  have hl2 := h2.lt
  have h3 := h2.frame hT3 (by omega) (by omega) (fun b hb => by have := hl2.2.2 b hb; omega)
  have ht3 := there_later (w' := (w2.alloc (.cells Ent.zero.cells.toArray 42)).setCells w2.heap.size 0 (getE ss i j).cells) ht (hT3.block _ (by omega) (by omega))
  have hbox3 := hbox2.same (w' := (w2.alloc (.cells Ent.zero.cells.toArray 42)).setCells w2.heap.size 0 (getE ss i j).cells) (hT3.block _ (by omega) (by omega))
  have hB3 : Tch (Turns p bs) w ((w2.alloc (.cells Ent.zero.cells.toArray 42)).setCells w2.heap.size 0 (getE ss i j).cells) := Tch.setCells (.inr (by omega)) _ _ ((turns_of_below hB).alloc _)
  have hsz3 : w2.heap.size < ((w2.alloc (.cells Ent.zero.cells.toArray 42)).setCells w2.heap.size 0 (getE ss i j).cells).heap.size := by
    have := (Tch.setCells (C := fun k => k = w2.heap.size) (.inl rfl) (getE ss i j).cells 0 (Tch.refl _ (w2.alloc (.cells Ent.zero.cells.toArray 42)))).size
    rw [World.size_alloc] at this
    omega
  have Hg := Lib.hid hgw; clear hgw
  have Hnew := Lib.hid hnew; clear hnew
  have H3 := Lib.hid h3; clear h3
  have Ht3 := Lib.hid ht3; clear ht3
  have Hbox3 := Lib.hid hbox3; clear hbox3
  have HB3 := Lib.hid hB3; clear hB3
  have Hrow3 := Lib.hid hrow3; clear hrow3
  have Hsz3 := Lib.hid hsz3; clear hsz3
  have Hle2 := Lib.hid hle2; clear hle2
  have Hle := Lib.hid hle; clear hle
  clear hs he hr h2 hb2 ht hbox2 hB hT3 hl2
  go_wp2_with (first | (refine wpList_load_mid rfl 42 (.tmp 45) rfl b (j * 21) rfl (getE ss i j).cells _ ?_ Try.underlying42 rfl Try.size42 ?_; exact Hg.out) | (refine wpList_store_mid rfl 42 (.tmp 14) (.tmp 46) rfl w2.heap.size 0 (getE ss i j).cells.toArray rfl rfl ?_ Try.size42 (oneEnt _) ?_; exact Hnew.out))
  change Code.wp Try.prog _ _ _ ((w2.alloc (.cells Ent.zero.cells.toArray 42)).setCells w2.heap.size 0 (getE ss i j).cells)
  generalize (w2.alloc (.cells Ent.zero.cells.toArray 42)).setCells w2.heap.size 0 (getE ss i j).cells = W3 at *
  have huse := use_at (w := W3.drew) (p := p) (S := S) (bs := bs) (ways := ways) (ss := ss) (u := u) (H3.out.frame (C := fun _ => False) (Tch.refl _ _).drew (fun h => h) (fun h => h) (fun _ _ h => h)) h0 hu
  have Huse := Lib.hid huse; clear huse
  refine (wpIn_wide (n := 9)).1 ?_
  refine (fill_region 9 w.heap.size p b j k _ u d _ _ _ _ _ _ _ _ _ _ _ _ _ _ _ _ _ _ _ _ _ _ _ _ _ _ _ _ _ _ _ _ _ _ _ _ _ _ _ _ _ _ _ _ _ _ _ _ _ _ _ _ _ _ _ (fun _ _ _ _ _ h => h) _ (fun w4 => CacheAt w4 p S bs ways ss (u + 1) ∧ Tch (· = p) W3.drew w4) Hbox3.out.rangeAll (Huse.out.mono fun _ _ h => h) ?_)
  rintro w4 ⟨h4, hT4⟩
  have hle := Hle.out
  have hle2 := Hle2.out
  have hsz3 := Hsz3.out
  obtain ⟨s, hs, he, hr⟩ := h4.ent Hbx.out hjl
  have htb := hr.there0 he
  have hbox4 := hT4.holds (b := w.heap.size) (by omega) Hbox3.out
  have hE := end_at (b := b) (j := j) (rs := w.heap.size + 1) (nd := w2.heap.size) (p := p) (e := getE ss i j) (L := (Ent.fresh k 2 d (u + 1)).cells) hT4 Hrow3.out Ht3.out (by omega) (by omega) (by omega) (by omega) hsz3 (by omega)
  have h5 := h4.puts Hbx.out hs he (e' := Ent.fresh k _ d (u + 1)) [(0, (Ent.fresh k 2 d (u + 1)).cells)] (by simp [Ent.cells]) (Ent.over _ _)
  have h6 : CacheAt ((w4.setCells b (j * 21) (Ent.fresh k 2 d (u + 1)).cells)) p S bs ways (upd ss i j (Ent.fresh k 2 d (u + 1))) (u + 1) := by
    rw [← wr_one]; exact h5
  have hl6 := h6.lt
  have h7 := h6.frame (Tch.setCells (C := (· = w.heap.size + 1)) (.inl rfl) (getE ss i j).cells 0 (Tch.refl _ _)) (by omega) (by omega) (fun b hb => by have := hlw.2.2 b hb; omega)
  have hT7 : Tch (Turns p bs) w (((w4.setCells b (j * 21) (Ent.fresh k 2 d (u + 1)).cells)).setCells (w.heap.size + 1) 0 (getE ss i j).cells).drew :=
    (Tch.setCells (.inr (by omega)) _ _ (Tch.setCells (.inl (.inr hbm)) _ _ ((HB3.out.drew).via hT4 (fun _ h => .inl h)))).drew
  have HE := Lib.hid hE; clear hE
  have H7 := Lib.hid h7; clear h7
  have HT7 := Lib.hid hT7; clear hT7
  refine ⟨hbox4.rangeAll, htb, ?_⟩
  clear hs he hr htb hbox4 h5 h6 hl6 h4 hT4 hle hle2 hsz3
  go_wp2
  refine (wpIn_wide (n := 9)).1 ?_
  refine fill_end 9 (w.heap.size + 1) w2.heap.size (getE ss i j) _ _ _ _ _ _ _ _ _ _ _ _ _ _ _ _ _ _ _ _ _ _ _ _ _ _ _ _ _ _ _ _ _ _ _ _ _ _ _ _ _ _ _ _ _ _ _ _ _ _ _ _ _ _ _ _ _ _ _ _ HE.out ?_
  go_wp2
  have hrs := range_set (w := w4.setCells b (j * 21) (Ent.fresh k 2 d (u + 1)).cells) (b := w.heap.size + 1) (o := 0) (getE ss i j).cells (by rw [Ent.len]; exact HE.out.there)
  refine bodyPost_ret (results_ctt (a := 8) (t := 9) (t2 := 10) (ty := 42) (ad := ⟨w.heap.size + 1, 0, none⟩) (v := .agg (getE ss i j).cells.toArray) (u := .bool ((getE ss i j).state != 0)) (u2 := .int .i64 0) rfl rfl ?_ rfl rfl) rfl ?_
  · exact Try.load42 (getE ss i j) (fun x v hx => (cell_drew _ _).trans (hrs x v hx))
  · exact ⟨rfl, H7.out.frame (C := fun _ => False) (Tch.refl _ _).drew (fun h => h) (fun h => h) (fun _ _ h => h), HT7.out⟩

theorem fill_ok {w : World} {p S : Nat} {bs : List Nat} {ways : Nat} {ss : List (List Ent)} {u : Int} (h : CacheAt w p S bs ways ss u) (k : Nat) (st : Int) (hst : st = 1 ∨ st = 2) (d : L8) (hf : Finds ss k = none) {i j : Nat} (hg : Goes ss k = some (i, j)) (h0 : 0 ≤ u) (hu : u < 4294967296) :
    Calls Try.prog 32 #[.pointer (some ⟨p, 0, none⟩), .int .i64 k, .int .i64 st, .agg #[.int .u64 d.x0, .int .u64 d.x1, .int .u64 d.x2, .int .u64 d.x3, .int .u64 d.x4, .int .u64 d.x5, .int .u64 d.x6, .int .u64 d.x7]] w (FillPost p S ways bs ss u i j k st d w) := by
  rcases hst with rfl | rfl
  · exact fill_ok1 h k d hf hg h0 hu
  · exact fill_ok2 h k d hf hg h0 hu

end Go.Proofs.Ytddajnpichchfaa
