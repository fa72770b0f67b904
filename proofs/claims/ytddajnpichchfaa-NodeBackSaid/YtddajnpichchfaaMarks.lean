/- Marks are taken away, and what was written under them. Conditions: those stated in each theorem. -/
import Derived.Test.YtddajnpichchfaaUpd
namespace Go.Proofs.Ytddajnpichchfaa
open Go.RowKit Go.Shelf
attribute [local go_sem] Oper.semAt_some
attribute [local simp] wide_fn

theorem Holds.there {w : World} {b : Nat} {s : List Ent} (h : Holds w b 42 (s.flatMap Ent.cells)) {j k n : Nat} {e : Ent} (he : s[j]? = some e) (hk : k + n ≤ 21) : w.there b (j * 21 + k) n := fun i hi => by
  have hv : e.cells[k + i]? = some (e.cells[k + i]'(by rw [Ent.len]; omega)) := List.getElem?_eq_getElem _
  have := h.ent he (k := k + i) (by omega) hv
  rw [Nat.add_assoc]
  exact ⟨by rw [this]; rfl, h.free _⟩
theorem Holds.range {w : World} {b : Nat} {s : List Ent} (h : Holds w b 42 (s.flatMap Ent.cells)) {j k : Nat} {e : Ent} {cs : List Value} (he : s[j]? = some e) (hc : ∀ i v, cs[i]? = some v → k + i < 21 ∧ e.cells[k + i]? = some v) : w.rangeAt b (j * 21 + k) cs := fun i v hi => by
  rw [Nat.add_assoc]; exact h.ent he (hc i v hi).1 (hc i v hi).2
theorem there_set {w : World} {b o n : Nat} (h : w.there b o n) (p : Addr) (v : Value) : (w.setCell p v).there b o n := fun i hi => by
  refine ⟨?_, by rw [World.frozen?_setCell]; exact (h i hi).2⟩
  by_cases e : p = ⟨b, o + i, none⟩
  · subst e
    obtain ⟨u, hu⟩ := Option.isSome_iff_exists.1 (h i hi).1
    rw [World.cell?_setCell_same _ _ _ hu]; rfl
  · rw [World.cell?_setCell_other _ _ _ _ e]; exact (h i hi).1

theorem Try.size36 : (Try.prog.info? 36).map (·.size) = some 8 := by kernel_rfl
theorem Try.size42 : (Try.prog.info? 42).map (·.size) = some 21 := by kernel_rfl

theorem cacheAt_own {β : Type} {p S : Nat} {bs : List Nat} {ways : Nat} {u : Int} (B : Nat) (g : β → List (List Ent)) : OwnFrom B (fun s W => CacheAt W p S bs ways (g s) u) := fun s X Y row hs hg hr =>
  ⟨ownFrom_holds B p _ (fun _ : β => _) s X Y row hs.head hg hr, ownFrom_holds B S _ (fun _ : β => _) s X Y row hs.sets hg hr, fun i b r h1 h2 => ownFrom_holds B b _ (fun _ : β => _) s X Y row (hs.rows i b r h1 h2) hg hr,
    hs.many, hs.wide, hs.n1, hs.n8, hs.w1, hs.w4, hs.apart⟩

theorem CacheAt.ent {w : World} {p S : Nat} {bs : List Nat} {ways : Nat} {ss : List (List Ent)} {u : Int} (h : CacheAt w p S bs ways ss u) {i b j : Nat} (hb : bs[i]? = some b) (hj : j < ways) :
    ∃ s, ss[i]? = some s ∧ s[j]? = some (getE ss i j) ∧ Holds w b 42 (s.flatMap Ent.cells) := by
  obtain ⟨s, hs, hl, hr⟩ := h.at hb
  refine ⟨s, hs, ?_, hr⟩
  simp [getE, hs, List.getD_eq_getElem?_getD, List.getElem?_eq_getElem (show j < s.length by omega)]

theorem CacheAt.ap {w : World} {p S : Nat} {bs : List Nat} {ways : Nat} {ss : List (List Ent)} {u : Int} (h : CacheAt w p S bs ways ss u) : p ≠ S ∧ p ∉ bs ∧ S ∉ bs := by
  have := h.apart
  simp only [List.nodup_cons, List.mem_cons, not_or] at this
  exact ⟨this.1.1, this.1.2, this.2.1⟩

theorem allKp_of {p S Bc : Nat} {bs : List Nat} {ways n1 : Nat} {ss ss' : List (List Ent)} {u u' : Int} {W W' : World} (h : CacheAt W p S bs ways ss u) (h' : CacheAt W' p S bs ways ss' u') (hst : ∀ i j, (getE ss' i j).state = (getE ss i j).state)
    (hT : Tch (· ∈ bs) W W') (hn : ∀ b ∈ bs, b < n1) (hB : Bc ∉ bs) (hl : Bc < W.heap.size) : AllKp p S Bc bs ways n1 W W' := by
  refine ⟨hT.size, ?_, fun k o h1 h2 _ => (hT.block k (Array.getElem?_eq_some_iff.1 h2).1 (fun hk => by have := hn k hk; omega)).trans h2,
    fun k h1 v h2 => hT.holds (fun hk => by have := hn k hk; omega) h2, fun k v h1 h2 => hT.holds (fun hk => by have := hn k hk; omega) h2, ?_⟩
  · rintro k (rfl | rfl | rfl)
    · exact hT.block _ h.head.lt h.ap.2.1
    · exact hT.block _ h.sets.lt h.ap.2.2
    · exact hT.block _ hl hB
  · intro b hb j hj
    obtain ⟨i, hi, rfl⟩ := List.mem_iff_getElem.1 hb
    obtain ⟨s, _, he, hr⟩ := h.ent (List.getElem?_eq_getElem hi) hj
    obtain ⟨s', _, he', hr'⟩ := h'.ent (List.getElem?_eq_getElem hi) hj
    rw [hr.ent he (k := 1) (by omega) rfl, hr'.ent he' (k := 1) (by omega) rfl, hst]

theorem upd_state {ss : List (List Ent)} {i j : Nat} {e : Ent} (hi : i < ss.length) (hj : j < (ss.getD i []).length) (he : e.state = (getE ss i j).state) (i' j' : Nat) : (getE (upd ss i j e) i' j').state = (getE ss i' j').state := by
  rw [getE_upd _ _ _ _ _ _ hi hj]
  split
  · rename_i h; rw [he, h.1, h.2]
  · rfl

/-- An entry without marks. -/
def Ent.clear (e : Ent) : Ent := { e with read := false, write := false, old := L8.zero }
/-- An entry with what it had ahead of its mark Write. -/
def Ent.back (e : Ent) : Ent := if e.write then { e with data := e.old } else e
theorem Ent.clear_idem (e : Ent) : e.clear.clear = e.clear := rfl
theorem Ent.back_idem (e : Ent) : e.back.back = e.back := by unfold Ent.back; cases h : e.write <;> simp [h]

/-- Between two rounds over all entries. -/
def TurnI (f : Ent → Ent) (p S : Nat) (bs : List Nat) (ways : Nat) (ss : List (List Ent)) (u : Int) (W0 : World) (pre : List (Nat × Nat)) (W : World) : Prop := CacheAt W p S bs ways (updAll f ss pre) u ∧ Tch (· ∈ bs) W0 W
theorem turnI_own {f : Ent → Ent} {p S : Nat} {bs : List Nat} {ways : Nat} {ss : List (List Ent)} {u : Int} {W0 : World} : OwnFrom W0.heap.size (TurnI f p S bs ways ss u W0) := OwnFrom.and (cacheAt_own _ _) (ownFrom_tch (Nat.le_refl _))
def NoX (_ : Code) (_ : List (Nat × Nat)) (_ : World) : Prop := False
theorem noX_own {B : Nat} (c : Code) : OwnFrom B (NoX c) := fun _ _ _ _ hs _ _ => hs

/-- One round of it. -/
theorem turn_next {f : Ent → Ent} {p S Bc : Nat} {bs : List Nat} {ways n1 : Nat} {ss : List (List Ent)} {u : Int} {W0 W W' : World} {pre : List (Nat × Nat)} {i j : Nat} (hi : TurnI f p S bs ways ss u W0 pre W) (hil : i < bs.length) (hj : j < ways)
    (h' : CacheAt W' p S bs ways (upd (updAll f ss pre) i j (f (getE (updAll f ss pre) i j))) u) (hs : (f (getE (updAll f ss pre) i j)).state = (getE (updAll f ss pre) i j).state) (hT : Tch (· ∈ bs) W W') (hn : ∀ b ∈ bs, b < W0.heap.size) (hn1 : W0.heap.size ≤ n1) (hB : Bc ∉ bs) (hl : Bc < W.heap.size) :
    KeepsFrom W0.heap.size W W' ∧ AllKp p S Bc bs ways n1 W W' ∧ TurnI f p S bs ways ss u W0 (pre ++ [(i, j)]) W' := by
  have hlen : i < (updAll f ss pre).length := by rw [hi.1.many]; exact hil
  have hjl : j < ((updAll f ss pre).getD i []).length := by
    simp only [List.getD_eq_getElem?_getD, List.getElem?_eq_getElem hlen, Option.getD_some]; rw [hi.1.wide _ (List.getElem_mem hlen)]; exact hj
  exact ⟨hT.keepsFrom (fun k o h1 h2 _ => by have := hn k h1; omega), allKp_of hi.1 h' (upd_state hlen hjl hs) hT (fun b hb => Nat.lt_of_lt_of_le (hn b hb) hn1) hB hl, by rw [updAll_snoc]; exact h', hi.2.trans hT⟩

theorem CacheAt.head2 {w : World} {p S : Nat} {bs : List Nat} {ways : Nat} {ss : List (List Ent)} {u : Int} (h : CacheAt w p S bs ways ss u) : ∀ i b j, bs[i]? = some b → j < ways → w.cell? ⟨b, j * 21 + 1, none⟩ = some (.int .i64 ((ss.getD i []).getD j Ent.zero).state) := fun i b j hb hj => by
  obtain ⟨s, _, he, hr⟩ := h.ent hb hj
  exact hr.ent he (k := 1) (by omega) rfl

theorem mem_ents_of {ss : List (List Ent)} {ways n : Nat} {pre rest : List (Nat × Nat)} {i j : Nat} (h : entsAll ss ways n = pre ++ (i, j) :: rest) : i < n ∧ j < ways := by
  have : (i, j) ∈ entsAll ss ways n := by rw [h]; simp
  rw [mem_entsAll] at this
  exact ⟨this.1, this.2.1⟩

set_option maxRecDepth 100000 in
set_option maxHeartbeats 2000000 in
theorem unmark_any (p S ways : Nat) (bs : List Nat) (ss : List (List Ent)) (u : Int) (w : World) (h : CacheAt w p S bs ways ss u) :
    Calls Try.prog 78 #[.pointer (some ⟨p, 0, none⟩)] w fun e w' => e = .returned (.tuple #[]) ∧ CacheAt w' p S bs ways (turnAll Ent.clear ss) u ∧ Tch (· ∈ bs) w w' := by
  refine (callsIn_wide (n := 9)).1 ?_
  have hlt := h.lt
  have hap := h.ap
  have h0 := h.alloc (.cells #[.pointer (some ⟨p, 0, none⟩)] 23)
  have hT0 : Tch (· ∈ bs) w (w.alloc (.cells #[.pointer (some ⟨p, 0, none⟩)] 23)) := (Tch.refl _ w).alloc _
  have hBc := Holds.new w 23 [.pointer (some ⟨p, 0, none⟩)]
  change Holds (w.alloc (.cells #[.pointer (some ⟨p, 0, none⟩)] 23)) _ _ _ at hBc
  have hs0 : (w.alloc (.cells #[.pointer (some ⟨p, 0, none⟩)] 23)).heap.size = w.heap.size + 1 := by simp
  refine callsIn_of_wp_marks Try.func78 rfl trivial ?_ rfl
  simp only [Try.ntmps78, List.size_toArray, List.length_cons, List.length_nil, Nat.reduceAdd, Nat.reduceSub, Array.replicate_succ, Array.replicate_zero, List.push_toArray, List.append_toArray, List.nil_append, List.cons_append]
  have Hs0 := Lib.hid hs0; clear hs0
  have H0 := Lib.hid h0; clear h0
  have HT0 := Lib.hid hT0; clear hT0
  have HBc := Lib.hid hBc; clear hBc
  gi_wp2_with (gi_at_call 52; refine (callsIn_wide.2 (all_any p _)).mono ?_; rintro e w2 ⟨rfl, rfl⟩)
  generalize w.alloc (.cells #[.pointer (some ⟨p, 0, none⟩)] 23) = W0 at *
  have hsz := Hs0.out
  have hbW : ∀ b ∈ bs, b < W0.heap.size := fun b hb => by have := hlt.2.2 b hb; omega
  have hnB : w.heap.size ∉ bs := fun hb => by have := hlt.2.2 _ hb; omega
  have hk1 : W0.heap.size + 1 ≠ p := by omega
  have hk2 : W0.heap.size + 1 ≠ S := by omega
  have hk3 : W0.heap.size + 1 ≠ w.heap.size := by omega
  have hk4 : W0.heap.size + 1 ∉ bs := fun hb => by have := hbW _ hb; omega
  clear hsz
  refine each_own rfl rfl (gf := 79) (lb := #[.pointer (some ⟨w.heap.size, 0, none⟩)]) rfl trivial (enters_of Try.func79 (by kernel_rfl) rfl)
    (all1_each _ p S w.heap.size (W0.heap.size + 2) ways bs ss (.int .i64 u) W0 (by omega) h.w4 h.n1 h.n8 H0.out.head H0.out.sets HBc.out H0.out.head2) AllKp.trans (allKp_b (by omega) hk1 hk2 hk3 hk4) (fun _ => rfl)
    (TurnI Ent.clear p S bs ways ss u W0) NoX turnI_own noX_own ⟨H0.out, Tch.refl _ _⟩ ?round ?done ?stop
  case round =>
    rintro pre ⟨i, j⟩ rest W hx hl hi
    obtain ⟨hil, hjl⟩ := mem_ents_of hx
    clear hx hl
    obtain ⟨b, hb⟩ : ∃ b, bs[i]? = some b := ⟨bs[i], List.getElem?_eq_getElem hil⟩
    have hbk : bs.getD i 0 = b := by simp [List.getD_eq_getElem?_getD, hb]
    dsimp only
    rw [hbk]
    clear hbk
    have Hi := Lib.hid hi; clear hi
    have Hb := Lib.hid hb; clear hb
    unfold RoundOwes
    gi_wp2
    refine BodyOwes.plain turnI_own (AllKp.refl _ _ _ _ _ _ _) Hi.out ?_
    clear Hi
    intro W2 _ hi
    obtain ⟨s, hs, he, hr⟩ := hi.1.ent Hb.out hjl
    have c2 := hr.ent he (k := 2) (by omega) rfl
    have c3 := hr.ent he (k := 3) (by omega) rfl
    have f2 := hr.free (j * 21 + 2)
    have f3 := hr.free (j * 21 + 3)
    have ht := hr.there he (k := 12) (n := 8) (by omega)
    have Ht := Lib.hid ht; clear ht
    have Hi := Lib.hid hi; clear hi
    have Hs := Lib.hid hs; clear hs
    have He := Lib.hid he; clear he
    clear hr
    gi_wp2_with (refine in_store_mid rfl 36 _ _ rfl b (j * 21 + 12) #[.int .u64 0, .int .u64 0, .int .u64 0, .int .u64 0, .int .u64 0, .int .u64 0, .int .u64 0, .int .u64 0] rfl rfl ?_ Try.size36 (by simp [Value.oneCell']) ?_; exact there_set (there_set Ht.out _ _) _ _)
    have h3 := Hi.out.1.puts Hb.out Hs.out He.out (e' := (getE (updAll Ent.clear ss pre) i j).clear) [(2, [.bool false]), (3, [.bool false]), (12, L8.zero.cells)] (by simp [L8.cells]) rfl
    have hT : Tch (· ∈ bs) W2 (wr W2 b (j * 21) [(2, [.bool false]), (3, [.bool false]), (12, L8.zero.cells)]) := Tch.wrs (.inl (List.mem_of_getElem? Hb.out)) _ (Tch.refl _ _)
    exact turn_next Hi.out hil hjl h3 rfl hT hbW (by omega) hnB (by have := Hi.out.2.size; have := Hs0.out; omega)
  case done =>
    rintro W hi hK
    have Hi := Lib.hid hi; clear hi
    gi_wp2
    refine leaves_mark hK ⟨_, results_none rfl _ _ _, rfl, ?_, ?_⟩
    · have := (cacheAt_own (β := Unit) W0.heap.size fun _ => updAll Ent.clear ss (entsAll ss ways bs.length)).putObj (s := ()) (.deferred none) Hi.out.1 (Nat.le_refl _) hK rfl
      rw [← h.many, updAll_turnAll Ent.clear_idem ss ways h.wide] at this
      exact this
    · exact (HT0.out.trans Hi.out.2).putObj (.inr (by have := Hs0.out; omega)) _
  case stop =>
    rintro c pre W _ h _
    exact h.elim

end Go.Proofs.Ytddajnpichchfaa
