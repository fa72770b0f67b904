/- Which way a line gets. Conditions: those stated in each theorem. -/
import Derived.Test.YtddajnpichchfaaHeld
import Derived.Scope
namespace Go.Proofs.Ytddajnpichchfaa
open Go.RowKit Go.Shelf
attribute [local go_sem] Oper.semAt_some
attribute [local simp] wide_fn

def Ent.marked (e : Ent) : Bool := e.read || e.write

set_option maxHeartbeats 1000000 in
theorem marked_any (b j : Nat) (s : List Ent) (e : Ent) (w : World) (hr : Holds w b 42 (s.flatMap Ent.cells)) (he : s[j]? = some e) :
    Calls Try.prog 94 #[.pointer (some ⟨b, j * 21, none⟩)] w fun r w' => r = .returned (.bool e.marked) ∧ w = w' := by
  have c2 : w.cell? ⟨b, j * 21 + 2, none⟩ = some (.bool e.read) := hr.ent he (by omega) rfl
  have c3 : w.cell? ⟨b, j * 21 + 3, none⟩ = some (.bool e.write) := hr.ent he (by omega) rfl
  have hd : Hid (e.marked = (e.read || e.write)) := rfl
  clear hr he
  generalize e.marked = m at *
  generalize e.read = r at *
  generalize e.write = t at *
  cases r
  all_goals
    go_enter Try.func94, Try.ntmps94
    go_wp2
    go_ret
    exact ⟨by rw [hd.out]; simp, rfl⟩

/-- No way without a mark was used before e. -/
def goes (s : List Ent) (e : Ent) : Bool := !e.marked && s.all fun o => o.marked || !decide (o.used < e.used)

theorem marked_in (m b j : Nat) (s : List Ent) (e : Ent) (w : World) (hr : Holds w b 42 (s.flatMap Ent.cells)) (he : s[j]? = some e) :
    CallsIn Fence.wide m Try.prog 94 #[.pointer (some ⟨b, j * 21, none⟩)] w fun r w' => r = .returned (.bool e.marked) ∧ w = w' :=
  callsIn_wide.2 (marked_any b j s e w hr he)
theorem marked_q (m b j : Nat) (s : List Ent) (e : Ent) (w : World) (hr : Holds w b 42 (s.flatMap Ent.cells)) (he : s[j]? = some e) (v : Bool) (hv : e.marked = v) :
    CallsIn Fence.wide m Try.prog 94 #[.pointer (some ⟨b, j * 21, none⟩)] w fun r w' => r = .returned (.bool v) ∧ w' = w :=
  (marked_in m b j s e w hr he).mono fun _ _ h => ⟨hv ▸ h.1, h.2.symm⟩

/-- Between two rounds of toGo. -/
def GoI (s : List Ent) (W0 : World) (pre : List Nat) (W : World) : Prop := Tch (fun _ => False) W0 W ∧ ∀ k e, k ∈ pre → s[k]? = some e → goes s e = false
/-- Where a round has found the way. -/
def GoX (b n0 : Nat) (s : List Ent) (W0 : World) (c : Code) (_ : List Nat) (W : World) : Prop :=
  (Tch (fun k => k = n0 + 2) W0 W ∧ Holds W (n0 + 2) 113 [.pointer (some ⟨b, (s.findIdx? (goes s)).getD 0 * 21, none⟩)]) ∧ (c = .ret ∧ (s.findIdx? (goes s)).isSome = true)
/-- Between two rounds of the inner loop. -/
def GoI2 (s : List Ent) (e : Ent) (W3 : World) (pre : List Nat) (W : World) : Prop := Tch (fun _ => False) W3 W ∧ ∀ k o, k ∈ pre → s[k]? = some o → (o.marked || !decide (o.used < e.used)) = true
/-- Where the inner loop goes on with the outer one. -/
def GoX2 (s : List Ent) (e : Ent) (W3 : World) (c : Code) (_ : List Nat) (W : World) : Prop := Tch (fun _ => False) W3 W ∧ (c = .exit 1 ∧ goes s e = false)

theorem goI_own {s : List Ent} {W0 : World} : OwnFrom W0.heap.size (GoI s W0) := OwnFrom.and (ownFrom_tch (Nat.le_refl _)) (ownFrom_pure _ _)
theorem goX_own {b n0 : Nat} {s : List Ent} {W0 : World} (c : Code) : OwnFrom W0.heap.size (GoX b n0 s W0 c) := OwnFrom.and (OwnFrom.and (ownFrom_tch (Nat.le_refl _)) (ownFrom_holds _ _ _ _)) (ownFrom_pure _ _)
theorem goI2_own {s : List Ent} {e : Ent} {W0 : World} : OwnFrom W0.heap.size (GoI2 s e W0) := OwnFrom.and (ownFrom_tch (Nat.le_refl _)) (ownFrom_pure _ _)
theorem goX2_own {s : List Ent} {e : Ent} {W0 : World} (c : Code) : OwnFrom W0.heap.size (GoX2 s e W0 c) := OwnFrom.and (ownFrom_tch (Nat.le_refl _)) (ownFrom_pure _ _)

theorem goes_marked {s : List Ent} {e : Ent} (h : e.marked = true) : goes s e = false := by simp [goes, h]
theorem goes_less {s : List Ent} {e o : Ent} {k : Nat} (ho : s[k]? = some o) (hm : o.marked = false) (hu : o.used < e.used) : goes s e = false := by
  simp only [goes, Bool.and_eq_false_iff, List.all_eq_false]
  exact .inr ⟨o, List.mem_of_getElem? ho, by simp [hm, hu]⟩
theorem goes_yes {s : List Ent} {e : Ent} (hm : e.marked = false) (h : ∀ k o, k ∈ List.range s.length → s[k]? = some o → (o.marked || !decide (o.used < e.used)) = true) : goes s e = true := by
  simp only [goes, hm, Bool.not_false, Bool.true_and, List.all_eq_true]
  intro o ho
  obtain ⟨k, hk, rfl⟩ := List.mem_iff_getElem.1 ho
  exact h k _ (List.mem_range.2 hk) (List.getElem?_eq_getElem hk)
theorem first_of {f : Ent → Bool} {s : List Ent} {x : Nat} {e : Ent} (he : s[x]? = some e) (hi : f e = true) (hn : ∀ k e, k ∈ List.range x → s[k]? = some e → f e = false) : s.findIdx? f = some x := by
  rw [List.findIdx?_eq_some_iff_getElem]
  obtain ⟨hx, rfl⟩ := List.getElem?_eq_some_iff.1 he
  refine ⟨hx, hi, fun j hj => ?_⟩
  rw [hn j _ (List.mem_range.2 hj) (List.getElem?_eq_getElem (by omega))]; simp
theorem none_of {f : Ent → Bool} {s : List Ent} (hn : ∀ k e, k ∈ List.range s.length → s[k]? = some e → f e = false) : s.findIdx? f = none := by
  rw [List.findIdx?_eq_none_iff]
  intro e he
  obtain ⟨k, hk, rfl⟩ := List.mem_iff_getElem.1 he
  exact hn k _ (List.mem_range.2 hk) (List.getElem?_eq_getElem hk)
theorem grow_pre {p : Ent → Prop} {s : List Ent} {x : Nat} {e : Ent} (h : ∀ k e, k ∈ List.range x → s[k]? = some e → p e) (he : s[x]? = some e) (hn : p e) : ∀ k e, k ∈ List.range x ++ [x] → s[k]? = some e → p e := fun k e' hk hs => by
  rcases List.mem_append.1 hk with hk | hk
  · exact h k e' hk hs
  · obtain rfl : k = x := by simpa using hk
    rw [he] at hs; cases hs; exact hn

/-- What toGo answers, of a set's row. -/
def GoAns (b : Nat) (s : List Ent) (w : World) (e : Ending) (w' : World) : Prop :=
  Below w.heap.size w w' ∧ match s.findIdx? (goes s) with
    | some j => e = .returned (.pointer (some ⟨b, j * 21, none⟩))
    | none => e = .returned (.pointer none)

set_option maxRecDepth 100000 in
set_option maxHeartbeats 2000000 in
theorem toGo_row (p S k n b ways : Nat) (u : Value) (L : List Value) (s : List Ent) (w : World) (hp : Holds w p 87 [.slice (some ⟨S, 0, none⟩) n n, u]) (hS : Holds w S 27 L) (hb : L[k % n]? = some (.slice (some ⟨b, 0, none⟩) ways ways)) (hn : 0 < n) (hn8 : n ≤ 8)
    (hr : Holds w b 42 (s.flatMap Ent.cells)) (hs : s.length = ways) (hw : ways ≤ 4) :
    Calls Try.prog 70 #[.pointer (some ⟨p, 0, none⟩), .int .i64 k] w (GoAns b s w) := by
  refine (callsIn_wide (n := 9)).1 ?_
  have hpl := hp.lt
  have hSl := hS.lt
  have hrl := hr.lt
  have Hp := Lib.hid hp; clear hp
  have HS := Lib.hid hS; clear hS
  have Hb := Lib.hid hb; clear hb
  have Hr := Lib.hid hr; clear hr
  have Hs := Lib.hid hs; clear hs
  refine callsIn_of_wp_marks Try.func70 rfl trivial ?_ rfl
  simp only [Try.ntmps70, List.size_toArray, List.length_cons, List.length_nil, Nat.reduceAdd, Nat.reduceSub, Array.replicate_succ, Array.replicate_zero, List.push_toArray, List.append_toArray, List.nil_append, List.cons_append]
  gi_wp2
  refine wpIn_wide.2 (wp_scope_straight ((wpIn_wide (n := 9)).1 ?_))
  refine wpIn_seq ?_
  refine wpIn_label ?_
  change Code.wpIn _ _ _ _ _ _ _
  gi_wp2_with (gi_at_call 80; refine (callsIn_wide.2 (set_any p S k n b ways u L _ (((Hp.out.alloc _).alloc _).alloc _) (((HS.out.alloc _).alloc _).alloc _) Hb.out hn hn8)).mono ?_; rintro e w2 ⟨rfl, q, rfl⟩)
  have hbel : Below w.heap.size w (((((w.alloc (.cells #[.pointer (some ⟨p, 0, none⟩)] 23)).alloc (.cells #[.int .i64 k] 3)).alloc (.cells #[.pointer none] 113)).alloc (.cells #[.slice (some ⟨b, 0, none⟩) ways ways] 27)).drewN q) :=
    below_drewN ((((((Below.refl _ w).alloc (Nat.le_refl _) _).alloc (by simp) _).alloc (by simp; omega) _).alloc (by simp; omega) _)) q
  have h2 : Holds (((((w.alloc (.cells #[.pointer (some ⟨p, 0, none⟩)] 23)).alloc (.cells #[.int .i64 k] 3)).alloc (.cells #[.pointer none] 113)).alloc (.cells #[.slice (some ⟨b, 0, none⟩) ways ways] 27)).drewN q) w.heap.size 23 [.pointer (some ⟨p, 0, none⟩)] :=
    ((((Holds.new w 23 [.pointer (some ⟨p, 0, none⟩)]).alloc _).alloc _).alloc _).drewN q
  have h3 : Holds (((((w.alloc (.cells #[.pointer (some ⟨p, 0, none⟩)] 23)).alloc (.cells #[.int .i64 k] 3)).alloc (.cells #[.pointer none] 113)).alloc (.cells #[.slice (some ⟨b, 0, none⟩) ways ways] 27)).drewN q) (w.heap.size + 1) 3 [.int .i64 k] := by
    have := Holds.new (w.alloc (.cells #[.pointer (some ⟨p, 0, none⟩)] 23)) 3 [.int .i64 k]
    simp only [World.size_alloc] at this
    exact ((this.alloc _).alloc _).drewN q
  have h4 : Holds (((((w.alloc (.cells #[.pointer (some ⟨p, 0, none⟩)] 23)).alloc (.cells #[.int .i64 k] 3)).alloc (.cells #[.pointer none] 113)).alloc (.cells #[.slice (some ⟨b, 0, none⟩) ways ways] 27)).drewN q) (w.heap.size + 1 + 1) 113 [.pointer none] := by
    have := Holds.new ((w.alloc (.cells #[.pointer (some ⟨p, 0, none⟩)] 23)).alloc (.cells #[.int .i64 k] 3)) 113 [.pointer none]
    simp only [World.size_alloc] at this
    exact (this.alloc _).drewN q
  have hB : Holds (((((w.alloc (.cells #[.pointer (some ⟨p, 0, none⟩)] 23)).alloc (.cells #[.int .i64 k] 3)).alloc (.cells #[.pointer none] 113)).alloc (.cells #[.slice (some ⟨b, 0, none⟩) ways ways] 27)).drewN q) (w.heap.size + 1 + 1 + 1) 27 [.slice (some ⟨b, 0, none⟩) ways ways] := by
    have := Holds.new (((w.alloc (.cells #[.pointer (some ⟨p, 0, none⟩)] 23)).alloc (.cells #[.int .i64 k] 3)).alloc (.cells #[.pointer none] 113)) 27 [.slice (some ⟨b, 0, none⟩) ways ways]
    simp only [World.size_alloc] at this
    exact this.drewN q
  have hsz : (((((w.alloc (.cells #[.pointer (some ⟨p, 0, none⟩)] 23)).alloc (.cells #[.int .i64 k] 3)).alloc (.cells #[.pointer none] 113)).alloc (.cells #[.slice (some ⟨b, 0, none⟩) ways ways] 27)).drewN q).heap.size = w.heap.size + 4 := by simp
  generalize ((((w.alloc (.cells #[.pointer (some ⟨p, 0, none⟩)] 23)).alloc (.cells #[.int .i64 k] 3)).alloc (.cells #[.pointer none] 113)).alloc (.cells #[.slice (some ⟨b, 0, none⟩) ways ways] 27)).drewN q = W0 at *
  have Hsz := Lib.hid hsz; clear hsz
  have hr0 : Holds W0 b 42 (s.flatMap Ent.cells) := Hr.out.same (hbel.block b hrl)
  have hp0 : Holds W0 p 87 [.slice (some ⟨S, 0, none⟩) n n, u] := Hp.out.same (hbel.block p hpl)
  have hS0 : Holds W0 S 27 L := HS.out.same (hbel.block S hSl)
  refine each_own rfl rfl (gf := 95) (lb := #[.pointer (some ⟨w.heap.size + 1 + 1 + 1, 0, none⟩)]) rfl trivial (enters_of Try.func95 (by kernel_rfl) rfl)
    (set1_each _ b ways (w.heap.size + 1 + 1 + 1) W0 hw hB (KpHold (w.heap.size + 1 + 1 + 1) 27) (fun _ _ h => h)) kpHold_t kpHold_b (fun _ => rfl) (GoI s W0) (GoX b w.heap.size s W0) goI_own goX_own
    ⟨Tch.refl _ _, fun k e h => by cases h⟩ ?round ?done ?stop
  case round =>
    intro pre x rest W hx hl hi
    obtain ⟨rfl, hlt⟩ := range_pre hx
    clear hx hl
    have Hi := Lib.hid hi; clear hi
    unfold RoundOwes
    gi_wp2
    refine ⟨(KeepsOthers.alloc _ _).from _, (Tch.kpHold ((Tch.refl (fun _ => False) W).alloc _) (fun h => h)), fun W' => GoI s W0 (List.range x) W' ∧ Holds W' W.heap.size 113 [.pointer (some ⟨b, x * 21, none⟩)],
      OwnFrom.and (fun _ => goI_own (List.range x)) (ownFrom_holds _ _ _ _), ⟨goI_own.alloc _ Hi.out, Holds.new W 113 [.pointer (some ⟨b, x * 21, none⟩)]⟩, ?_⟩
    rintro W2 ⟨r0, hl2⟩ hs2 ⟨hi2, hbx⟩
    clear hs2
    obtain ⟨e, he⟩ : ∃ e, s[x]? = some e := ⟨s[x]'(by rw [Hs.out]; exact hlt), List.getElem?_eq_getElem _⟩
    have hr2 : Holds W2 b 42 (s.flatMap Ent.cells) := hi2.1.holds (fun h => h) hr0
    have c5 : W2.cell? ⟨W.heap.size, 0, none⟩ = some (.pointer (some ⟨b, x * 21, none⟩)) := hbx.cell (i := 0) rfl
    have c2 : W2.cell? ⟨w.heap.size, 0, none⟩ = some (.pointer (some ⟨p, 0, none⟩)) := (hi2.1.holds (fun h => h) h2).cell (i := 0) rfl
    have c3 : W2.cell? ⟨w.heap.size + 1, 0, none⟩ = some (.int .i64 k) := (hi2.1.holds (fun h => h) h3).cell (i := 0) rfl
    have Hi2 := Lib.hid hi2; clear hi2
    have Hr2 := Lib.hid hr2; clear hr2
    have Hbx := Lib.hid hbx; clear hbx
    have hp2 := Hi2.out.1.holds (fun h => h) hp0
    have hS2 := Hi2.out.1.holds (fun h => h) hS0
    have hp2l := hp2.lt
    have hS2l := hS2.lt
    have Hp2 := Lib.hid hp2; clear hp2
    have HS2 := Lib.hid hS2; clear hS2
    cases hm : e.marked
    · have Hm := Lib.hid hm
      gi_wp2_with (gi_at_call 94; refine (CallsIn.inRound _ (marked_in _ b x s e _ Hr2.out he)).mono ?_; rw [hm]; clear hm; rintro e1 w2 ⟨rfl, rfl⟩)
      refine (CallsIn.inRound _ (callsIn_wide.2 (set_any p S k n b ways u L _ Hp2.out HS2.out Hb.out hn hn8))).mono ?_
      rintro e3 w3 ⟨rfl, q3, rfl⟩
      gi_wp2
      have hB3 : Holds ((W2.alloc (.cells #[.slice (some ⟨b, 0, none⟩) ways ways] 27)).drewN q3) W2.heap.size 27 [.slice (some ⟨b, 0, none⟩) ways ways] := (Holds.new W2 27 [.slice (some ⟨b, 0, none⟩) ways ways]).drewN q3
      have hT3 : Tch (fun _ => False) W2 ((W2.alloc (.cells #[.slice (some ⟨b, 0, none⟩) ways ways] 27)).drewN q3) := ((Tch.refl _ _).alloc _).drewN q3
      have hl3 : ((W2.alloc (.cells #[.slice (some ⟨b, 0, none⟩) ways ways] 27)).drewN q3).heap[W0.heap.size + 1]? = some (.loop r0) := (hT3.block _ (Array.getElem?_eq_some_iff.1 hl2).1 (fun h => h)).trans hl2
      have hs3 : ((W2.alloc (.cells #[.slice (some ⟨b, 0, none⟩) ways ways] 27)).drewN q3).heap.size = W2.heap.size + 1 := by simp
      generalize (W2.alloc (.cells #[.slice (some ⟨b, 0, none⟩) ways ways] 27)).drewN q3 = W3 at *
      have Hs3 := Lib.hid hs3; clear hs3
      have hr3 := hT3.holds (fun h => h) Hr2.out
      have Hr3 := Lib.hid hr3; clear hr3
      have hb3 := hT3.holds (fun h => h) Hbx.out
      have h43 := hT3.holds (fun h => h) (Hi2.out.1.holds (fun h => h) h4)
      have Hb3 := Lib.hid hb3; clear hb3
      have H43 := Lib.hid h43; clear h43
      clear c5 c2 c3
      refine each_in (F := Fence.wide.inRound (W0.heap.size + 1)) rfl rfl hl3 (gf := 95) (lb := #[.pointer (some ⟨W2.heap.size, 0, none⟩)]) rfl trivial (enters_of Try.func95 (by kernel_rfl) rfl)
        (SeqEach.inRound _ (set1_each _ b ways W2.heap.size W3 hw hB3 (KpHold W2.heap.size 27) (fun _ _ h => h))) kpHold_t kpHold_b (fun _ => rfl) (GoI2 s e W3) (GoX2 s e W3) goI2_own goX2_own
        ⟨Tch.refl _ _, fun k e h => by cases h⟩ ?round2 ?done2 ?stop2
      case round2 =>
        intro pre y rest2 V hy hl hi
        obtain ⟨rfl, hlt2⟩ := range_pre hy
        clear hy hl
        have Hi := Lib.hid hi; clear hi
        unfold RoundOwes
        gi_wp2
        refine BodyOwes.plain goI2_own (fun _ h => h) Hi.out ?_
        clear Hi
        intro V2 hl2' hv2
        obtain ⟨o, ho⟩ : ∃ e, s[y]? = some e := ⟨s[y]'(by rw [Hs.out]; exact hlt2), List.getElem?_eq_getElem _⟩
        have hrv : Holds V2 b 42 (s.flatMap Ent.cells) := hv2.1.holds (fun h => h) Hr3.out
        have c5 : V2.cell? ⟨W.heap.size, 0, none⟩ = some (.pointer (some ⟨b, x * 21, none⟩)) := (hv2.1.holds (fun h => h) Hb3.out).cell (i := 0) rfl
        have cu : V2.cell? ⟨b, y * 21 + 20, none⟩ = some (.int .i64 o.used) := hrv.ent ho (by omega) rfl
        have cx : V2.cell? ⟨b, x * 21 + 20, none⟩ = some (.int .i64 e.used) := hrv.ent he (by omega) rfl
        have Hv2 := Lib.hid hv2; clear hv2 hl2'
        have Hrv := Lib.hid hrv; clear hrv
        have Ho := Lib.hid ho; clear ho
        cases hmo : o.marked
        · have Hmo := Lib.hid hmo; clear hmo
          by_cases hu : o.used < e.used
          · have gu : decide (o.used < e.used) = true := by simp [hu]
            have Hu := Lib.hid hu; clear hu
            gi_wp2
            refine quiet_round (F := Fence.wide) rfl (by kernel_rfl) (by kernel_rfl) (by kernel_rfl) ?_
            repeat (gi_big_quiet_step ((gi_at_call 94; exact CallsIn.quiet_of_same (marked_q _ b y s o _ (Hrv.out.drewN _) Ho.out false Hmo.out))))
            refine wpQuietIn_nil ?_
            rintro _ ⟨nq, rfl⟩
            gi_wp2
            exact ⟨keepsFrom_drewN _ _ _, fun _ h => h, Hv2.out.1.drewN _, rfl, goes_less Ho.out Hmo.out Hu.out⟩
          · have gu : decide (o.used < e.used) = false := by simp [hu]
            have Hu := Lib.hid hu; clear hu
            gi_wp2
            refine quiet_round (F := Fence.wide) rfl (by kernel_rfl) (by kernel_rfl) (by kernel_rfl) ?_
            repeat (gi_big_quiet_step ((gi_at_call 94; exact CallsIn.quiet_of_same (marked_q _ b y s o _ (Hrv.out.drewN _) Ho.out false Hmo.out))))
            refine wpQuietIn_nil ?_
            rintro _ ⟨nq, rfl⟩
            gi_wp2
            exact ⟨keepsFrom_drewN _ _ _, fun _ h => h, Hv2.out.1.drewN _, grow_pre (p := fun o => (o.marked || !decide (o.used < e.used)) = true) Hv2.out.2 Ho.out (by simp only [gu]; simp)⟩
        · have Hmo := Lib.hid hmo; clear hmo
          gi_wp2
          refine quiet_round (F := Fence.wide) rfl (by kernel_rfl) (by kernel_rfl) (by kernel_rfl) ?_
          repeat (gi_big_quiet_step ((gi_at_call 94; exact CallsIn.quiet_of_same (marked_q _ b y s o _ (Hrv.out.drewN _) Ho.out true Hmo.out))))
          refine wpQuietIn_nil ?_
          rintro _ ⟨nq, rfl⟩
          gi_wp2
          exact ⟨keepsFrom_drewN _ _ _, fun _ h => h, Hv2.out.1.drewN _, grow_pre (p := fun o => (o.marked || !decide (o.used < e.used)) = true) Hv2.out.2 Ho.out (by simp only [Hmo.out]; simp)⟩
      case done2 =>
        intro V hv
        have c5 : V.cell? ⟨W.heap.size, 0, none⟩ = some (.pointer (some ⟨b, x * 21, none⟩)) := (hv.1.holds (fun h => h) Hb3.out).cell (i := 0) rfl
        have k4 := hv.1.holds (fun h => h) H43.out
        have c4 : V.cell? ⟨w.heap.size + 1 + 1, 0, none⟩ = some (.pointer none) := k4.cell (i := 0) rfl
        have f4 := k4.free 0
        have K4 := Lib.hid k4; clear k4
        have Hv := Lib.hid hv; clear hv
        gi_wp2
        have hg : goes s e = true := goes_yes Hm.out (by rw [Hs.out]; exact Hv.out.2)
        have hf := first_of he hg Hi2.out.2
        have hT := hT3.trans Hv.out.1
        refine ⟨(hT.mono (D := fun k => k = w.heap.size + 1 + 1) (fun _ _ h => h.elim)).setCell (.inl rfl) _ |>.keepsFrom (fun k o h1 h2 _ => by have := Hsz.out; omega), ((hT.mono (D := fun k => k = w.heap.size + 1 + 1) (fun _ _ h => h.elim)).setCell (.inl rfl) _).kpHold (by omega), ⟨?_, ?_⟩, rfl, by rw [hf]; rfl⟩
        · exact ((Hi2.out.1.trans (hT.mono (fun _ _ h => h.elim))).mono (D := fun k => k = w.heap.size + 2) (fun _ _ h => h.elim)).setCell (.inl rfl) _
        · rw [hf]; exact K4.out.set 0 _
      case stop2 =>
        rintro c pre V _ ⟨hT, rfl, hg⟩
        have HT := Lib.hid hT; clear hT
        gi_wp2
        have hT := hT3.trans HT.out
        exact ⟨hT.keepsFrom (fun k o h1 h2 _ => h1.elim), hT.kpHold (fun h => h), Hi2.out.1.trans hT, grow_pre Hi2.out.2 he hg⟩
    · have Hm := Lib.hid hm
      gi_wp2_with (gi_at_call 94; refine (CallsIn.inRound _ (marked_in _ b x s e _ Hr2.out he)).mono ?_; rw [hm]; clear hm; rintro e1 w2 ⟨rfl, rfl⟩)
      exact ⟨KeepsFrom.refl _ _, fun _ h => h, Hi2.out.1, grow_pre Hi2.out.2 he (goes_marked Hm.out)⟩
  case done =>
    intro W hi hK
    have k4 := hi.1.holds (fun h => h) h4
    have c4 : W.cell? ⟨w.heap.size + 1 + 1, 0, none⟩ = some (.pointer none) := k4.cell (i := 0) rfl
    have f4 := k4.free 0
    have K4 := Lib.hid k4; clear k4
    have Hi := Lib.hid hi; clear hi
    gi_wp2
    have q4 := K4.out.set 0 (.pointer none)
    have hK2 := (KeepsOthers.setCell W ⟨w.heap.size + 1 + 1, 0, none⟩ (.pointer none)).same _ _ hK rfl
    rw [Exit.noGoto_ret]
    refine leaves_mark hK2 ?_
    have r4 := (q4.putObj hK2 rfl (.deferred none)).cell (i := 0) rfl
    refine ⟨.pointer none, ?_, ?_⟩
    · simp [results, Try.f70, go_sem, r4]
    · refine ⟨hbel.trans (Tch.below (C := fun k => w.heap.size ≤ k) ?_ hbel.size (fun _ h => h)), ?_⟩
      · exact ((Hi.out.1.mono (fun _ _ h => h.elim)).setCell (.inl (by simp; omega)) _).putObj (.inl (by have := Hsz.out; omega)) _
      · rw [none_of (by rw [Hs.out]; exact Hi.out.2)]
  case stop =>
    intro c pre W _ hx hK
    obtain ⟨⟨hT, k4⟩, rfl, hsome⟩ := hx
    have K4 := Lib.hid k4; clear k4
    gi_wp2
    rw [Exit.noGoto_ret]
    refine leaves_mark hK ?_
    have r4 := (K4.out.putObj hK rfl (.deferred none)).cell (i := 0) rfl
    refine ⟨.pointer (some ⟨b, (s.findIdx? (goes s)).getD 0 * 21, none⟩), ?_, ?_⟩
    · simp [results, Try.f70, go_sem, r4]
    · refine ⟨hbel.trans (Tch.below (C := fun k => w.heap.size ≤ k) ?_ hbel.size (fun _ h => h)), ?_⟩
      · exact (hT.mono (fun _ _ h => by rw [h]; omega)).putObj (.inl (by have := Hsz.out; omega)) _
      · obtain ⟨j, hj⟩ := Option.isSome_iff_exists.1 hsome
        rw [hj]; rfl

end Go.Proofs.Ytddajnpichchfaa
