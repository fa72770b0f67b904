/- What finds an entry of package l1. Conditions: those stated in each theorem. -/
import Derived.Test.YtddajnpichchfaaIter
namespace Go.Proofs.Ytddajnpichchfaa
open Go.RowKit Go.Shelf
attribute [local go_sem] Oper.semAt_some

/-- Is it the entry of that line? -/
def Ent.is (line : Int) (e : Ent) : Bool := decide (e.state ≠ 0 ∧ e.line = line)

theorem Holds.ent {w : World} {b : Nat} {s : List Ent} (h : Holds w b 42 (s.flatMap Ent.cells)) {j k : Nat} {e : Ent} {v : Value} (he : s[j]? = some e) (hk : k < 21) (hv : e.cells[k]? = some v) : w.cell? ⟨b, j * 21 + k, none⟩ = some v :=
  h.cell ((rows_get Ent.cells Ent.len s j k e he hk).trans hv)

theorem Holds.ent0 {w : World} {b : Nat} {s : List Ent} (h : Holds w b 42 (s.flatMap Ent.cells)) {j : Nat} {e : Ent} (he : s[j]? = some e) : w.cell? ⟨b, j * 21, none⟩ = some (.int .i64 e.line) := by
  have := h.ent (k := 0) he (by omega) rfl
  rwa [Nat.add_zero] at this

/-- What held answers of a line, in its set's row. -/
def HeldAns (line : Int) (b : Nat) (s : List Ent) (w : World) (e : Ending) (w' : World) : Prop :=
  Below w.heap.size w w' ∧ match s.findIdx? (Ent.is line) with
    | some j => e = .returned (.tuple #[.pointer (some ⟨b, j * 21, none⟩), .int .i64 0])
    | none => e = .returned (.tuple #[.pointer none, .int .i64 20])

set_option maxHeartbeats 400000 in
theorem held_nil (k : Int) (w : World) : Calls Try.prog 69 #[.pointer none, .int .i64 k] w fun e w' => e = .returned (.tuple #[.pointer none, .int .i64 1]) ∧ Below w.heap.size w w' := by
  go_enter Try.func69, Try.ntmps69
  go_wp2
  exact bodyPost_ret (v := .tuple #[.pointer none, .int .i64 1]) (by simp [results, Try.results69, go_sem]) rfl ⟨rfl, by
    repeat (first | exact Below.refl _ _ | refine Below.setCell ?_ (by simp) _ | refine Below.alloc ?_ (by simp; try omega) _)⟩

set_option maxHeartbeats 400000 in
theorem held_neg (k : Int) (p : Nat) (w : World) (hk : k < 0) : Calls Try.prog 69 #[.pointer (some ⟨p, 0, none⟩), .int .i64 k] w fun e w' => e = .returned (.tuple #[.pointer none, .int .i64 20]) ∧ Below w.heap.size w w' := by
  go_enter Try.func69, Try.ntmps69
  go_wp2
  exact bodyPost_ret (v := .tuple #[.pointer none, .int .i64 20]) (by simp [results, Try.results69, go_sem]) rfl ⟨rfl, by
    repeat (first | exact Below.refl _ _ | refine Below.setCell ?_ (by simp) _ | refine Below.alloc ?_ (by simp; try omega) _)⟩

/-- Between two rounds of held. -/
def HeldI (line : Int) (s : List Ent) (W0 : World) (pre : List Nat) (W : World) : Prop := Tch (fun _ => False) W0 W ∧ ∀ k e, k ∈ pre → s[k]? = some e → Ent.is line e = false
/-- Where a round has found the entry. -/
def HeldX (line : Int) (b n0 : Nat) (s : List Ent) (W0 : World) (c : Code) (_ : List Nat) (W : World) : Prop :=
  ((Tch (fun k => k = n0 + 1 ∨ k = n0 + 2) W0 W ∧ Holds W (n0 + 1) 113 [.pointer (some ⟨b, (s.findIdx? (Ent.is line)).getD 0 * 21, none⟩)]) ∧ Holds W (n0 + 2) 24 [.int .i64 0]) ∧ (c = .ret ∧ (s.findIdx? (Ent.is line)).isSome = true)

theorem heldI_own {line : Int} {s : List Ent} {W0 : World} : OwnFrom W0.heap.size (HeldI line s W0) := OwnFrom.and (ownFrom_tch (Nat.le_refl _)) (ownFrom_pure _ _)
theorem heldX_own {line : Int} {b n0 : Nat} {s : List Ent} {W0 : World} (c : Code) : OwnFrom W0.heap.size (HeldX line b n0 s W0 c) :=
  OwnFrom.and (OwnFrom.and (OwnFrom.and (ownFrom_tch (Nat.le_refl _)) (ownFrom_holds _ _ _ _)) (ownFrom_holds _ _ _ _)) (ownFrom_pure _ _)

theorem find_first {line : Int} {s : List Ent} {x : Nat} {e : Ent} (he : s[x]? = some e) (hi : Ent.is line e = true) (hn : ∀ k e, k ∈ List.range x → s[k]? = some e → Ent.is line e = false) : s.findIdx? (Ent.is line) = some x := by
  rw [List.findIdx?_eq_some_iff_getElem]
  obtain ⟨hx, rfl⟩ := List.getElem?_eq_some_iff.1 he
  refine ⟨hx, hi, fun j hj => ?_⟩
  rw [hn j _ (List.mem_range.2 hj) (List.getElem?_eq_getElem (by omega))]; simp
theorem find_none {line : Int} {s : List Ent} (hn : ∀ k e, k ∈ List.range s.length → s[k]? = some e → Ent.is line e = false) : s.findIdx? (Ent.is line) = none := by
  rw [List.findIdx?_eq_none_iff]
  intro e he
  obtain ⟨k, hk, rfl⟩ := List.mem_iff_getElem.1 he
  exact hn k _ (List.mem_range.2 hk) (List.getElem?_eq_getElem hk)

theorem heldI_next {line : Int} {s : List Ent} {W0 W : World} {x : Nat} {e : Ent} (h : HeldI line s W0 (List.range x) W) (he : s[x]? = some e) (hn : Ent.is line e = false) (q : Nat) : HeldI line s W0 (List.range x ++ [x]) (W.drewN q) :=
  ⟨h.1.drewN q, fun k e' hk hs => by
    rcases List.mem_append.1 hk with hk | hk
    · exact h.2 k e' hk hs
    · obtain rfl : k = x := by simpa using hk
      rw [he] at hs; cases hs; exact hn⟩
theorem heldX_here {line : Int} {b n0 : Nat} {s : List Ent} {W0 W : World} {x : Nat} {e : Ent} (h : HeldI line s W0 (List.range x) W) (he : s[x]? = some e) (hi : Ent.is line e = true)
    (k4 : Holds W (n0 + 1) 113 [.pointer none]) (k5 : Holds W (n0 + 1 + 1) 24 [.int .i64 0]) (q : Nat) (_ : W0.heap.size = n0 + 4) :
    HeldX line b n0 s W0 .ret (List.range x ++ [x]) (((W.drewN q).setCell ⟨n0 + 1, 0, none⟩ (.pointer (some ⟨b, x * 21, none⟩))).setCell ⟨n0 + 1 + 1, 0, none⟩ (.int .i64 0)) := by
  have hf := find_first he hi h.2
  refine ⟨⟨⟨?_, ?_⟩, ?_⟩, rfl, by rw [hf]; rfl⟩
  · exact (((h.1.mono (D := fun k => k = n0 + 1 ∨ k = n0 + 2) (fun _ _ h => h.elim)).drewN q).setCell (.inl (.inl rfl)) _).setCell (.inl (.inr rfl)) _
  · rw [hf]; exact ((k4.drewN q).set 0 _).other (by simp) _
  · exact ((k5.drewN q).other (p := ⟨n0 + 1, 0, none⟩) (by simp) _).set 0 _

set_option maxRecDepth 100000 in
set_option maxHeartbeats 2000000 in
theorem held_row (p S k n b ways : Nat) (u : Value) (L : List Value) (s : List Ent) (w : World) (hp : Holds w p 87 [.slice (some ⟨S, 0, none⟩) n n, u]) (hS : Holds w S 27 L) (hb : L[k % n]? = some (.slice (some ⟨b, 0, none⟩) ways ways)) (hn : 0 < n) (hn8 : n ≤ 8)
    (hr : Holds w b 42 (s.flatMap Ent.cells)) (hs : s.length = ways) (hw : ways ≤ 4) :
    Calls Try.prog 69 #[.pointer (some ⟨p, 0, none⟩), .int .i64 k] w (HeldAns k b s w) := by
  refine (callsIn_wide (n := 9)).1 ?_
  have hpl := hp.lt
  have hSl := hS.lt
  have hrl := hr.lt
  have Hp := Lib.hid hp; clear hp
  have HS := Lib.hid hS; clear hS
  have Hb := Lib.hid hb; clear hb
  have Hr := Lib.hid hr; clear hr
  have Hs := Lib.hid hs; clear hs
  refine callsIn_of_wp_marks Try.func69 rfl trivial ?_ rfl
  simp only [Try.ntmps69, List.size_toArray, List.length_cons, List.length_nil, Nat.reduceAdd, Nat.reduceSub, Array.replicate_succ, Array.replicate_zero, List.push_toArray, List.append_toArray, List.nil_append, List.cons_append]
  have hge : ¬ (k : Int) < 0 := by omega
  gi_wp2_with (refine ⟨trivial, ?_⟩; gi_at_call 80; refine (callsIn_wide.2 (set_any p S k n b ways u L _ (((Hp.out.alloc _).alloc _).alloc _) (((HS.out.alloc _).alloc _).alloc _) Hb.out hn hn8)).mono ?_; rintro e w2 ⟨rfl, q, rfl⟩)
  have hbel : Below w.heap.size w (((((w.alloc (.cells #[.int .i64 k] 3)).alloc (.cells #[.pointer none] 113)).alloc (.cells #[.int .i64 0] 24)).alloc (.cells #[.slice (some ⟨b, 0, none⟩) ways ways] 27)).drewN q) :=
    below_drewN ((((((Below.refl _ w).alloc (Nat.le_refl _) _).alloc (by simp) _).alloc (by simp; omega) _).alloc (by simp; omega) _)) q
  have h3 := ((((Holds.new w 3 [.int .i64 k]).alloc (.cells #[.pointer none] 113)).alloc (.cells #[.int .i64 0] 24)).alloc (.cells #[.slice (some ⟨b, 0, none⟩) ways ways] 27)).drewN q
  have h4 := (((Holds.new (w.alloc (.cells #[.int .i64 k] 3)) 113 [.pointer none]).alloc (.cells #[.int .i64 0] 24)).alloc (.cells #[.slice (some ⟨b, 0, none⟩) ways ways] 27)).drewN q
  have h5 := ((Holds.new ((w.alloc (.cells #[.int .i64 k] 3)).alloc (.cells #[.pointer none] 113)) 24 [.int .i64 0]).alloc (.cells #[.slice (some ⟨b, 0, none⟩) ways ways] 27)).drewN q
  have hB := (Holds.new (((w.alloc (.cells #[.int .i64 k] 3)).alloc (.cells #[.pointer none] 113)).alloc (.cells #[.int .i64 0] 24)) 27 [.slice (some ⟨b, 0, none⟩) ways ways]).drewN q
  have hsz : (((((w.alloc (.cells #[.int .i64 k] 3)).alloc (.cells #[.pointer none] 113)).alloc (.cells #[.int .i64 0] 24)).alloc (.cells #[.slice (some ⟨b, 0, none⟩) ways ways] 27)).drewN q).heap.size = w.heap.size + 4 := by simp
  simp only [World.size_alloc] at h4 h5 hB
  change Holds _ w.heap.size _ _ at h3
  change Holds (((((w.alloc (.cells #[.int .i64 k] 3)).alloc (.cells #[.pointer none] 113)).alloc (.cells #[.int .i64 0] 24)).alloc (.cells #[.slice (some ⟨b, 0, none⟩) ways ways] 27)).drewN q) w.heap.size 3 [.int .i64 k] at h3
  change Holds (((((w.alloc (.cells #[.int .i64 k] 3)).alloc (.cells #[.pointer none] 113)).alloc (.cells #[.int .i64 0] 24)).alloc (.cells #[.slice (some ⟨b, 0, none⟩) ways ways] 27)).drewN q) (w.heap.size + 1) 113 [.pointer none] at h4
  change Holds (((((w.alloc (.cells #[.int .i64 k] 3)).alloc (.cells #[.pointer none] 113)).alloc (.cells #[.int .i64 0] 24)).alloc (.cells #[.slice (some ⟨b, 0, none⟩) ways ways] 27)).drewN q) (w.heap.size + 1 + 1) 24 [.int .i64 0] at h5
  change Holds (((((w.alloc (.cells #[.int .i64 k] 3)).alloc (.cells #[.pointer none] 113)).alloc (.cells #[.int .i64 0] 24)).alloc (.cells #[.slice (some ⟨b, 0, none⟩) ways ways] 27)).drewN q) (w.heap.size + 1 + 1 + 1) 27 [.slice (some ⟨b, 0, none⟩) ways ways] at hB
  generalize ((((w.alloc (.cells #[.int .i64 k] 3)).alloc (.cells #[.pointer none] 113)).alloc (.cells #[.int .i64 0] 24)).alloc (.cells #[.slice (some ⟨b, 0, none⟩) ways ways] 27)).drewN q = W0 at *
  have Hsz := Lib.hid hsz; clear hsz
  have hr0 : Holds W0 b 42 (s.flatMap Ent.cells) := Hr.out.same (hbel.block b hrl)
  refine each_own rfl rfl (gf := 95) (lb := #[.pointer (some ⟨w.heap.size + 1 + 1 + 1, 0, none⟩)]) rfl trivial (enters_of Try.func95 (by kernel_rfl) rfl)
    (set1_each _ b ways (w.heap.size + 1 + 1 + 1) W0 hw hB (KpHold (w.heap.size + 1 + 1 + 1) 27) (fun _ _ h => h)) kpHold_t kpHold_b (fun _ => rfl) (HeldI k s W0) (HeldX k b w.heap.size s W0) heldI_own heldX_own
    ⟨Tch.refl _ _, fun k e h => by cases h⟩ ?round ?done ?stop
  case round =>
    intro pre x rest W hx hl hi
    obtain ⟨rfl, hlt⟩ := range_pre hx
    unfold RoundOwes
    gi_wp2
    refine BodyOwes.plain heldI_own (fun _ h => h) hi ?_
    intro W2 hl2 hi2
    obtain ⟨e, he⟩ : ∃ e, s[x]? = some e := ⟨s[x]'(by rw [Hs.out]; exact hlt), List.getElem?_eq_getElem _⟩
    have hr2 : Holds W2 b 42 (s.flatMap Ent.cells) := hi2.1.holds (fun h => h) hr0
    have c1 : W2.cell? ⟨b, x * 21 + 1, none⟩ = some (.int .i64 e.state) := hr2.ent he (by omega) rfl
    have c0 : W2.cell? ⟨b, x * 21, none⟩ = some (.int .i64 e.line) := hr2.ent0 he
    have c3 : W2.cell? ⟨w.heap.size, 0, none⟩ = some (.int .i64 k) := (hi2.1.holds (fun h => h) h3).cell (i := 0) rfl
    have k4 := hi2.1.holds (fun h => h) h4
    have k5 := hi2.1.holds (fun h => h) h5
    have c4 : W2.cell? ⟨w.heap.size + 1, 0, none⟩ = some (.pointer none) := k4.cell (i := 0) rfl
    have c5 : W2.cell? ⟨w.heap.size + 1 + 1, 0, none⟩ = some (.int .i64 0) := k5.cell (i := 0) rfl
    have f4 := k4.free 0
    have f5 := k5.free 0
    have hlt2 := hr2.lt
    have Hi3 := Lib.hid hi2
    have K4 := Lib.hid k4
    have K5 := Lib.hid k5
    clear hr2 hi hl hl2 hx hi2 k4 k5
    by_cases h1 : e.state = 0
    · have g1 : (e.state != 0) = false := by simp [h1]
      have H1 := Lib.hid h1; clear h1
      gi_wp2
      refine quiet_round (F := Fence.wide) rfl (by kernel_rfl) (by kernel_rfl) (by kernel_rfl) ?_
      repeat (gi_big_quiet_step (fail))
      refine wpQuietIn_nil ?_
      rintro _ ⟨nq, rfl⟩
      gi_wp2
      exact ⟨keepsFrom_drewN _ _ _, fun _ h => h, heldI_next Hi3.out he (by simp [Ent.is, H1.out]) nq⟩
    · have g1 : (e.state != 0) = true := by simp [h1]
      have H1 := Lib.hid h1; clear h1
      by_cases h2 : e.line = k
      · have g2 : (e.line == (k : Int)) = true := by simp [h2]
        have H2 := Lib.hid h2; clear h2
        gi_wp2
        refine quiet_round (F := Fence.wide) rfl (by kernel_rfl) (by kernel_rfl) (by kernel_rfl) ?_
        repeat (gi_big_quiet_step (fail))
        refine wpQuietIn_nil ?_
        rintro _ ⟨nq, rfl⟩
        gi_wp2
        exact ⟨(((keepsOthers_drewN _ _).trans (KeepsOthers.setCell _ _ _)).trans (KeepsOthers.setCell _ _ _)).from _, Tch.kpHold (C := fun k => k = w.heap.size + 1 ∨ k = w.heap.size + 1 + 1) ((((Tch.refl _ _).drewN _).setCell (.inl (.inl rfl)) _).setCell (.inl (.inr rfl)) _) (by omega), heldX_here Hi3.out he (by simp [Ent.is, H1.out, H2.out]) K4.out K5.out nq Hsz.out⟩
      · have g2 : (e.line == (k : Int)) = false := by simp [h2]
        have H2 := Lib.hid h2; clear h2
        gi_wp2
        refine quiet_round (F := Fence.wide) rfl (by kernel_rfl) (by kernel_rfl) (by kernel_rfl) ?_
        repeat (gi_big_quiet_step (fail))
        refine wpQuietIn_nil ?_
        rintro _ ⟨nq, rfl⟩
        gi_wp2
        exact ⟨keepsFrom_drewN _ _ _, fun _ h => h, heldI_next Hi3.out he (by simp [Ent.is, H2.out]) nq⟩
  case done =>
    intro W hi hK
    have k4 := hi.1.holds (fun h => h) h4
    have k5 := hi.1.holds (fun h => h) h5
    have c4 : W.cell? ⟨w.heap.size + 1, 0, none⟩ = some (.pointer none) := k4.cell (i := 0) rfl
    have c5 : W.cell? ⟨w.heap.size + 1 + 1, 0, none⟩ = some (.int .i64 0) := k5.cell (i := 0) rfl
    have f4 := k4.free 0
    have f5 := k5.free 0
    have K4 := Lib.hid k4; clear k4
    have K5 := Lib.hid k5; clear k5
    have Hi := Lib.hid hi; clear hi
    gi_wp2
    have q5 := ((K5.out.other (p := ⟨w.heap.size + 1, 0, none⟩) (by simp) (.pointer none)).set 0 (.int .i64 20))
    have q4 := ((K4.out.set 0 (.pointer none)).other (p := ⟨w.heap.size + 1 + 1, 0, none⟩) (by simp) (.int .i64 20))
    have hK2 := ((KeepsOthers.setCell W ⟨w.heap.size + 1, 0, none⟩ (.pointer none)).trans (KeepsOthers.setCell _ ⟨w.heap.size + 1 + 1, 0, none⟩ (.int .i64 20))).same _ _ hK rfl
    refine leaves_mark hK2 ?_
    have r4 := (q4.putObj hK2 rfl (.deferred none)).cell (i := 0) rfl
    have r5 := (q5.putObj hK2 rfl (.deferred none)).cell (i := 0) rfl
    refine ⟨.tuple #[.pointer none, .int .i64 20], ?_, ?_⟩
    · simp [results, Try.f69, go_sem, r4, r5]
    · refine ⟨hbel.trans (Tch.below (C := fun k => w.heap.size ≤ k) ?_ hbel.size (fun _ h => h)), ?_⟩
      · exact (((Hi.out.1.mono (fun _ _ h => h.elim)).setCell (.inl (by simp)) _).setCell (.inl (by simp; omega)) _).putObj (.inl (by have := Hsz.out; omega)) _
      · rw [find_none (by rw [Hs.out]; exact Hi.out.2)]
  case stop =>
    intro c pre W _ hx hK
    obtain ⟨⟨⟨hT, k4⟩, k5⟩, rfl, hsome⟩ := hx
    have K4 := Lib.hid k4; clear k4
    have K5 := Lib.hid k5; clear k5
    gi_wp2
    refine leaves_mark hK ?_
    have r4 := (K4.out.putObj hK rfl (.deferred none)).cell (i := 0) rfl
    have r5 := (K5.out.putObj hK rfl (.deferred none)).cell (i := 0) rfl
    refine ⟨.tuple #[.pointer (some ⟨b, (s.findIdx? (Ent.is k)).getD 0 * 21, none⟩), .int .i64 0], ?_, ?_⟩
    · simp [results, Try.f69, go_sem, r4, r5]
    · refine ⟨hbel.trans (Tch.below (C := fun k => w.heap.size ≤ k) ?_ hbel.size (fun _ h => h)), ?_⟩
      · exact (hT.mono (fun _ _ h => by rcases h with h | h <;> omega)).putObj (.inl (by have := Hsz.out; omega)) _
      · obtain ⟨j, hj⟩ := Option.isSome_iff_exists.1 hsome
        rw [hj]; rfl

end Go.Proofs.Ytddajnpichchfaa
