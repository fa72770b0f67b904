/- SoftPoints, the plain part: paths over one memory, whoever's turn it is. No conditions but those stated. -/
import Derived.Test.YtgdfiggloifncaaSoftQ
namespace Go.Proofs.Ytgdfiggloifncaa

/-- A path that is counted. -/
def PV.cnt (x : PV) : Int := if x.live = true ∨ x.at_ = .beginSeq then 1 else 0
/-- A path that writes. -/
def PV.wr (x : PV) : Int := if x.writing = true then 1 else 0
def Th.up : Th → Prop
  | .fetch a => 8 ≤ a
  | .sign => True
/-- Where a path's operation is, is it as it must be? -/
def At.up (m sh : Int → Int) (snap : Int) (r : List Pr) : At → Prop
  | .loadWord a => 8 ≤ a
  | .loadSeq a y => 8 ≤ a ∧ (m 0 = snap → m a = y)
  | .checkSeq t => t.up
  | .check g l t => t.up ∧ g % 2 = 0 ∧ 0 ≤ g ∧ g ≤ m 0 ∧ ∃ pre, r = pre ++ l ∧ (m 0 = g → ∀ q ∈ pre, m q.a = q.v)
  | .back l => m 0 = snap + 1 ∧ (∀ q ∈ l, 8 ≤ q.a) ∧ ∀ a, 8 ≤ a → putL m l a = sh a
  | _ => True
def At.alive (live : Bool) (log : Lg) : At → Prop
  | .no => True
  | .beginN => live = false ∧ log = Lg.zero
  | .beginCas _ => live = false ∧ log = Lg.zero
  | .beginSeq => live = false ∧ log = Lg.zero
  | _ => live = true
def At.isBack : At → Bool
  | .back _ => true
  | _ => false
/-- A path over a memory that others write, too. -/
structure OkP (m sh : Int → Int) (x : PV) : Prop where
  live : x.at_.alive x.live x.log
  wr : x.writing = x.at_.isBack
  even : x.snap % 2 = 0
  pos : 0 ≤ x.snap
  le : x.snap ≤ m 0
  rad : ∀ q ∈ x.log.r, 8 ≤ q.a
  wad : ∀ q ∈ x.log.w, 8 ≤ q.a
  reads : m 0 = x.snap → ∀ q ∈ x.log.r, m q.a = q.v
  up : x.at_.up m sh x.snap x.log.r

theorem putL_same : ∀ (l : List Pr) {m m' : Int → Int}, (∀ a, 8 ≤ a → m' a = m a) → ∀ a, 8 ≤ a → putL m' l a = putL m l a
  | [], _, _, h => h
  | q :: l, m, m', h => putL_same l (fun a ha => by
    by_cases e : a = q.a
    · simp only [upd, e]; simp
    · simp only [upd, if_neg e]; exact h a ha)
theorem putL_low : ∀ (l : List Pr) {m : Int → Int} {b : Int}, (∀ q ∈ l, q.a ≠ b) → putL m l b = m b
  | [], _, _, _ => rfl
  | q :: l, m, b, h => by
    rw [putL, putL_low l (fun q hq => h q (List.mem_cons_of_mem _ hq)), upd_other]
    exact fun e => h q List.mem_cons_self e.symm

/-- Words from 8 on and the sequence are as they were. -/
theorem OkP.same {m m' sh : Int → Int} {x : PV} (h : OkP m sh x) (h0 : m' 0 = m 0) (h8 : ∀ a, 8 ≤ a → m' a = m a) : OkP m' sh x := by
  obtain ⟨at_, snap, val, pts, live, writing, ended, log⟩ := x
  obtain ⟨h1, h2, h3, h4, h5, h6, h7, h9, h10⟩ := h
  refine ⟨h1, h2, h3, h4, by rw [h0]; exact h5, h6, h7, fun e q hq => ?_, ?_⟩
  · rw [h8 _ (h6 q hq)]; exact h9 (h0 ▸ e) q hq
  · cases at_ <;> simp only [At.up] at h10 ⊢
    · exact h10
    · exact ⟨h10.1, fun e => by rw [h8 _ h10.1]; exact h10.2 (h0 ▸ e)⟩
    · exact h10
    · obtain ⟨a1, a2, a3, a4, pre, a5, a6⟩ := h10
      refine ⟨a1, a2, a3, by rw [h0]; exact a4, pre, a5, fun e q hq => ?_⟩
      have a7 : log.r = pre ++ _ := a5
      rw [h8 _ (h6 q (by show q ∈ log.r; rw [a7]; exact List.mem_append_left _ hq))]
      exact a6 (h0 ▸ e) q hq
    · obtain ⟨a1, a2, a3⟩ := h10
      exact ⟨by rw [h0]; exact a1, a2, fun a ha => by rw [putL_same _ h8 a ha]; exact a3 a ha⟩
/-- The one who writes has moved: what others had is void. -/
theorem OkP.moved {m m' sh sh' : Int → Int} {x : PV} (h : OkP m sh x) (hw : x.writing = false) (h0 : m 0 ≤ m' 0) (h8 : ∀ s, s % 2 = 0 → s ≤ m 0 → m' 0 ≠ s) : OkP m' sh' x := by
  obtain ⟨at_, snap, val, pts, live, writing, ended, log⟩ := x
  obtain ⟨h1, h2, h3, h4, h5, h6, h7, h9, h10⟩ := h
  simp only at hw h2 h3 h4 h5 h6 h7 h9 h10
  refine ⟨h1, h2, h3, h4, Int.le_trans h5 h0, h6, h7, fun e => absurd e (h8 _ h3 h5), ?_⟩
  · cases at_ <;> simp only [At.up] at h10 ⊢
    · exact h10
    · exact ⟨h10.1, fun e => absurd e (h8 _ h3 h5)⟩
    · exact h10
    · obtain ⟨a1, a2, a3, a4, pre, a5, a6⟩ := h10
      exact ⟨a1, a2, a3, by omega, pre, a5, fun e => absurd e (h8 _ a2 a4)⟩
    · rw [hw] at h2; cases h2

theorem sum_set (f : PV → Int) : ∀ (xs : List PV) (i : Nat) {x : PV} (y : PV), xs[i]? = some x → ((xs.set i y).map f).sum = (xs.map f).sum - f x + f y
  | [], _, _, _, h => by simp at h
  | z :: xs, 0, x, y, h => by simp at h; subst h; simp; omega
  | z :: xs, i + 1, x, y, h => by simp at h; have := sum_set f xs i y h; simp only [List.set_cons_succ, List.map_cons, List.sum_cons]; rw [this]; omega
theorem sum_le (f : PV → Int) (hf : ∀ x, 0 ≤ f x) : ∀ (xs : List PV) {x : PV}, x ∈ xs → f x ≤ (xs.map f).sum ∧ 0 ≤ (xs.map f).sum
  | z :: xs, x, h => by
    have h0 : 0 ≤ (xs.map f).sum := by
      clear h; induction xs with
      | nil => simp
      | cons z xs ih => simp; have := hf z; omega
    rcases List.mem_cons.1 h with rfl | h
    · have := hf x; simp; omega
    · have := sum_le f hf xs h; have := hf z; simp; omega
theorem wr_pos (x : PV) : 0 ≤ x.wr := by unfold PV.wr; split <;> decide
theorem cnt_pos (x : PV) : 0 ≤ x.cnt := by unfold PV.cnt; split <;> decide

/-- Paths over one memory. -/
structure Inv (xs : List PV) (m sh : Int → Int) : Prop where
  each : ∀ x ∈ xs, OkP m sh x
  cnt : m 1 = (xs.map PV.cnt).sum
  odd : m 0 % 2 = (xs.map PV.wr).sum
  rest : (xs.map PV.wr).sum = 0 → ∀ a, 8 ≤ a → m a = sh a

/-- Nobody else writes. -/
theorem Inv.other {xs : List PV} {m sh : Int → Int} (h : Inv xs m sh) {i j : Nat} {x z : PV} (hi : xs[i]? = some x) (hx : x.writing = true ∨ m 0 % 2 = 0) (hj : xs[j]? = some z) (hij : j ≠ i) : z.writing = false := by
  by_cases hz : z.writing = true
  · exfalso
    have h1 := sum_set PV.wr xs i PV.zero hi
    have hm : z ∈ xs.set i PV.zero := List.mem_of_getElem? (by rw [List.getElem?_set_ne (Ne.symm hij)]; exact hj)
    have h2 := (sum_le PV.wr wr_pos _ hm).1
    have h3 : z.wr = 1 := by simp [PV.wr, hz]
    have h4 : PV.wr PV.zero = 0 := rfl
    have h5 := h.odd
    have h6 := wr_pos x
    rcases hx with hx | hx
    · have h7 : x.wr = 1 := by simp [PV.wr, hx]
      omega
    · omega
  · simpa using hz

theorem mem_set {xs : List PV} {i : Nat} {x y z : PV} (hi : xs[i]? = some x) (hz : z ∈ xs.set i y) : z = y ∨ ∃ j, j ≠ i ∧ xs[j]? = some z := by
  obtain ⟨j, hj⟩ := List.getElem?_of_mem hz
  by_cases e : j = i
  · subst e
    rw [List.getElem?_set_self (by have := (List.getElem?_eq_some_iff.1 hi).1; omega)] at hj
    exact .inl (by cases hj; rfl)
  · rw [List.getElem?_set_ne (Ne.symm e)] at hj
    exact .inr ⟨j, e, hj⟩

/-- A step that leaves the sequence, and words from 8 on. -/
theorem Inv.same {xs : List PV} {m m' sh : Int → Int} {i : Nat} {x y : PV} (h : Inv xs m sh) (hi : xs[i]? = some x) (h0 : m' 0 = m 0) (h8 : ∀ a, 8 ≤ a → m' a = m a) (h1 : m' 1 = m 1 - x.cnt + y.cnt) (hw : y.wr = x.wr) (hy : OkP m' sh y) : Inv (xs.set i y) m' sh := by
  refine ⟨fun z hz => ?_, ?_, ?_, ?_⟩
  · rcases mem_set hi hz with rfl | ⟨j, _, hj⟩
    · exact hy
    · exact (h.each z (List.mem_of_getElem? hj)).same h0 h8
  · rw [h1, sum_set _ _ _ _ hi, h.cnt]
  · rw [h0, sum_set _ _ _ _ hi, h.odd]; omega
  · rw [sum_set _ _ _ _ hi]
    intro e a ha
    rw [h8 a ha]
    exact h.rest (by omega) a ha
/-- A step of the one that writes. -/
theorem Inv.write {xs : List PV} {m m' sh sh' : Int → Int} {i : Nat} {x y : PV} (h : Inv xs m sh) (hi : xs[i]? = some x) (hx : x.writing = true ∨ m 0 % 2 = 0) (h0 : m 0 ≤ m' 0) (h8 : ∀ s, s % 2 = 0 → s ≤ m 0 → m' 0 ≠ s) (h1 : m' 1 = m 1) (hc : x.cnt = y.cnt) (hw : m' 0 % 2 = m 0 % 2 - x.wr + y.wr)
    (hr : y.writing = false → ∀ a, 8 ≤ a → m' a = sh' a) (hy : OkP m' sh' y) : Inv (xs.set i y) m' sh' := by
  refine ⟨fun z hz => ?_, ?_, ?_, ?_⟩
  · rcases mem_set hi hz with rfl | ⟨j, hij, hj⟩
    · exact hy
    · exact (h.each z (List.mem_of_getElem? hj)).moved (h.other hi hx hj hij) h0 h8
  · rw [h1, sum_set _ _ _ _ hi, h.cnt]; omega
  · rw [hw, sum_set _ _ _ _ hi, h.odd]
  · intro e
    have h2 := (sum_le PV.wr wr_pos (xs.set i y) (x := y) (List.mem_of_getElem? (List.getElem?_set_self (by have := (List.getElem?_eq_some_iff.1 hi).1; omega)))).1
    refine hr ?_
    by_cases hyw : y.writing = true
    · have : y.wr = 1 := by simp [PV.wr, hyw]
      omega
    · simpa using hyw
/-- What a step leaves. -/
def StepOk (xs : List PV) (i : Nat) (x : PV) (m sh : Int → Int) (s : PV × (Int → Int)) : Prop :=
  Inv (xs.set i s.1) s.2 (if s.1.writing = true ∧ x.writing = false then putL sh s.1.log.w else sh) ∧ (s.1.pts = x.pts ∨ s.1.pts = x.pts + 1 ∧ ∀ q ∈ s.1.log.r, s.2 q.a = q.v) ∧ m 0 ≤ s.2 0 ∧ s.2 0 ≤ m 0 + 1

/-- A step that leaves the sequence, and words from 8 on. -/
theorem StepOk.same {xs : List PV} {m m' sh : Int → Int} {i : Nat} {x y : PV} (h : Inv xs m sh) (hi : xs[i]? = some x) (h0 : m' 0 = m 0) (h8 : ∀ a, 8 ≤ a → m' a = m a) (h1 : m' 1 = m 1 - x.cnt + y.cnt) (hw : y.writing = x.writing)
    (hp : y.pts = x.pts ∨ y.pts = x.pts + 1 ∧ m 0 = y.snap) (hy : OkP m sh y) : StepOk xs i x m sh (y, m') := by
  have hy' := hy.same h0 h8
  have he : (if y.writing = true ∧ x.writing = false then putL sh y.log.w else sh) = sh := by rw [hw]; cases x.writing <;> simp
  refine ⟨?_, ?_, by show m 0 ≤ m' 0; omega, by show m' 0 ≤ m 0 + 1; omega⟩
  · show Inv _ _ (if y.writing = true ∧ x.writing = false then putL sh y.log.w else sh)
    rw [he]
    exact h.same hi h0 h8 h1 (by simp only [PV.wr, hw]) hy'
  · rcases hp with hp | ⟨hp, he⟩
    · exact .inl hp
    · exact .inr ⟨hp, fun q hq => hy'.reads (by rw [h0]; exact he) q hq⟩

theorem step_ok {xs : List PV} {m sh : Int → Int} {i : Nat} {x : PV} (h : Inv xs m sh) (hi : xs[i]? = some x) (hb : x.busy = true) (hB : m 0 ≤ 1000000) (hn : m 1 ≤ 1000) : StepOk xs i x m sh (stepV (x, m)) := by
  have hx := h.each x (List.mem_of_getElem? hi)
  have hc0 := (sum_le PV.cnt cnt_pos xs (List.mem_of_getElem? hi)).1
  rw [← h.cnt] at hc0
  obtain ⟨at_, snap, val, pts, live, writing, ended, log⟩ := x
  obtain ⟨h1, h2, h3, h4, h5, h6, h7, h9, h10⟩ := hx
  simp only at h1 h2 h3 h4 h5 h6 h7 h9 h10
  cases at_ with
  | no => cases hb
  | beginN =>
    have hs : stepV (⟨.beginN, snap, val, pts, live, writing, ended, log⟩, m) = (⟨.beginCas (m 1), snap, val, pts, live, writing, ended, log⟩, m) := by simp [stepV, PV.req, PV.give, memV]
    rw [hs]
    exact .same h hi rfl (fun _ _ => rfl) (by simp [PV.cnt]) rfl (.inl rfl) ⟨h1, h2, h3, h4, h5, h6, h7, h9, trivial⟩
  | beginCas n =>
    obtain ⟨rfl, rfl⟩ := h1
    by_cases e : m 1 = n
    · have hs : stepV (⟨.beginCas n, snap, val, pts, false, writing, ended, Lg.zero⟩, m) = (⟨.beginSeq, snap, val, pts, false, writing, ended, Lg.zero⟩, upd m 1 (IntKind.u64.wrap (n + 1))) := by simp [stepV, PV.req, PV.give, memV, okV, e]
      rw [hs]
      have hc : PV.cnt ⟨.beginCas n, snap, val, pts, false, writing, ended, Lg.zero⟩ = 0 := by simp [PV.cnt]
      have hw : IntKind.u64.wrap (n + 1) = n + 1 := IntWalk.u64_in _ (by omega)
      exact .same h hi (upd_other _ _ (by decide)) (fun a ha => upd_other _ _ (by omega)) (by rw [upd_same, hw, hc, e]; simp [PV.cnt]) rfl (.inl rfl) ⟨⟨rfl, rfl⟩, h2, h3, h4, h5, h6, h7, h9, trivial⟩
    · have hs : stepV (⟨.beginCas n, snap, val, pts, false, writing, ended, Lg.zero⟩, m) = (⟨.beginN, snap, val, pts, false, writing, ended, Lg.zero⟩, m) := by simp [stepV, PV.req, PV.give, memV, okV, e]
      rw [hs]
      exact .same h hi rfl (fun _ _ => rfl) (by simp [PV.cnt]) rfl (.inl rfl) ⟨⟨rfl, rfl⟩, h2, h3, h4, h5, h6, h7, h9, trivial⟩
  | beginSeq =>
    obtain ⟨rfl, rfl⟩ := h1
    by_cases e : m 0 % 2 = 0
    · have hs : stepV (⟨.beginSeq, snap, val, pts, false, writing, ended, Lg.zero⟩, m) = (⟨.no, m 0, val, pts + 1, true, writing, ended, Lg.zero⟩, m) := by simp [stepV, PV.req, PV.give, memV, e]
      rw [hs]
      exact .same h hi rfl (fun _ _ => rfl) (by simp [PV.cnt]) rfl (.inr ⟨rfl, rfl⟩) ⟨trivial, h2, e, by show 0 ≤ m 0; omega, Int.le_refl _, h6, h7, (fun _ q hq => by cases hq), trivial⟩
    · have hs : stepV (⟨.beginSeq, snap, val, pts, false, writing, ended, Lg.zero⟩, m) = (⟨.beginSeq, snap, val, pts, false, writing, ended, Lg.zero⟩, m) := by simp [stepV, PV.req, PV.give, memV, e]
      rw [hs]
      exact .same h hi rfl (fun _ _ => rfl) (by simp [PV.cnt]) rfl (.inl rfl) ⟨⟨rfl, rfl⟩, h2, h3, h4, h5, h6, h7, h9, trivial⟩
  | loadWord a =>
    obtain rfl : live = true := h1
    have hs : stepV (⟨.loadWord a, snap, val, pts, true, writing, ended, log⟩, m) = (⟨.loadSeq a (m a), snap, val, pts, true, writing, ended, log⟩, m) := by simp [stepV, PV.req, PV.give, memV]
    rw [hs]
    exact .same h hi rfl (fun _ _ => rfl) (by simp [PV.cnt]) rfl (.inl rfl) ⟨rfl, h2, h3, h4, h5, h6, h7, h9, ⟨h10, fun _ => rfl⟩⟩
  | loadSeq a y =>
    obtain rfl : live = true := h1
    by_cases e : m 0 = snap
    · by_cases hd : badR log a y = true
      · have hs : stepV (⟨.loadSeq a y, snap, val, pts, true, writing, ended, log⟩, m) = (⟨.leaveN 2, snap, val, pts, true, writing, ended, log⟩, m) := by simp [stepV, PV.req, PV.give, memV, e, hd]
        rw [hs]
        exact .same h hi rfl (fun _ _ => rfl) (by simp [PV.cnt]) rfl (.inl rfl) ⟨rfl, h2, h3, h4, h5, h6, h7, h9, trivial⟩
      · have hd' : badR log a y = false := by simpa using hd
        have hs : stepV (⟨.loadSeq a y, snap, val, pts, true, writing, ended, log⟩, m) = (⟨.no, snap, y, pts + 1, true, writing, ended, log.read a y⟩, m) := by simp [stepV, PV.req, PV.give, memV, e, hd']
        rw [hs]
        have hm : ∀ q ∈ (log.read a y).r, q ∈ log.r ∨ q = ⟨a, y⟩ := fun q hq => by
          simp only [Lg.read, readL] at hq
          split at hq
          · exact .inl hq
          · split at hq
            · exact .inl hq
            · split at hq
              · exact .inl hq
              · simpa using hq
        exact .same h hi rfl (fun _ _ => rfl) (by simp [PV.cnt]) rfl (.inr ⟨rfl, e⟩) ⟨trivial, h2, h3, h4, h5, fun q hq => by
          rcases hm q hq with hq | rfl
          · exact h6 q hq
          · exact h10.1, h7, fun e2 q hq => by
          rcases hm q hq with hq | rfl
          · exact h9 e q hq
          · exact h10.2 e, trivial⟩
    · have hs : stepV (⟨.loadSeq a y, snap, val, pts, true, writing, ended, log⟩, m) = (⟨.checkSeq (.fetch a), snap, val, pts, true, writing, ended, log⟩, m) := by simp [stepV, PV.req, PV.give, memV, e]
      rw [hs]
      exact .same h hi rfl (fun _ _ => rfl) (by simp [PV.cnt]) rfl (.inl rfl) ⟨rfl, h2, h3, h4, h5, h6, h7, h9, h10.1⟩
  | checkSeq t =>
    obtain rfl : live = true := h1
    by_cases e : m 0 % 2 = 0
    · have hs : stepV (⟨.checkSeq t, snap, val, pts, true, writing, ended, log⟩, m) = (⟨.check (m 0) log.r t, snap, val, pts, true, writing, ended, log⟩, m) := by simp [stepV, PV.req, PV.give, memV, e]
      rw [hs]
      exact .same h hi rfl (fun _ _ => rfl) (by simp [PV.cnt]) rfl (.inl rfl) ⟨rfl, h2, h3, h4, h5, h6, h7, h9, ⟨h10, e, by omega, Int.le_refl _, [], rfl, fun _ q hq => by cases hq⟩⟩
    · have hs : stepV (⟨.checkSeq t, snap, val, pts, true, writing, ended, log⟩, m) = (⟨.checkSeq t, snap, val, pts, true, writing, ended, log⟩, m) := by simp [stepV, PV.req, PV.give, memV, e]
      rw [hs]
      exact .same h hi rfl (fun _ _ => rfl) (by simp [PV.cnt]) rfl (.inl rfl) ⟨rfl, h2, h3, h4, h5, h6, h7, h9, h10⟩
  | check g l t =>
    obtain rfl : live = true := h1
    obtain ⟨a1, a2, a3, a4, pre, a5, a6⟩ := h10
    cases l with
    | nil =>
      by_cases e : m 0 = g
      · have hs : stepV (⟨.check g [] t, snap, val, pts, true, writing, ended, log⟩, m) = (⟨t.at, g, val, pts + 1, true, writing, ended, log⟩, m) := by simp [stepV, PV.req, PV.give, memV, hdA, e]
        rw [hs]
        have hr : log.r = pre := by rw [a5]; simp
        refine .same h hi rfl (fun _ _ => rfl) (by simp [PV.cnt]) rfl (.inr ⟨rfl, e⟩) ⟨?_, ?_, a2, a3, a4, h6, h7, fun _ q hq => a6 e q (by rw [← hr]; exact hq), ?_⟩
        · cases t <;> rfl
        · cases t <;> exact h2
        · cases t
          · exact a1
          · exact trivial
      · have hs : stepV (⟨.check g [] t, snap, val, pts, true, writing, ended, log⟩, m) = (⟨.checkSeq t, snap, val, pts, true, writing, ended, log⟩, m) := by simp [stepV, PV.req, PV.give, memV, hdA, e]
        rw [hs]
        exact .same h hi rfl (fun _ _ => rfl) (by simp [PV.cnt]) rfl (.inl rfl) ⟨rfl, h2, h3, h4, h5, h6, h7, h9, a1⟩
    | cons q l =>
      by_cases e : m q.a = q.v
      · have hs : stepV (⟨.check g (q :: l) t, snap, val, pts, true, writing, ended, log⟩, m) = (⟨.check g l t, snap, val, pts, true, writing, ended, log⟩, m) := by simp [stepV, PV.req, PV.give, memV, hdA, e]
        rw [hs]
        exact .same h hi rfl (fun _ _ => rfl) (by simp [PV.cnt]) rfl (.inl rfl) ⟨rfl, h2, h3, h4, h5, h6, h7, h9, ⟨a1, a2, a3, a4, pre ++ [q], by rw [a5]; simp, fun e0 z hz => by
          rcases List.mem_append.1 hz with hz | hz
          · exact a6 e0 z hz
          · obtain rfl := List.mem_singleton.1 hz; exact e⟩⟩
      · have hs : stepV (⟨.check g (q :: l) t, snap, val, pts, true, writing, ended, log⟩, m) = (⟨.leaveN 2, snap, val, pts, true, writing, ended, log⟩, m) := by simp [stepV, PV.req, PV.give, memV, hdA, e]
        rw [hs]
        exact .same h hi rfl (fun _ _ => rfl) (by simp [PV.cnt]) rfl (.inl rfl) ⟨rfl, h2, h3, h4, h5, h6, h7, h9, trivial⟩
  | take =>
    obtain rfl : live = true := h1
    obtain rfl : writing = false := h2
    by_cases e : m 0 = snap
    · have hs : stepV (⟨.take, snap, val, pts, true, false, ended, log⟩, m) = (⟨.back log.w, snap, val, pts + 1, true, true, ended, log⟩, upd m 0 (IntKind.u64.wrap (snap + 1))) := by simp [stepV, PV.req, PV.give, memV, okV, e]
      rw [hs]
      have hw : IntKind.u64.wrap (snap + 1) = snap + 1 := IntWalk.u64_in _ (by omega)
      have hz : (xs.map PV.wr).sum = 0 := by rw [← h.odd]; omega
      have h0 : upd m 0 (IntKind.u64.wrap (snap + 1)) 0 = snap + 1 := by rw [upd_same, hw]
      have hu : ∀ a, 8 ≤ a → upd m 0 (IntKind.u64.wrap (snap + 1)) a = m a := fun a ha => upd_other _ _ (by omega)
      refine ⟨?_, .inr ⟨rfl, fun q hq => ?_⟩, by show m 0 ≤ upd m 0 (IntKind.u64.wrap (snap + 1)) 0; omega, by show upd m 0 (IntKind.u64.wrap (snap + 1)) 0 ≤ m 0 + 1; omega⟩
      · simp only [and_self, if_true]
        refine h.write hi (.inr (by omega)) (by omega) (fun s hs1 hs2 => by omega) (upd_other _ _ (by decide)) (by simp [PV.cnt]) (by rw [h0]; simp [PV.wr]; omega) (fun e => by cases e) ⟨rfl, rfl, h3, h4, by show snap ≤ upd m 0 (IntKind.u64.wrap (snap + 1)) 0; omega, h6, h7, fun e0 => ?_, ⟨h0, h7, fun a ha => ?_⟩⟩
        · have e1 : upd m 0 (IntKind.u64.wrap (snap + 1)) 0 = snap := e0
          omega
        · exact putL_same log.w (fun b hb => by rw [hu b hb]; exact h.rest hz b hb) a ha
      · show upd m 0 (IntKind.u64.wrap (snap + 1)) q.a = q.v
        rw [hu _ (h6 q hq)]
        exact h9 e q hq
    · have hs : stepV (⟨.take, snap, val, pts, true, false, ended, log⟩, m) = (⟨.checkSeq .sign, snap, val, pts, true, false, ended, log⟩, m) := by simp [stepV, PV.req, PV.give, memV, okV, e]
      rw [hs]
      exact .same h hi rfl (fun _ _ => rfl) (by simp [PV.cnt]) rfl (.inl rfl) ⟨rfl, rfl, h3, h4, h5, h6, h7, h9, trivial⟩
  | back l =>
    obtain rfl : live = true := h1
    obtain rfl : writing = true := h2
    obtain ⟨b1, b2, b3⟩ := h10
    cases l with
    | nil =>
      have hw : IntKind.u64.wrap (snap + 2) = snap + 2 := IntWalk.u64_in _ (by omega)
      have hs : stepV (⟨.back [], snap, val, pts, true, true, ended, log⟩, m) = (⟨.leaveN 1, snap, val, pts, true, false, ended, log⟩, upd m 0 (snap + 2)) := by simp [stepV, PV.req, PV.give, memV, hdA, hdV, hw]
      rw [hs]
      have h0 : upd m 0 (snap + 2) 0 = snap + 2 := upd_same _ _ _
      have hu : ∀ a, 8 ≤ a → upd m 0 (snap + 2) a = m a := fun a ha => upd_other _ _ (by omega)
      refine ⟨?_, .inl rfl, by show m 0 ≤ upd m 0 (snap + 2) 0; omega, by show upd m 0 (snap + 2) 0 ≤ m 0 + 1; omega⟩
      simp only []
      exact h.write hi (.inl rfl) (by omega) (fun s hs1 hs2 => by omega) (upd_other _ _ (by decide)) (by simp [PV.cnt]) (by rw [h0]; simp [PV.wr]; omega) (fun _ a ha => by rw [hu a ha]; exact b3 a ha) ⟨rfl, rfl, h3, h4, by show snap ≤ upd m 0 (snap + 2) 0; omega, h6, h7, fun e0 => by
        have e1 : upd m 0 (snap + 2) 0 = snap := e0
        omega, trivial⟩
    | cons q l =>
      have hs : stepV (⟨.back (q :: l), snap, val, pts, true, true, ended, log⟩, m) = (⟨.back l, snap, val, pts, true, true, ended, log⟩, upd m q.a q.v) := by simp [stepV, PV.req, PV.give, memV, hdA, hdV]
      rw [hs]
      have hq := b2 q List.mem_cons_self
      have h0 : upd m q.a q.v 0 = m 0 := upd_other _ _ (by omega)
      refine ⟨?_, .inl rfl, by show m 0 ≤ upd m q.a q.v 0; omega, by show upd m q.a q.v 0 ≤ m 0 + 1; omega⟩
      simp only []
      exact h.write hi (.inl rfl) (by omega) (fun s hs1 hs2 => by omega) (upd_other _ _ (by omega)) rfl (by rw [h0]; simp [PV.wr]) (fun e => by cases e) ⟨rfl, rfl, h3, h4, by show snap ≤ upd m q.a q.v 0; omega, h6, h7, fun e0 => by
        have e1 : upd m q.a q.v 0 = snap := e0
        omega, ⟨by rw [h0]; exact b1, fun z hz => b2 z (List.mem_cons_of_mem _ hz), b3⟩⟩
  | leaveN how =>
    obtain rfl : live = true := h1
    have hs : stepV (⟨.leaveN how, snap, val, pts, true, writing, ended, log⟩, m) = (⟨.leaveCas how (m 1), snap, val, pts, true, writing, ended, log⟩, m) := by simp [stepV, PV.req, PV.give, memV]
    rw [hs]
    exact .same h hi rfl (fun _ _ => rfl) (by simp [PV.cnt]) rfl (.inl rfl) ⟨rfl, h2, h3, h4, h5, h6, h7, h9, trivial⟩
  | leaveCas how n =>
    obtain rfl : live = true := h1
    by_cases e : m 1 = n
    · have hc : PV.cnt ⟨.leaveCas how n, snap, val, pts, true, writing, ended, log⟩ = 1 := by simp [PV.cnt]
      have hw : IntKind.u64.wrap (n + 18446744073709551615) = n - 1 := by rw [IntKind.wrap_u64]; omega
      have hs : stepV (⟨.leaveCas how n, snap, val, pts, true, writing, ended, log⟩, m) = (⟨.no, snap, val, pts, false, writing, how, log⟩, upd m 1 (n - 1)) := by simp [stepV, PV.req, PV.give, memV, okV, e, hw]
      rw [hs]
      exact .same h hi (upd_other _ _ (by decide)) (fun a ha => upd_other _ _ (by omega)) (by rw [upd_same, hc, e]; simp [PV.cnt]) rfl (.inl rfl) ⟨trivial, h2, h3, h4, h5, h6, h7, h9, trivial⟩
    · have hs : stepV (⟨.leaveCas how n, snap, val, pts, true, writing, ended, log⟩, m) = (⟨.leaveN how, snap, val, pts, true, writing, ended, log⟩, m) := by simp [stepV, PV.req, PV.give, memV, okV, e]
      rw [hs]
      exact .same h hi rfl (fun _ _ => rfl) (by simp [PV.cnt]) rfl (.inl rfl) ⟨rfl, h2, h3, h4, h5, h6, h7, h9, trivial⟩
/-- A call of a path that is busy no more leaves memory as it is. -/
theorem call_ok {xs : List PV} {m sh : Int → Int} {i : Nat} {x : PV} (h : Inv xs m sh) (hi : xs[i]? = some x) (y : PV) (hy : OkP m sh y) (hw : y.writing = x.writing) (hc : y.cnt = x.cnt) : Inv (xs.set i y) m sh :=
  h.same hi rfl (fun _ _ => rfl) (by rw [hc]; omega) (by simp only [PV.wr, hw]) hy

theorem begin_of {m sh : Int → Int} {x : PV} (h : OkP m sh x) : OkP m sh x.begin ∧ x.begin.writing = x.writing ∧ x.begin.cnt = x.cnt ∧ x.begin.pts = x.pts := by
  unfold PV.begin
  split
  · exact ⟨h, rfl, rfl, rfl⟩
  · rename_i hb
    obtain ⟨at_, snap, val, pts, live, writing, ended, log⟩ := x
    have ⟨e1, e2⟩ : at_ = .no ∧ live = false := by
      simp only [PV.errB] at hb
      split at hb
      · exact absurd (by decide) hb
      · rename_i h9
        exact ⟨Decidable.byContradiction fun e => h9 (.inl e), by cases live <;> simp_all⟩
    subst e1 e2
    obtain ⟨h1, h2, h3, h4, h5, h6, h7, h9, h10⟩ := h
    exact ⟨⟨⟨rfl, rfl⟩, h2, h3, h4, h5, (fun q hq => by cases hq), (fun q hq => by cases hq), (fun _ q hq => by cases hq), trivial⟩, rfl, by simp [PV.cnt], rfl⟩

theorem shut_of {x : PV} (h : ¬ x.shut ≠ 0) : x.at_ = .no ∧ x.live = true := by
  simp only [PV.shut] at h
  split at h
  · exact absurd (by decide) h
  · rename_i h9
    exact ⟨Decidable.byContradiction fun e => h9 (.inl e), by cases hl : x.live <;> simp_all⟩
theorem errA_of {x : PV} {a : Int} (h : ¬ x.errA a ≠ 0) : x.at_ = .no ∧ x.live = true := by
  simp only [PV.errA] at h
  split at h
  · rename_i h9; exact absurd h9 h
  · rename_i h9; exact shut_of h9

theorem load_of {m sh : Int → Int} {x : PV} (h : OkP m sh x) {a : Int} (ha : 8 ≤ a) : OkP m sh (x.load a) ∧ (x.load a).writing = x.writing ∧ (x.load a).cnt = x.cnt ∧ (x.load a).pts = x.pts := by
  unfold PV.load
  split
  · exact ⟨h, rfl, rfl, rfl⟩
  · rename_i hb
    obtain ⟨e1, e2⟩ := errA_of hb
    obtain ⟨at_, snap, val, pts, live, writing, ended, log⟩ := x
    simp only at e1 e2
    subst e1 e2
    obtain ⟨h1, h2, h3, h4, h5, h6, h7, h9, h10⟩ := h
    split
    · exact ⟨⟨trivial, h2, h3, h4, h5, h6, h7, h9, trivial⟩, rfl, rfl, rfl⟩
    · exact ⟨⟨rfl, h2, h3, h4, h5, h6, h7, h9, ha⟩, rfl, by simp [PV.cnt], rfl⟩

theorem writeL_low {l : List Pr} {a v : Int} (h : ∀ q ∈ l, 8 ≤ q.a) (ha : 8 ≤ a) : ∀ q ∈ writeL l a v, 8 ≤ q.a := by
  unfold writeL
  split
  · exact h
  · split
    · intro q hq
      rcases List.mem_or_eq_of_mem_set hq with hq | rfl
      · exact h q hq
      · exact ha
    · split
      · exact h
      · intro q hq
        rcases List.mem_append.1 hq with hq | hq
        · exact h q hq
        · obtain rfl := List.mem_singleton.1 hq; exact ha

theorem store_of {m sh : Int → Int} {x : PV} (h : OkP m sh x) {a v : Int} (ha : 8 ≤ a) : OkP m sh (x.store a v) ∧ (x.store a v).writing = x.writing ∧ (x.store a v).cnt = x.cnt ∧ (x.store a v).pts = x.pts := by
  unfold PV.store
  split
  · exact ⟨h, rfl, rfl, rfl⟩
  · rename_i hb
    obtain ⟨e1, e2⟩ := errA_of hb
    obtain ⟨at_, snap, val, pts, live, writing, ended, log⟩ := x
    simp only at e1 e2
    subst e1 e2
    obtain ⟨h1, h2, h3, h4, h5, h6, h7, h9, h10⟩ := h
    split
    · exact ⟨⟨rfl, h2, h3, h4, h5, h6, h7, h9, trivial⟩, rfl, by simp [PV.cnt], rfl⟩
    · exact ⟨⟨trivial, h2, h3, h4, h5, h6, writeL_low h7 ha, h9, trivial⟩, rfl, rfl, rfl⟩

theorem commit_of {m sh : Int → Int} {x : PV} (h : OkP m sh x) : OkP m sh x.commit ∧ x.commit.writing = x.writing ∧ x.commit.cnt = x.cnt ∧ x.commit.pts = x.pts := by
  unfold PV.commit
  split
  · exact ⟨h, rfl, rfl, rfl⟩
  · rename_i hb
    obtain ⟨e1, e2⟩ := shut_of hb
    obtain ⟨at_, snap, val, pts, live, writing, ended, log⟩ := x
    simp only at e1 e2
    subst e1 e2
    obtain ⟨h1, h2, h3, h4, h5, h6, h7, h9, h10⟩ := h
    split
    · exact ⟨⟨rfl, h2, h3, h4, h5, h6, h7, h9, trivial⟩, rfl, by simp [PV.cnt], rfl⟩
    · exact ⟨⟨rfl, h2, h3, h4, h5, h6, h7, h9, trivial⟩, rfl, by simp [PV.cnt], rfl⟩

theorem quit_of {m sh : Int → Int} {x : PV} (h : OkP m sh x) : OkP m sh x.quit ∧ x.quit.writing = x.writing ∧ x.quit.cnt = x.cnt ∧ x.quit.pts = x.pts := by
  unfold PV.quit
  split
  · exact ⟨h, rfl, rfl, rfl⟩
  · rename_i hb
    obtain ⟨e1, e2⟩ := shut_of hb
    obtain ⟨at_, snap, val, pts, live, writing, ended, log⟩ := x
    simp only at e1 e2
    subst e1 e2
    obtain ⟨h1, h2, h3, h4, h5, h6, h7, h9, h10⟩ := h
    exact ⟨⟨rfl, h2, h3, h4, h5, h6, h7, h9, trivial⟩, rfl, by simp [PV.cnt], rfl⟩

/-- What is seen: one writes at most, and the sequence is odd just then. -/
theorem Inv.writes {xs : List PV} {m sh : Int → Int} (h : Inv xs m sh) : (xs.map PV.wr).sum ≤ 1 ∧ m 0 % 2 = (xs.map PV.wr).sum := by
  have := h.odd
  exact ⟨by omega, this⟩
/-- The count, when nobody is busy. -/
theorem Inv.count {xs : List PV} {m sh : Int → Int} (h : Inv xs m sh) (hb : ∀ x ∈ xs, x.busy = false) : m 1 = (xs.map fun x => if x.live = true then (1 : Int) else 0).sum := by
  rw [h.cnt]
  congr 1
  refine List.map_congr_left fun x hx => ?_
  have := hb x hx
  simp only [PV.cnt]
  have e : x.at_ ≠ .beginSeq := fun e => by simp [PV.busy, e] at this
  simp [e]
theorem inv_start (n : Nat) {m sh : Int → Int} (h0 : m 0 % 2 = 0) (h00 : 0 ≤ m 0) (h1 : m 1 = 0) (h8 : ∀ a, 8 ≤ a → m a = sh a) : Inv (List.replicate n PV.zero) m sh := by
  have hs : ∀ (f : PV → Int), f PV.zero = 0 → ((List.replicate n PV.zero).map f).sum = 0 := fun f hf => by
    induction n with
    | zero => rfl
    | succ n ih => simp [List.replicate_succ, hf] at ih ⊢
  refine ⟨fun x hx => ?_, by rw [hs _ rfl, h1], by rw [hs _ rfl, h0], fun _ => h8⟩
  obtain rfl := List.eq_of_mem_replicate hx
  exact ⟨trivial, rfl, rfl, by decide, h00, (fun q hq => by cases hq), (fun q hq => by cases hq), (fun _ q hq => by cases hq), trivial⟩
/-- A call that begins an operation. -/
theorem begins_of {m sh : Int → Int} {x : PV} (h : OkP m sh x) (q : OpQ) {n : Int} (hn : 0 < n) : OkP m sh (beginsV x q n) ∧ (beginsV x q n).writing = x.writing ∧ (beginsV x q n).cnt = x.cnt ∧ (beginsV x q n).pts = x.pts := by
  have hp : 8 ≤ placeV q.a n := by
    have := Int.emod_nonneg q.a (show n ≠ 0 by omega)
    unfold placeV; omega
  unfold beginsV
  split
  · exact begin_of h
  · split
    · exact load_of h hp
    · split
      · exact store_of h hp
      · split
        · exact commit_of h
        · split
          · exact quit_of h
          · exact ⟨h, rfl, rfl, rfl⟩

/-- A turn: a request is answered, or a call is made, if there is one. -/
def turnV (s : PV × (Int → Int)) (o : Option OpQ) (n : Int) : PV × (Int → Int) := if s.1.busy then stepV s else match o with
  | some q => (beginsV s.1 q n, s.2)
  | none => s
theorem turn_ok {xs : List PV} {m sh : Int → Int} {i : Nat} {x : PV} (h : Inv xs m sh) (hi : xs[i]? = some x) (hB : m 0 ≤ 1000000) (hn : m 1 ≤ 1000) (o : Option OpQ) {n : Int} (h0 : 0 < n) : StepOk xs i x m sh (turnV (x, m) o n) := by
  unfold turnV
  split
  · rename_i hb
    exact step_ok h hi hb hB hn
  · have hx := h.each x (List.mem_of_getElem? hi)
    split
    · rename_i q
      obtain ⟨k1, k2, k3, k4⟩ := begins_of hx q h0
      exact .same h hi rfl (fun _ _ => rfl) (by show m 1 = m 1 - x.cnt + (beginsV x q n).cnt; rw [k3]; omega) k2 (.inl k4) k1
    · exact .same h hi rfl (fun _ _ => rfl) (by show m 1 = m 1 - x.cnt + x.cnt; omega) rfl (.inl rfl) hx
/-- The count is no more than there are paths. -/
theorem Inv.few {xs : List PV} {m sh : Int → Int} (h : Inv xs m sh) : 0 ≤ m 1 ∧ m 1 ≤ xs.length := by
  rw [h.cnt]
  clear h
  induction xs with
  | nil => simp
  | cons x xs ih =>
    have : 0 ≤ x.cnt ∧ x.cnt ≤ 1 := by unfold PV.cnt; split <;> decide
    simp only [List.map_cons, List.sum_cons, List.length_cons]
    omega

/-! ### Sums, one after the other -/
theorem sum_take (f : PV → Int) {xs : List PV} {k : Nat} {x : PV} (h : xs[k]? = some x) : ((xs.take (k + 1)).map f).sum = ((xs.take k).map f).sum + f x := by
  rw [List.take_add_one, h]
  simp

/-! ### Parts, and paths behind them -/
def allP (base : List Part) (ps : List Nat) (xs : List PV) : List Part := base ++ List.zipWith pathP ps xs
theorem allP_base {base : List Part} {ps : List Nat} {xs : List PV} {i : Nat} {P : Part} (h : base[i]? = some P) : (allP base ps xs)[i]? = some P := by
  have hl : i < base.length := (List.getElem?_eq_some_iff.1 h).1
  unfold allP
  rw [List.getElem?_append_left hl]; exact h
theorem allP_setB {base : List Part} {ps : List Nat} {xs : List PV} {i : Nat} {P : Part} (h : i < base.length) : (allP base ps xs).set i P = allP (base.set i P) ps xs := by
  unfold allP; exact List.set_append_left _ _ h
theorem allP_path {base : List Part} {ps : List Nat} {xs : List PV} {i p : Nat} {x : PV} (hp : ps[i]? = some p) (hx : xs[i]? = some x) : (allP base ps xs)[base.length + i]? = some (pathP p x) := by
  unfold allP
  rw [List.getElem?_append_right (by omega), show base.length + i - base.length = i from by omega, List.getElem?_zipWith, hp, hx]
theorem allP_set {base : List Part} {ps : List Nat} {xs : List PV} {i p : Nat} {y : PV} (hp : ps[i]? = some p) : (allP base ps xs).set (base.length + i) (pathP p y) = allP base ps (xs.set i y) := by
  unfold allP
  rw [List.set_append_right _ _ (by omega), show base.length + i - base.length = i from by omega]
  congr 1
  apply List.ext_getElem?
  intro j
  rw [List.getElem?_set, List.getElem?_zipWith, List.getElem?_zipWith, List.getElem?_set]
  by_cases e : i = j
  · subst e
    rw [if_pos rfl, if_pos rfl, hp, List.length_zipWith]
    have hi := (List.getElem?_eq_some_iff.1 hp).1
    by_cases hl : i < xs.length
    · rw [if_pos (by omega), if_pos hl]
    · rw [if_neg (by omega), if_neg hl]
  · rw [if_neg e, if_neg e]
theorem allP_snoc {base : List Part} {ps : List Nat} {xs : List PV} {p : Nat} {x : PV} (h : ps.length = xs.length) : allP base ps xs ++ [pathP p x] = allP base (ps ++ [p]) (xs ++ [x]) := by
  unfold allP
  rw [List.zipWith_append h, List.append_assoc]; rfl

end Go.Proofs.Ytgdfiggloifncaa
