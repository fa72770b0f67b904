/- A range over a function, at any iterator whose contract names the row of what it tells: two laws (in a function's own frame; in a round of another loop). Conditions: those stated in each theorem. -/
import Derived.RangeFuncNested
import Derived.RangeFuncBound
import Derived.RangeFuncCalls
import Derived.RangeFuncLeaves
import Derived.RangeFuncBox
import Derived.Sort.QuietIn
import Derived.Deep.MidRow
import Derived.OwnWalkIn
namespace Go.Proofs.YteijhcibdglkeaaGreatDoor
open Go Go.RowKit
variable {F : Fence} {P : Program} {α : Type}

theorem wide_fn (f : Nat) : Fence.wide.fn f = True := rfl
theorem room_free (hd : F.depth = none) (k : Nat) : F.room k := fun d h => by rw [hd] at h; cases h
theorem yield_free (hd : F.depth = none) {m : Nat} (m' : Nat) {l : Nat} {args : Array Value} {W : World} {R : Ending → World → Prop} (h : YieldAt F m P l args W R) : YieldAt F m' P l args W R := by
  obtain ⟨fn, ts, as, bd, hy, hf, hr⟩ := h
  exact ⟨fn, ts, as, bd, hy, hf, fun c cs _ => hr c cs (room_free hd _)⟩

/-- How the body of a round may be left. -/
def EachPost (B : Nat) (Kp : World → World → Prop) (I : List α → World → Prop) (Ix : Code → List α → World → Prop) (xs : List α) (W : World) : Exit → Act → World → Prop
  | .normal, _, W' => KeepsFrom B W W' ∧ Kp W W' ∧ I xs W'
  | .ret, _, W' => KeepsFrom B W W' ∧ Kp W W' ∧ Ix .ret xs W'
  | .exit id, _, W' => KeepsFrom B W W' ∧ Kp W W' ∧ Ix (.exit id) xs W'
  | .goto t, _, W' => KeepsFrom B W W' ∧ Kp W W' ∧ Ix (.goto t) xs W'
  | .panic _, _, _ => False
  | .outgrown, _, _ => False

/-- What an iterator g does: it tells xs in order, unless a round says 'no more'; Kp: what each round keeps. -/
def SeqEach (F : Fence) (P : Program) (g : Nat) (lb : Array Value) (encs : α → Array Value) (Kp : World → World → Prop) (xs : List α) (w : World) (l : Nat) : Prop :=
  ∀ (m : Nat) (J Jx : List α → World → Prop) (W : World), Below w.heap.size w W → l < W.heap.size → OwnFrom W.heap.size J → OwnFrom W.heap.size Jx →
    (∀ m' pre x rest W1, xs = pre ++ x :: rest → J pre W1 → YieldAt F m' P l (encs x) W1 fun e W' =>
      (e = .returned (.bool true) ∧ J (pre ++ [x]) W' ∧ Kp W1 W') ∨ (e = .returned (.bool false) ∧ Jx (pre ++ [x]) W' ∧ Kp W1 W')) →
    J [] W →
    CallsIn F m P g (#[.func (.yield l) #[] #[]] ++ lb) W fun e W' => (∃ v, e = .returned v) ∧ (J xs W' ∨ ∃ pre, pre <+: xs ∧ Jx pre W')

theorem SeqEach.inRound {g : Nat} {lb : Array Value} {encs : α → Array Value} {Kp : World → World → Prop} {xs : List α} {w : World} {l' : Nat} (l : Nat) (h : SeqEach F P g lb encs Kp xs w l') :
    SeqEach (F.inRound l) P g lb encs Kp xs w l' := h

/-- A loop's record. -/
def recOf (fn : FuncId) (ts : Array Value) (ps : Array Tmp) (assign body : Code) (dd : Nat) (st : LoopState) (pe : Option Code) : Loop :=
  { state := st, pending := pe, fn, tmps := ts, params := ps, assign, body, defers := dd }

/-- What the body owes, once the loop's variables are set. -/
def BodyOwes (F : Fence) (m : Nat) (P : Program) (B l : Nat) (Kp : World → World → Prop) (I : List α → World → Prop) (Ix : Code → List α → World → Prop) (body : Code) (pre : List α) (x : α) (W : World) (a₁ : Act) (W₁ : World) : Prop :=
  KeepsFrom B W W₁ ∧ Kp W W₁ ∧ ∃ X : World → Prop, OwnFrom B (fun (_ : Unit) => X) ∧ X W₁ ∧
      ∀ W₂, (∃ r, W₂.heap[l]? = some (.loop r)) → W₂.heap.size = W₁.heap.size → X W₂ → body.wpIn (F.inRound l) m P (EachPost B Kp I Ix (pre ++ [x]) W₂) a₁ W₂

/-- What a round owes: the loop's variables are set, and the body is walked, in a world that keeps all that is said of cells. -/
def RoundOwes (F : Fence) (m : Nat) (P : Program) (B l : Nat) (Kp : World → World → Prop) (I : List α → World → Prop) (Ix : Code → List α → World → Prop) (ps : Array Tmp) (assign body : Code) (ts : Array Value) (enc : Array Value) (pre : List α) (x : α) (W : World) : Prop :=
  assign.wpIn (F.inRound l) m P (Exit.then (BodyOwes F m P B l Kp I Ix body pre x W) (fun _ _ _ => False))
    { tmps := (ps.zip enc).foldl (fun t (p, v) => t.setIfInBounds p v) ts, defers := [] } W

/-- Where the loop's variables lie in no memory. -/
theorem BodyOwes.plain {m : Nat} {B l : Nat} {Kp : World → World → Prop} {I : List α → World → Prop} {Ix : Code → List α → World → Prop} {body : Code} {pre : List α} {x : α} {W : World} {a₁ : Act} (hI : OwnFrom B I) (hK : Kp W W) (hi : I pre W)
    (h : ∀ W₂, (∃ r, W₂.heap[l]? = some (.loop r)) → I pre W₂ → body.wpIn (F.inRound l) m P (EachPost B Kp I Ix (pre ++ [x]) W₂) a₁ W₂) : BodyOwes F m P B l Kp I Ix body pre x W a₁ W :=
  ⟨KeepsFrom.refl _ _, hK, I pre, fun _ => hI pre, hi, fun W₂ hl _ hx => h W₂ hl hx⟩

theorem keepsFrom_drewN (B : Nat) (W : World) (q : Nat) : KeepsFrom B W (W.drewN q) := ⟨Nat.le_refl _, fun _ _ _ h _ => h⟩
theorem keepsOthers_drewN (W : World) (q : Nat) : KeepsOthers W (W.drewN q) := ⟨Nat.le_refl _, fun _ _ h _ => h⟩

/-- A function leaves with one mark. -/
theorem leaves_mark {n : Nat} {fn : Func} {tmps : Array Value} {R : Ending → World → Prop} {W : World} {D : Nat} (hK : W.heap[D]? = some (.deferred (some []))) (h : LeavesIn F n P fn tmps R [] .returning (W.putObj D (.deferred none))) :
    LeavesInM F n P fn tmps R [{ target := .collected D, args := #[] }] .returning W := ⟨by simp, .inl ⟨_, _, rfl, run_takeDeferred hK, h⟩⟩

/-- A function leaves with many marks. -/
theorem leaves_marks {n : Nat} {fn : Func} {tmps : Array Value} {R : Ending → World → Prop} {B : Nat} {Z : World → Prop} (hZ : OwnFrom B (fun (_ : Unit) => Z)) (hend : ∀ W, Z W → LeavesIn F n P fn tmps R [] .returning W) :
    ∀ (ms : List Nat) (W : World), (∀ D ∈ ms, W.heap[D]? = some (.deferred (some []))) → ms.Nodup → (∀ D ∈ ms, B ≤ D) → Z W → LeavesInM F n P fn tmps R (ms.map fun D => { target := .collected D, args := #[] }) .returning W
  | [], W, _, _, _, hz => hend W hz
  | D :: ms, W, hd, hn, hb, hz => by
    have hD := hd D (List.mem_cons_self ..)
    refine ⟨by simp, .inl ⟨_, _, rfl, run_takeDeferred hD, leaves_marks hZ hend ms _ (fun E hE => ?_) (List.nodup_cons.1 hn).2 (fun E hE => hb E (List.mem_cons_of_mem _ hE)) (hZ.putObj (s := ()) _ hz (hb D (List.mem_cons_self ..)) hD rfl)⟩⟩
    exact (World.putObj_heap_other (fun e : E = D => (List.nodup_cons.1 hn).1 (by rw [← e]; exact hE))).trans (hd E (List.mem_cons_of_mem _ hE))

/-- A box that a body leaves as it was. -/
def KpBox (B : Nat) (W W' : World) : Prop := ∀ c t m, W.heap[B]? = some (.cells c t m) → W'.heap[B]? = some (.cells c t m)
theorem kpBox_t {B : Nat} {X Y Z : World} (h : KpBox B X Y) (k : KpBox B Y Z) : KpBox B X Z := fun c t m e => k c t m (h c t m e)
theorem kpBox_r (B : Nat) (W : World) : KpBox B W W := fun _ _ _ e => e
theorem kpBox_b {B l : Nat} (W : World) (o o' : Loop) (h : W.heap[l]? = some (.loop o)) : KpBox B W (W.putObj l (.loop o')) := fun c t m e =>
  (World.putObj_heap_other (fun eq => by subst eq; rw [e] at h; cases h)).trans e

theorem each_round {m : Nat} {fn : FuncId} (hfn : F.fn fn) {B l : Nat} (hBl : B ≤ l) {d : Option Nat} (hd : ∀ k, d = some k → B ≤ k ∧ k ≠ l) {ts : Array Value} {ps : Array Tmp} {assign body : Code} {dd : Nat}
    {encs : α → Array Value} (hps : ∀ x, (encs x).size = ps.size) {Kp : World → World → Prop} (hKt : ∀ {X Y Z : World}, Kp X Y → Kp Y Z → Kp X Z)
    (hKb : ∀ (W : World) (o o' : Loop), W.heap[l]? = some (.loop o) → Kp W (W.putObj l (.loop o')))
    {I : List α → World → Prop} {Ix : Code → List α → World → Prop} (hI : OwnFrom B I) (hIx : ∀ c, OwnFrom B (Ix c)) (pre : List α) (x : α) (W : World)
    (hl : W.heap[l]? = some (.loop (recOf fn ts ps assign body dd .ready none))) (hk : ∀ k, d = some k → W.heap[k]? = some (.deferred (some [])))
    (hround : RoundOwes F m P B l Kp I Ix ps assign body ts (encs x) pre x W) :
    YieldAt F m P l (encs x) W fun e W' =>
      (e = .returned (.bool true) ∧ (I (pre ++ [x]) W' ∧ W'.heap[l]? = some (.loop (recOf fn ts ps assign body dd .ready none)) ∧ ∀ k, d = some k → W'.heap[k]? = some (.deferred (some []))) ∧ Kp W W') ∨
      (e = .returned (.bool false) ∧ (∃ c, Ix c (pre ++ [x]) W' ∧ W'.heap[l]? = some (.loop (recOf fn ts ps assign body dd .done (some c))) ∧ ∀ k, d = some k → W'.heap[k]? = some (.deferred (some []))) ∧ Kp W W') := by
  have hy := run_yield (P := P) (args := encs x) hl (hps x)
  refine ⟨fn, _, assign, body, hy, roundIn_of_wpIn hfn (wpIn_mono hround ?_)⟩
  intro e a₁ W₁ hq
  cases e with
  | normal =>
    obtain ⟨k1, kp1, X, hX, hx, hb⟩ : BodyOwes F m P B l Kp I Ix body pre x W a₁ W₁ := hq
    have l1 := k1.same _ _ hBl hl rfl
    refine ⟨_, run_beginRound l1 rfl, ?_⟩
    have l2 : (W₁.putObj l (.loop { recOf fn ts ps assign body dd .ready none with state := .busy })).heap[l]? = some (.loop { recOf fn ts ps assign body dd .ready none with state := .busy }) :=
      World.putObj_heap_same (Array.getElem?_eq_some_iff.1 l1).1
    have d2 : ∀ k, d = some k → (W₁.putObj l (.loop { recOf fn ts ps assign body dd .ready none with state := .busy })).heap[k]? = some (.deferred (some [])) := fun k e =>
      (World.putObj_heap_other (hd k e).2).trans (k1.same _ _ (hd k e).1 (hk k e) rfl)
    have q2 := hKb _ _ { recOf fn ts ps assign body dd .ready none with state := .busy } l1
    have b2 := hb _ ⟨_, l2⟩ World.putObj_size (hX.putObj (s := ()) _ hx hBl l1 rfl)
    generalize W₁.putObj l (.loop { recOf fn ts ps assign body dd .ready none with state := .busy }) = W₂ at *
    refine wpIn_mono b2 ?_
    have out : ∀ (j : Option Code) (W₃ : World), KeepsFrom B W₂ W₃ → W₃.heap[l]? = some (.loop { recOf fn ts ps assign body dd .ready none with state := .busy }) ∧
        (W₃.putObj l (.loop (recOf fn ts ps assign body dd (if j.isNone then .ready else .done) j))).heap[l]? = some (.loop (recOf fn ts ps assign body dd (if j.isNone then .ready else .done) j)) ∧
        (∀ k, d = some k → (W₃.putObj l (.loop (recOf fn ts ps assign body dd (if j.isNone then .ready else .done) j))).heap[k]? = some (.deferred (some []))) ∧
        (Instr.endRound l j).run P W₃ = .ok (.bool j.isNone) (W₃.putObj l (.loop (recOf fn ts ps assign body dd (if j.isNone then .ready else .done) j))) := fun j W₃ k3 => by
      have l3 := k3.same _ _ hBl l2 rfl
      exact ⟨l3, World.putObj_heap_same (Array.getElem?_eq_some_iff.1 l3).1, fun k e => (World.putObj_heap_other (hd k e).2).trans (k3.same _ _ (hd k e).1 (d2 k e) rfl), run_endRound j l3⟩
    have stop : ∀ (c : Code) (W₃ : World), KeepsFrom B W₂ W₃ → Kp W₂ W₃ → Ix c (pre ++ [x]) W₃ → ∃ v W', (Instr.endRound l (some c)).run P W₃ = .ok v W' ∧
        ((Ending.returned v = .returned (.bool true) ∧ (I (pre ++ [x]) W' ∧ W'.heap[l]? = some (.loop (recOf fn ts ps assign body dd .ready none)) ∧ ∀ k, d = some k → W'.heap[k]? = some (.deferred (some []))) ∧ Kp W W') ∨
          (Ending.returned v = .returned (.bool false) ∧ (∃ c, Ix c (pre ++ [x]) W' ∧ W'.heap[l]? = some (.loop (recOf fn ts ps assign body dd .done (some c))) ∧ ∀ k, d = some k → W'.heap[k]? = some (.deferred (some []))) ∧ Kp W W')) := fun c W₃ k3 kp3 hc => by
      obtain ⟨l3, l4, d4, r4⟩ := out (some c) W₃ k3
      exact ⟨_, _, r4, .inr ⟨rfl, ⟨c, (hIx c).putObj _ hc hBl l3 rfl, l4, d4⟩, hKt (hKt kp1 q2) (hKt kp3 (hKb _ _ _ l3))⟩⟩
    intro e a₃ W₃ hp
    cases e with
    | normal =>
      obtain ⟨l3, l4, d4, r4⟩ := out none W₃ hp.1
      exact ⟨_, _, r4, .inl ⟨rfl, ⟨hI.putObj _ hp.2.2 hBl l3 rfl, l4, d4⟩, hKt (hKt kp1 q2) (hKt hp.2.1 (hKb _ _ _ l3))⟩⟩
    | ret => exact stop _ W₃ hp.1 hp.2.1 hp.2.2
    | exit id => exact stop _ W₃ hp.1 hp.2.1 hp.2.2
    | goto t => exact stop _ W₃ hp.1 hp.2.1 hp.2.2
    | panic ch => exact hp.elim
    | outgrown => exact hp.elim
  | ret => exact hq.elim
  | exit id => exact hq.elim
  | goto t => exact hq.elim
  | panic ch => exact hq.elim
  | outgrown => exact hq.elim

theorem ownFrom_more {β : Type} {B B' : Nat} {I : β → World → Prop} (h : OwnFrom B I) (hB : B ≤ B') : OwnFrom B' I := fun s X Y row hs hg hr => h s X Y row hs hg (fun r e => ⟨Nat.le_trans hB (hr r e).1, (hr r e).2⟩)

theorem kept_rec {X Y : World} {B : Nat} {row : Option Nat} (hg : X.grownBy Y row) (hr : ∀ r, row = some r → B ≤ r ∧ ∃ o : Obj, X.heap[r]? = some o ∧ o.isCells = false) {k : Nat} (hk : k < B) {o : Obj} (h : X.heap[k]? = some o) : Y.heap[k]? = some o := by
  refine (hg.block k (Array.getElem?_eq_some_iff.1 h).1 (fun e => ?_)).trans h
  have := (hr k e.symm).1
  omega

/-- The statement, in a function's own frame. -/
theorem each_own {m : Nat} {g : Operand} {ps : Array Tmp} {assign body : Code} {Q : Exit → Act → World → Prop} {a : Act} {w : World} (hdep : F.depth = none) (hro : F.round = none)
    {gf : Nat} {lb : Array Value} (hg : a.eval g = .func (.func gf) #[] lb) (hFg : F.fn gf) (eg : ∀ args w, (callFunc gf args).run P w = .ok (.enter gf args) w)
    {encs : α → Array Value} {Kp : World → World → Prop} {xs : List α} (hseq : SeqEach F P gf lb encs Kp xs w (w.heap.size + 1))
    (hKt : ∀ {X Y Z : World}, Kp X Y → Kp Y Z → Kp X Z) (hKb : ∀ (W : World) (o o' : Loop), W.heap[w.heap.size + 1]? = some (.loop o) → Kp W (W.putObj (w.heap.size + 1) (.loop o'))) (hps : ∀ x, (encs x).size = ps.size)
    (I : List α → World → Prop) (Ix : Code → List α → World → Prop) (hI : OwnFrom w.heap.size I) (hIx : ∀ c, OwnFrom w.heap.size (Ix c)) (h0 : I [] w)
    (hround : ∀ pre x rest W, xs = pre ++ x :: rest → (∃ r, W.heap[w.heap.size + 1]? = some (.loop r)) → I pre W → RoundOwes F m P w.heap.size (w.heap.size + 1) Kp I Ix ps assign body a.tmps (encs x) pre x W)
    (hdone : ∀ W, I xs W → W.heap[w.heap.size]? = some (.deferred (some [])) → Q .normal { a with defers := { target := .collected w.heap.size, args := #[] } :: a.defers } W)
    (hstop : ∀ c pre W, pre <+: xs → Ix c pre W → W.heap[w.heap.size]? = some (.deferred (some [])) → c.wpIn F m P Q { a with defers := { target := .collected w.heap.size, args := #[] } :: a.defers } W) :
    (Code.rangeFunc g ps assign body).wpIn F m P Q a w := by
  refine wpIn_rangeFunc fun fn hfn => ?_
  rw [hro]
  have s1 : ((w.alloc (.deferred (some []))).alloc (.loop (recOf fn a.tmps ps assign body w.heap.size .ready none))).heap.size = w.heap.size + 2 := by simp
  have l1 : ((w.alloc (.deferred (some []))).alloc (.loop (recOf fn a.tmps ps assign body w.heap.size .ready none))).heap[w.heap.size + 1]? = some (.loop (recOf fn a.tmps ps assign body w.heap.size .ready none)) := by
    have := World.alloc_heap_new (w.alloc (.deferred (some []))) (.loop (recOf fn a.tmps ps assign body w.heap.size .ready none)); rwa [World.size_alloc] at this
  have d1 : ((w.alloc (.deferred (some []))).alloc (.loop (recOf fn a.tmps ps assign body w.heap.size .ready none))).heap[w.heap.size]? = some (.deferred (some [])) :=
    (Below.heap_alloc _ _ _ (by simp)).trans (World.alloc_heap_new w _)
  have i1 : I [] ((w.alloc (.deferred (some []))).alloc (.loop (recOf fn a.tmps ps assign body w.heap.size .ready none))) := hI.alloc _ (hI.alloc _ h0)
  have b1 : Below w.heap.size w ((w.alloc (.deferred (some []))).alloc (.loop (recOf fn a.tmps ps assign body w.heap.size .ready none))) := ((Below.refl _ w).alloc (Nat.le_refl _) _).alloc (by simp) _
  obtain ⟨W1, hW1⟩ : ∃ W1, (w.alloc (.deferred (some []))).alloc (.loop (recOf fn a.tmps ps assign body w.heap.size .ready none)) = W1 := ⟨_, rfl⟩
  rw [hW1] at s1 l1 d1 i1 b1
  refine ⟨w.heap.size + 1, [{ target := .collected w.heap.size, args := #[] }], W1, { target := .fn (.func gf) lb, args := #[.func (.yield (w.heap.size + 1)) #[] #[]] }, W1, gf,
    #[.func (.yield (w.heap.size + 1)) #[] #[]] ++ lb, W1, by rw [← hW1]; exact run_enterLoop_outer _ _ _ _ _, ?_, ?_, ?_, fun h => (by rw [hdep] at h; cases h), ?_⟩
  · simp only [resolve, hg]; simp [go_sem]
  · intro f' hf'; simp [Target.leads] at hf'; subst hf'; exact hFg
  · simp [invoke, go_sem, eg]
  · clear hW1
    refine (hseq (m - 1)
      (fun pre W => I pre W ∧ W.heap[w.heap.size + 1]? = some (.loop (recOf fn a.tmps ps assign body w.heap.size .ready none)) ∧ ∀ k, some w.heap.size = some k → W.heap[k]? = some (.deferred (some [])))
      (fun pre W => ∃ c, Ix c pre W ∧ W.heap[w.heap.size + 1]? = some (.loop (recOf fn a.tmps ps assign body w.heap.size .done (some c))) ∧ ∀ k, some w.heap.size = some k → W.heap[k]? = some (.deferred (some [])))
      W1 b1 (by omega)
      (fun s X Y row hs hgr hr => ⟨ownFrom_more hI (by omega) s X Y row hs.1 hgr hr, kept_rec hgr hr (by omega) hs.2.1, fun k e => by cases e; exact kept_rec hgr hr (by omega) (hs.2.2 _ rfl)⟩)
      (fun s X Y row hs hgr hr => by
        obtain ⟨c, h1, h2, h3⟩ := hs
        exact ⟨c, ownFrom_more (hIx c) (by omega) s X Y row h1 hgr hr, kept_rec hgr hr (by omega) h2, fun k e => by cases e; exact kept_rec hgr hr (by omega) (h3 _ rfl)⟩)
      (fun m' pre x rest W hx hJ => yield_free hdep m' (each_round hfn (by omega) (d := some w.heap.size) (fun k e => by cases e; omega) hps @hKt hKb hI hIx pre x W hJ.2.1 hJ.2.2 (hround pre x rest W hx ⟨_, hJ.2.1⟩ hJ.1)))
      ⟨i1, l1, fun k e => by cases e; exact d1⟩).mono ?_
    rintro e W2 ⟨⟨v, rfl⟩, (⟨hi, hl, hk⟩ | ⟨pre, hpre, c, hi, hl, hk⟩)⟩
    · exact ⟨none, _, run_endLoop hl (by simp [recOf]), hdone _ (hI.putObj _ hi (by omega) hl rfl) ((World.putObj_heap_other (by omega)).trans (hk _ rfl))⟩
    · exact ⟨some c, _, run_endLoop hl (by simp [recOf]), hstop c pre _ hpre ((hIx c).putObj _ hi (by omega) hl rfl) ((World.putObj_heap_other (by omega)).trans (hk _ rfl))⟩

/-- The statement, in a round of loop l₀. -/
theorem each_in {m : Nat} {g : Operand} {ps : Array Tmp} {assign body : Code} {Q : Exit → Act → World → Prop} {a : Act} {w : World} (hdep : F.depth = none) {l₀ : Nat} {r₀ : Loop} (hro : F.round = some l₀) (hl₀ : w.heap[l₀]? = some (.loop r₀))
    {gf : Nat} {lb : Array Value} (hg : a.eval g = .func (.func gf) #[] lb) (hFg : F.fn gf) (eg : ∀ args w, (callFunc gf args).run P w = .ok (.enter gf args) w)
    {encs : α → Array Value} {Kp : World → World → Prop} {xs : List α} (hseq : SeqEach F P gf lb encs Kp xs w w.heap.size)
    (hKt : ∀ {X Y Z : World}, Kp X Y → Kp Y Z → Kp X Z) (hKb : ∀ (W : World) (o o' : Loop), W.heap[w.heap.size]? = some (.loop o) → Kp W (W.putObj w.heap.size (.loop o'))) (hps : ∀ x, (encs x).size = ps.size)
    (I : List α → World → Prop) (Ix : Code → List α → World → Prop) (hI : OwnFrom w.heap.size I) (hIx : ∀ c, OwnFrom w.heap.size (Ix c)) (h0 : I [] w)
    (hround : ∀ pre x rest W, xs = pre ++ x :: rest → (∃ r, W.heap[w.heap.size]? = some (.loop r)) → I pre W → RoundOwes F m P w.heap.size w.heap.size Kp I Ix ps assign body a.tmps (encs x) pre x W)
    (hdone : ∀ W, I xs W → Q .normal a W)
    (hstop : ∀ c pre W, pre <+: xs → Ix c pre W → c.wpIn F m P Q a W) :
    (Code.rangeFunc g ps assign body).wpIn F m P Q a w := by
  refine wpIn_rangeFunc fun fn hfn => ?_
  rw [hro]
  have s1 : (w.alloc (.loop (recOf fn a.tmps ps assign body r₀.defers .ready none))).heap.size = w.heap.size + 1 := by simp
  have l1 := World.alloc_heap_new w (.loop (recOf fn a.tmps ps assign body r₀.defers .ready none))
  have i1 : I [] (w.alloc (.loop (recOf fn a.tmps ps assign body r₀.defers .ready none))) := hI.alloc _ h0
  have b1 : Below w.heap.size w (w.alloc (.loop (recOf fn a.tmps ps assign body r₀.defers .ready none))) := (Below.refl _ w).alloc (Nat.le_refl _) _
  obtain ⟨W1, hW1⟩ : ∃ W1, w.alloc (.loop (recOf fn a.tmps ps assign body r₀.defers .ready none)) = W1 := ⟨_, rfl⟩
  rw [hW1] at s1 l1 i1 b1
  refine ⟨w.heap.size, [], W1, { target := .fn (.func gf) lb, args := #[.func (.yield (w.heap.size)) #[] #[]] }, W1, gf,
    #[.func (.yield (w.heap.size)) #[] #[]] ++ lb, W1, by rw [← hW1]; exact run_enterLoop_inner hl₀ _ _ _ _ _, ?_, ?_, ?_, fun h => (by rw [hdep] at h; cases h), ?_⟩
  · simp only [resolve, hg]; simp [go_sem]
  · intro f' hf'; simp [Target.leads] at hf'; subst hf'; exact hFg
  · simp [invoke, go_sem, eg]
  · clear hW1
    refine (hseq (m - 1)
      (fun pre W => I pre W ∧ W.heap[w.heap.size]? = some (.loop (recOf fn a.tmps ps assign body r₀.defers .ready none)) ∧ ∀ k : Nat, none = some k → W.heap[k]? = some (.deferred (some [])))
      (fun pre W => ∃ c, Ix c pre W ∧ W.heap[w.heap.size]? = some (.loop (recOf fn a.tmps ps assign body r₀.defers .done (some c))) ∧ ∀ k : Nat, none = some k → W.heap[k]? = some (.deferred (some [])))
      W1 b1 (by omega)
      (fun s X Y row hs hgr hr => ⟨ownFrom_more hI (by omega) s X Y row hs.1 hgr hr, kept_rec hgr hr (by omega) hs.2.1, fun k e => by cases e⟩)
      (fun s X Y row hs hgr hr => by
        obtain ⟨c, h1, h2, h3⟩ := hs
        exact ⟨c, ownFrom_more (hIx c) (by omega) s X Y row h1 hgr hr, kept_rec hgr hr (by omega) h2, fun k e => by cases e⟩)
      (fun m' pre x rest W hx hJ => yield_free hdep m' (each_round hfn (Nat.le_refl _) (d := none) (fun k e => by cases e) hps @hKt hKb hI hIx pre x W hJ.2.1 hJ.2.2 (hround pre x rest W hx ⟨_, hJ.2.1⟩ hJ.1)))
      ⟨i1, l1, fun k e => by cases e⟩).mono ?_
    rintro e W2 ⟨⟨v, rfl⟩, (⟨hi, hl, hk⟩ | ⟨pre, hpre, c, hi, hl, hk⟩)⟩
    · exact ⟨none, _, run_endLoop hl (by simp [recOf]), hdone _ (hI.putObj _ hi (Nat.le_refl _) hl rfl)⟩
    · exact ⟨some c, _, run_endLoop hl (by simp [recOf]), hstop c pre _ hpre ((hIx c).putObj _ hi (Nat.le_refl _) hl rfl)⟩

/-! ### A region in a round -/
theorem op_round {n : Nat} {l : Nat} {o : Oper} {a : Act} {w : World} {K : Act → World → Prop} {Q : Exit → Act → World → Prop} (hro : F.round = none) (hd : ∀ c, o.op ≠ .defer c) (h : o.wpIn F n P a w K Q) : o.wpIn (F.inRound l) n P a w K Q := by
  refine ⟨h.1, ?_⟩
  have h2 := h.2
  rw [hro, Oper.semAt_none] at h2
  rw [Oper.semAt_eq _ _ _ hd]
  exact h2
theorem any_round {n l : Nat} {md : Region.Mode} {ops : Array Oper} {Q : Exit → Act → World → Prop} (hro : F.round = none) (hd : ∀ o ∈ ops.toList, ∀ c, o.op ≠ .defer c) : ∀ (fuel : Nat) (listed : Array Bool) (a : Act) (w : World),
    wpAnyIn F n P md ops Q fuel listed a w → wpAnyIn (F.inRound l) n P md ops Q fuel listed a w
  | 0, _, _, _, h => h
  | fuel + 1, listed, a, w, h => ⟨h.1, fun i hi => by
    have h2 := h.2 i hi
    unfold wpOpIn at h2 ⊢
    split
    · rename_i ho; rw [ho] at h2; exact any_round hro hd fuel _ _ _ h2
    · rename_i o ho
      rw [ho] at h2
      split
      · rename_i hw
        simp only [hw, if_true] at h2
        exact op_round hro (hd o (by obtain ⟨hi', rfl⟩ := Array.getElem?_eq_some_iff.1 ho; simp)) (Oper.wpIn_mono (fun a w => any_round hro hd fuel _ a w) h2)
      · rename_i hw
        simp only [hw] at h2
        exact ⟨h2.1, any_round hro hd fuel _ _ _ h2.2⟩⟩

def Oper.isDefer (o : Oper) : Bool := match o.op with | .defer _ => true | _ => false
theorem not_defer {ops : List Oper} (h : ops.all (fun o => !Oper.isDefer o) = true) : ∀ o ∈ ops, ∀ c, o.op ≠ .defer c := by
  intro o ho c e
  have := List.all_eq_true.1 h o ho
  simp [Oper.isDefer, e] at this

/-- A region that only reads, in a round. -/
theorem quiet_round {n l : Nat} {id : Nat} {Q : Exit → Act → World → Prop} {a : Act} {w : World} {ops : List Oper} (hro : F.round = none) (hm : P.follows .mixedOrders = true) (hB : Region.lexB .any ops.toArray = true) (hd : ops.all (fun o => !Oper.isDefer o) = true)
    (h : wpQuietIn F n P ops.toArray (fun w' => ∃ n, w' = w.drewN n) (fun a' => ∀ w', (∃ n, w' = w.drewN n) → Q .normal a' w') ops a) : (Code.region id ops.toArray true).wpIn (F.inRound l) n P Q a w := by
  have hB' := hB
  simp only [Region.lexB, Bool.and_eq_true] at hB
  refine wpIn_region_any hm (any_round hro (by simpa using not_defer hd) _ _ _ _ (wpAnyIn_of_quiet (C := fun w' => ∃ n, w' = w.drewN n) (Q := fun a' => ∀ w', (∃ n, w' = w.drewN n) → Q .normal a' w') hro (fun _ w' hw' h => h w' hw') _ _ _ _ ⟨1, rfl⟩ ?_))
  have := wpAnyQIn_lex (F := F) (n := n) (C := fun w' => ∃ n, w' = w.drewN n) (md := .any) hB.1 ops 0 (Array.replicate ops.toArray.size false) a (by simp) (by simpa using hB.2) h
  simpa using this


/-! ### Rows in the midst of a block, within a fence -/
theorem in_store_mid {n : Nat} {ops : Array Oper} {rest : List Oper} {o : Oper} {a : Act} {w : World} {Q : Exit → Act → World → Prop} (hg : o.guard = none) (ty : TypeId) (x y : Operand) (hop : o.op = .store ty x y)
    (b off : Nat) (cells : Array Value) (hx : a.eval x = .pointer (some ⟨b, off, none⟩)) (hy : a.eval y = .agg cells) (ht : w.there b off cells.size) (hi : (P.info? ty).map (·.size) = some cells.size) (h1 : cells.all (·.oneCell') = true)
    (h : wpListIn F n P ops Q rest (a.put o.dst undef) (w.setCells b off cells.toList)) : wpListIn F n P ops Q (o :: rest) a w := by
  refine wpListIn_plain hg fun K hK => ?_
  unfold Oper.wpIn
  refine ⟨?_, ?_⟩
  · simp [Oper.about, hop]
  · rw [Oper.semAt_plain F _ _ (by rw [hop]; intro c hc; cases hc)]
    unfold execOp
    simp only [hop, hx, hy, Instr.storeAt, Instr.sureAddr, Sem.run_bind, Sem.run_pure, Result.andThen_ok, run_storeVar_mid w b off ty cells ht hi h1]
    exact hK _ _ h
theorem in_load_mid {n : Nat} {ops : Array Oper} {rest : List Oper} {o : Oper} {a : Act} {w : World} {Q : Exit → Act → World → Prop} (hg : o.guard = none) (ty : TypeId) (x : Operand) (hop : o.op = .load ty x)
    (b off : Nat) (hx : a.eval x = .pointer (some ⟨b, off, none⟩)) (cs : List Value) (d : TypeDesc) (hc : w.rangeAt b off cs) (hu : P.underlying ty = some d) (hd : d.isRow = true) (hi : (P.info? ty).map (·.size) = some cs.length)
    (h : wpListIn F n P ops Q rest (a.put o.dst (.agg cs.toArray)) w) : wpListIn F n P ops Q (o :: rest) a w := by
  refine wpListIn_plain hg fun K hK => ?_
  unfold Oper.wpIn
  refine ⟨?_, ?_⟩
  · simp [Oper.about, hop]
  · rw [Oper.semAt_plain F _ _ (by rw [hop]; intro c hc; cases hc)]
    unfold execOp
    simp only [hop, hx, Instr.loadAt, Instr.sureAddr, Sem.run_bind, Sem.run_pure, Result.andThen_ok, run_loadVar_mid w b off ty cs d hc hu hd hi]
    exact hK _ _ h

end Go.Proofs.YteijhcibdglkeaaGreatDoor
