/- A path as a plain machine, and where it lies in memory. Conditions: those stated in each theorem. -/
import Derived.Test.YtgdfiggloifncaaSoftE
namespace Go.Proofs.Ytgdfiggloifncaa
open Go.RowKit Go.BigFrame Go.Maps

/-- Where a validation goes on. -/
inductive Th where
  | fetch (a : Int)
  | sign
deriving DecidableEq
/-- Behind which request an operation goes on. -/
inductive At where
  | no
  | beginN
  | beginCas (n : Int)
  | beginSeq
  | loadWord (a : Int)
  | loadSeq (a y : Int)
  | checkSeq (t : Th)
  | check (g : Int) (l : List Pr) (t : Th)
  | take
  | back (l : List Pr)
  | leaveN (how : Int)
  | leaveCas (how n : Int)
deriving DecidableEq
def Th.at : Th → At
  | .fetch a => .loadWord a
  | .sign => .take
/-- A path. -/
structure PV where
  at_ : At
  snap : Int
  val : Int
  pts : Int
  live : Bool
  writing : Bool
  ended : Int
  log : Lg
deriving DecidableEq
structure Rq where
  op : Int
  addr : Int
  value : Int
  old : Int
deriving DecidableEq
def Rq.cells (r : Rq) : List Value := [.int .i64 r.op, .int .i64 r.addr, .int .u64 r.value, .int .u64 r.old]
def PV.zero : PV := ⟨.no, 0, 0, 0, false, false, 0, Lg.zero⟩
def PV.busy (x : PV) : Bool := x.at_ != .no
def PV.req (x : PV) : Rq := match x.at_ with
  | .no => ⟨0, 0, 0, 0⟩
  | .beginN => ⟨1, 1, 0, 0⟩
  | .beginCas n => ⟨3, 1, IntKind.u64.wrap (n + 1), n⟩
  | .beginSeq => ⟨1, 0, 0, 0⟩
  | .loadWord a => ⟨1, a, 0, 0⟩
  | .loadSeq _ _ => ⟨1, 0, 0, 0⟩
  | .checkSeq _ => ⟨1, 0, 0, 0⟩
  | .check _ l _ => ⟨1, hdA l, 0, 0⟩
  | .take => ⟨3, 0, IntKind.u64.wrap (x.snap + 1), x.snap⟩
  | .back l => ⟨2, hdA l, hdV x.snap l, 0⟩
  | .leaveN _ => ⟨1, 1, 0, 0⟩
  | .leaveCas _ n => ⟨3, 1, IntKind.u64.wrap (n + 18446744073709551615), n⟩
def PV.pw (x : PV) : PW := ⟨x.snap, x.val, x.pts, x.live, x.writing, x.ended, x.req.op, x.req.addr, x.req.value, x.req.old⟩
/-- What an answer makes of a path. -/
def PV.give (x : PV) (v : Int) (ok : Bool) : PV := match x.at_ with
  | .no => x
  | .beginN => { x with at_ := .beginCas v }
  | .beginCas _ => { x with at_ := if ok then .beginSeq else .beginN }
  | .beginSeq => if v % 2 = 0 then { x with at_ := .no, snap := v, pts := x.pts + 1, live := true } else x
  | .loadWord a => { x with at_ := .loadSeq a v }
  | .loadSeq a y => if v ≠ x.snap then { x with at_ := .checkSeq (.fetch a) } else if badR x.log a y then { x with at_ := .leaveN 2 } else { x with at_ := .no, val := y, pts := x.pts + 1, log := x.log.read a y }
  | .checkSeq t => if v % 2 = 0 then { x with at_ := .check v x.log.r t } else x
  | .check g [] t => if v ≠ g then { x with at_ := .checkSeq t } else { x with at_ := t.at, snap := g, pts := x.pts + 1 }
  | .check g (y :: l) t => if v ≠ y.v then { x with at_ := .leaveN 2 } else { x with at_ := .check g l t }
  | .take => if ok then { x with at_ := .back x.log.w, pts := x.pts + 1, writing := true } else { x with at_ := .checkSeq .sign }
  | .back [] => { x with at_ := .leaveN 1, writing := false }
  | .back (_ :: l) => { x with at_ := .back l }
  | .leaveN how => { x with at_ := .leaveCas how v }
  | .leaveCas how _ => if ok then { x with at_ := .no, live := false, ended := how } else { x with at_ := .leaveN how }
def PV.errG (x : PV) : Int := if x.at_ = .no then 80 else 0
def PV.errB (x : PV) : Int := if x.at_ ≠ .no ∨ x.live = true then 80 else 0
/-- May an operation not begin? -/
def PV.shut (x : PV) : Int := if x.at_ ≠ .no ∨ x.live = false then 80 else 0
def PV.errA (x : PV) (a : Int) : Int := if x.shut ≠ 0 then x.shut else if a < 8 then 2 else 0
def PV.begin (x : PV) : PV := if x.errB ≠ 0 then x else { x with at_ := .beginN, val := 0, ended := 0, log := Lg.zero }
def PV.load (x : PV) (a : Int) : PV := if x.errA a ≠ 0 then x else if hasL x.log.w a then { x with val := valL x.log.w a } else { x with at_ := .loadWord a }
def PV.store (x : PV) (a v : Int) : PV := if x.errA a ≠ 0 then x else if errRead x.log.w a ≠ 0 then { x with at_ := .leaveN 2 } else { x with log := x.log.write a v }
def PV.commit (x : PV) : PV := if x.shut ≠ 0 then x else if x.log.w = [] then { x with at_ := .leaveN 1 } else { x with at_ := .take }
def PV.quit (x : PV) : PV := if x.shut ≠ 0 then x else { x with at_ := .leaveN 3 }

def Th.fit : Th → Prop
  | .fetch a => (Lit.int .i64 a).wf = true ∧ 8 ≤ a
  | .sign => True
def At.fit : At → Prop
  | .loadWord a => (Lit.int .i64 a).wf = true ∧ 8 ≤ a
  | .loadSeq a y => ((Lit.int .i64 a).wf = true ∧ 8 ≤ a) ∧ (Lit.int .u64 y).wf = true
  | .checkSeq t => t.fit
  | .check _ _ t => t.fit
  | _ => True

/-! ### In memory -/
def ThV (w : World) (N : Nat → Prop) (p : Nat) (t : Th) (th : Value) : Prop := match t with
  | .fetch a => Cl2 w N 71 (.pointer (some ⟨p, 0, none⟩)) (.int .i64 a) th
  | .sign => th = .func (.func 54) #[.pointer (some ⟨p, 0, none⟩)] #[]
def AtV (w : World) (N : Nat → Prop) (p : Nat) (a : At) (v : Value) : Prop := match a with
  | .no => v = .nilFunc
  | .beginN => ∃ b u u', v = LdV b ∧ Bx w N b u ∧ Cl3 w N 94 (.pointer (some ⟨p, 0, none⟩)) (.int .u64 1) u' u ∧ Cl1 w N 74 (.pointer (some ⟨p, 0, none⟩)) u'
  | .beginCas _ => ∃ b u u', v = CsV b ∧ Bx w N b u ∧ Cl3 w N 95 (.pointer (some ⟨p, 0, none⟩)) (.int .u64 1) u' u ∧ Cl1 w N 74 (.pointer (some ⟨p, 0, none⟩)) u'
  | .beginSeq => ∃ b u, v = LdV b ∧ Bx w N b u ∧ Cl2 w N 96 (.pointer (some ⟨p, 0, none⟩)) (.func (.func 76) #[.pointer (some ⟨p, 0, none⟩)] #[]) u
  | .loadWord a => ∃ b u, v = LdV b ∧ Bx w N b u ∧ Cl2 w N 68 (.pointer (some ⟨p, 0, none⟩)) (.int .i64 a) u
  | .loadSeq a y => ∃ b u, v = LdV b ∧ Bx w N b u ∧ Cl3 w N 69 (.pointer (some ⟨p, 0, none⟩)) (.int .i64 a) (.int .u64 y) u
  | .checkSeq t => ∃ b u u' th, v = LdV b ∧ Bx w N b u ∧ Cl2 w N 96 (.pointer (some ⟨p, 0, none⟩)) u' u ∧ Cl2 w N 90 (.pointer (some ⟨p, 0, none⟩)) th u' ∧ ThV w N p t th
  | .check g l t => ∃ b u lv th, v = LdV b ∧ Bx w N b u ∧ Lf w N lv l ∧ CmV w N p g l lv th u ∧ ThV w N p t th
  | .take => ∃ b u, v = CsV b ∧ Bx w N b u ∧ Cl1 w N 83 (.pointer (some ⟨p, 0, none⟩)) u
  | .back l => ∃ b u lv, v = StV b ∧ Bx w N b u ∧ Lf w N lv l ∧ WrV w N p l lv u
  | .leaveN how => ∃ b u u', v = LdV b ∧ Bx w N b u ∧ Cl3 w N 94 (.pointer (some ⟨p, 0, none⟩)) (.int .u64 18446744073709551615) u' u ∧ Cl2 w N 80 (.pointer (some ⟨p, 0, none⟩)) (.int .i64 how) u'
  | .leaveCas how _ => ∃ b u u', v = CsV b ∧ Bx w N b u ∧ Cl3 w N 95 (.pointer (some ⟨p, 0, none⟩)) (.int .u64 18446744073709551615) u' u ∧ Cl2 w N 80 (.pointer (some ⟨p, 0, none⟩)) (.int .i64 how) u'

/-- Where its boxes lie. -/
def Nx (T S : Nat → Prop) (p k : Nat) : Prop := T k ∧ ¬ S k ∧ k ≠ p
/-- A path at p lies in T. -/
def SAt (w : World) (T : Nat → Prop) (p : Nat) (x : PV) : Prop := ∃ lg S v, PB w p lg x.pw v ∧ LgAt w S lg x.log ∧ (∀ k, S k → T k ∧ k ≠ p ∧ k < w.heap.size) ∧ T p ∧ x.at_.fit ∧ AtV w (Nx T S p) p x.at_ v
/-- What a call leaves. -/
def SOut (x : PV) (w : World) (T : Nat → Prop) (p : Nat) (w' : World) : Prop := SAt w' (Gr T w w') p x ∧ Tch T w w'

section
variable {w w' W : World} {N M C S T : Nat → Prop} {p lg : Nat} {x y : PV} {v u th : Value} {t : Th} {a : At}
theorem ThV.frame (h : ThV w N p t th) (ht : Tch C w w') (hC : ∀ k, N k → k < w.heap.size → ¬ C k ∧ M k) : ThV w' M p t th := by
  cases t with
  | fetch a => exact Cl2.frame h ht hC
  | sign => exact h
theorem AtV.frame (h : AtV w N p a v) (ht : Tch C w w') (hC : ∀ k, N k → k < w.heap.size → ¬ C k ∧ M k) : AtV w' M p a v := by
  cases a with
  | no => exact h
  | beginN | beginCas n | leaveN how | leaveCas how n =>
    obtain ⟨b, u, u', e, h1, h2, h3⟩ := h
    exact ⟨b, u, u', e, h1.frame ht hC, h2.frame ht hC, h3.frame ht hC⟩
  | beginSeq | loadWord a | loadSeq a y | take =>
    obtain ⟨b, u, e, h1, h2⟩ := h
    exact ⟨b, u, e, h1.frame ht hC, h2.frame ht hC⟩
  | checkSeq t =>
    obtain ⟨b, u, u', th, e, h1, h2, h3, h4⟩ := h
    exact ⟨b, u, u', th, e, h1.frame ht hC, h2.frame ht hC, h3.frame ht hC, h4.frame ht hC⟩
  | check g l t =>
    obtain ⟨b, u, lv, th, e, h1, h2, h3, h4⟩ := h
    exact ⟨b, u, lv, th, e, h1.frame ht hC, h2.frame ht hC, h3.frame ht hC, h4.frame ht hC⟩
  | back l =>
    obtain ⟨b, u, lv, e, h1, h2, h3⟩ := h
    exact ⟨b, u, lv, e, h1.frame ht hC, h2.frame ht hC, h3.frame ht hC⟩
theorem AtV.fn (h : AtV w N p a v) : FnV (a != .no) v := by
  cases a with
  | no => cases h; rfl
  | beginN | beginCas n | leaveN how | leaveCas how n =>
    obtain ⟨b, u, u', rfl, _⟩ := h
    exact ⟨_, _, _, rfl⟩
  | beginSeq | loadWord a | loadSeq a y | take =>
    obtain ⟨b, u, rfl, _⟩ := h
    exact ⟨_, _, _, rfl⟩
  | checkSeq t | check g l t =>
    obtain ⟨b, u, u', th, rfl, _⟩ := h
    exact ⟨_, _, _, rfl⟩
  | back l =>
    obtain ⟨b, u, lv, rfl, _⟩ := h
    exact ⟨_, _, _, rfl⟩
theorem SAt.frame (h : SAt w T p x) (ht : Tch C w w') (hC : ∀ k, T k → ¬ C k) : SAt w' T p x := by
  obtain ⟨lg, S, v, h1, h2, h3, h4, h5, h6⟩ := h
  exact ⟨lg, S, v, ht.holds (hC p h4) h1, h2.frame ht (fun k hk => hC k (h3 k hk).1), fun k hk => ⟨(h3 k hk).1, (h3 k hk).2.1, Nat.lt_of_lt_of_le (h3 k hk).2.2 ht.size⟩, h4, h5, h6.frame ht (fun k hk _ => ⟨hC k hk.1, hk⟩)⟩
theorem SAt.below (h : SAt w T p x) (hb : Below w.heap.size w w') : SAt w' T p x := h.frame (C := fun _ => False) (Tch.of_idle hb) (fun _ _ e => e)
theorem SAt.more (h : SAt w T p x) (hT : ∀ k, k < w.heap.size → T k → M k) : SAt w M p x := by
  obtain ⟨lg, S, v, h1, h2, h3, h4, h5, h6⟩ := h
  exact ⟨lg, S, v, h1, h2, fun k hk => ⟨hT k (h3 k hk).2.2 (h3 k hk).1, (h3 k hk).2⟩, hT p h1.lt h4, h5, h6.frame (C := fun _ => False) (Tch.refl _ _) (fun k hk hk2 => ⟨fun e => e, hT k hk2 hk.1, hk.2⟩)⟩
theorem SOut.idle (h : SAt w T p x) (hb : Below w.heap.size w w') : SOut x w T p w' := ⟨(h.below hb).more (fun _ _ e => .inl e), Tch.of_idle hb⟩
theorem SOut.refl (h : SAt w T p x) : SOut x w T p w := .idle h (Below.refl _ _)
/-- A call that turned the path's block alone. -/
theorem SOut.of_po (h2 : LgAt w S lg x.log) (h3 : ∀ k, S k → T k ∧ k ≠ p ∧ k < w.heap.size) (h4 : T p) (hp : p < w.heap.size) (hpo : PO w w' p lg y.pw v) (hl : y.log = x.log) (hf : y.at_.fit) (hN : ∀ k, N k → k < w'.heap.size → Nx T S p k ∨ w.heap.size ≤ k) (ha : AtV w' N p y.at_ v) : SOut y w T p w' := by
  refine ⟨⟨lg, S, v, hpo.1, ?_, fun k hk => ⟨.inl (h3 k hk).1, (h3 k hk).2.1, Nat.lt_of_lt_of_le (h3 k hk).2.2 hpo.2.size⟩, .inl h4, hf, ?_⟩, hpo.2.mono (fun k _ e => by subst e; exact h4)⟩
  · rw [hl]; exact h2.frame hpo.2 (fun k hk => (h3 k hk).2.1)
  · refine ha.frame (C := fun _ => False) (Tch.refl _ _) (fun k hk hk2 => ⟨fun e => e, ?_⟩)
    rcases hN k hk hk2 with h | h
    · exact ⟨.inl h.1, h.2⟩
    · exact ⟨.inr ⟨h, hk2⟩, fun e => by have := (h3 k e).2.2; omega, fun e => by omega⟩
theorem SAt.fit (h : SAt w T p x) : FitL x.log.r ∧ FitL x.log.w ∧ x.log.r.length ≤ 128 ∧ x.log.w.length ≤ 128 := by
  obtain ⟨lg, S, v, h1, h2, h3, h4, h5, h6⟩ := h
  exact h2.fit
theorem SAt.lt (h : SAt w T p x) : p < w.heap.size := by
  obtain ⟨lg, S, v, h1, h2, h3, h4, h5, h6⟩ := h
  exact h1.lt
end

end Go.Proofs.Ytgdfiggloifncaa
