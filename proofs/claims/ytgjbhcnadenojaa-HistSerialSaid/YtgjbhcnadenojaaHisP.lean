/- Histories, attempts, and what is read of them, as plain functions. No conditions. -/
import Derived.Test.YtgjbhcnadenojaaLogP
namespace Go.Proofs.Ytgjbhcnadenojaa

/-- An event. -/
structure Ev where
  k : Int
  tm : Int
  co : Int
  bl : Int
  tr : Int
  la : Int
  ad : Int
  va : Int
  cd : Int
deriving DecidableEq
def Ev.cells (e : Ev) : List Value := [.int .i64 e.k, .int .i64 e.tm, .int .i64 e.co, .int .i64 e.bl, .int .i64 e.tr, .int .i64 e.la, .int .i64 e.ad, .int .u64 e.va, .int .i64 e.cd]
def Ev.zero : Ev := ⟨0, 0, 0, 0, 0, 0, 0, 0, 0⟩
def Ev.fit (e : Ev) : Prop := (Lit.int .i64 e.co).wf = true ∧ (Lit.int .i64 e.ad).wf = true ∧ (Lit.int .u64 e.va).wf = true

def plainK (k : Int) : Bool := k == 7 || k == 8
/-- May there be such an event? -/
def Ev.may (e : Ev) : Bool :=
  if e.co < 0 then false else if 4 ≤ e.co then false
  else if e.k = 1 then decide (1 ≤ e.la) && decide (e.la ≤ 4) && decide (0 ≤ e.bl) && decide (0 ≤ e.tr)
  else if e.k = 2 then decide (0 ≤ e.ad) else if e.k = 3 then decide (0 ≤ e.ad) else if e.k = 7 then decide (0 ≤ e.ad) else if e.k = 8 then decide (0 ≤ e.ad)
  else if e.k = 6 then decide (1 ≤ e.cd) && decide (e.cd ≤ 8)
  else if e.k = 4 then true else if e.k = 5 then true else false

/-- An attempt, and whether it is odd. -/
structure Kn where
  co : Int
  bl : Int
  tr : Int
  la : Int
  fr : Int
  pt : Int
  to_ : Int
  ld : List Pr
  st : List Pr
  com : Bool
  cd : Int
  odd : Bool
deriving DecidableEq
def Kn.begun (i : Int) (e : Ev) : Kn := ⟨e.co, e.bl, e.tr, e.la, i, -1, -1, [], [], false, 0, false⟩
def Kn.zero : Kn := ⟨0, 0, 0, 0, 0, 0, 0, [], [], false, 0, false⟩
def Kn.has (x : Kn) (e : Ev) : Bool := (x.bl == e.bl) && (x.tr == e.tr)
def Kn.hard (x : Kn) : Bool := (x.la == 1) || (x.la == 2)
def Kn.names (x : Kn) (a : Int) : Bool := hasL x.ld a || hasL x.st a
def Kn.may (x : Kn) (k : Int) : Bool := if x.hard then (k == 2) || (k == 5) else k == 4
def Kn.load (x : Kn) (p : Pr) : Kn := match posL x.st p.a with
  | some _ => x
  | none => match posL x.ld p.a with
    | none => { x with ld := x.ld ++ [p] }
    | some j => if (x.ld.getD j Pr.zero).v = p.v then x else { x with odd := true }
def Kn.store (x : Kn) (p : Pr) : Kn := match posL x.st p.a with
  | none => { x with st := x.st ++ [p] }
  | some j => { x with st := x.st.set j ⟨p.a, p.v⟩ }
/-- What an event does to its attempt, but for its point. -/
def Kn.add0 (x : Kn) (i : Int) (e : Ev) : Kn :=
  if e.k = 2 then x.load ⟨e.ad, e.va⟩ else if e.k = 3 then x.store ⟨e.ad, e.va⟩
  else if e.k = 5 then { x with com := true, to_ := i } else if e.k = 6 then { x with cd := e.cd, to_ := i } else x
def Kn.add (x : Kn) (i : Int) (e : Ev) : Kn := if (x.add0 i e).may e.k then { x.add0 i e with pt := i } else x.add0 i e

/-- A map of numbers. -/
abbrev Mp := Int → Option Int
def Mp.none : Mp := fun _ => .none
def Mp.put (f : Mp) (a v : Int) : Mp := fun b => if b = a then some v else f b
def Mp.del (f : Mp) (a : Int) : Mp := fun b => if b = a then .none else f b
/-- The map of a list's places. -/
def plOf (l : List Pr) : Mp := fun a => (posL l a).map fun i => ((i : Nat) : Int)

/-- What is known in the midst of reading. -/
structure Rd where
  ks : List Kn
  pl : List Int
  o : Mp
def Rd.zero : Rd := ⟨[], [], Mp.none⟩
def Rd.follows (s : Rd) (e : Ev) : Bool :=
  if e.k = 1 then !(s.o e.co).isSome else if plainK e.k then !(s.o e.co).isSome
  else (s.o e.co).isSome && (s.ks.getD ((s.o e.co).getD 0).toNat Kn.zero).has e
def Rd.place (s : Rd) (e : Ev) : Int := if plainK e.k then -1 else if e.k = 1 then (s.ks.length : Nat) else (s.o e.co).getD 0
def Rd.ksAdd (s : Rd) (i : Int) (e : Ev) : List Kn := if plainK e.k then s.ks else if e.k = 1 then s.ks ++ [Kn.begun i e]
  else s.ks.set ((s.o e.co).getD 0).toNat ((s.ks.getD ((s.o e.co).getD 0).toNat Kn.zero).add i e)
def passO (o : Mp) (e : Ev) (place : Int) : Mp := if e.k = 1 then o.put e.co place else if e.k = 5 then o.del e.co else if e.k = 6 then o.del e.co else o
def Rd.step (s : Rd) (i : Int) (e : Ev) : Rd := ⟨s.ksAdd i e, s.pl ++ [s.place e], passO s.o e (s.place e)⟩
def Rd.ok (s : Rd) (e : Ev) : Bool := e.may && s.follows e
/-- Reading from event i on. -/
def Rd.go (s : Rd) (i : Nat) : List Ev → Option Rd
  | [] => some s
  | e :: r => if s.ok e then (s.step i e).go (i + 1) r else none
def readH (h : List Ev) : Option Rd := Rd.zero.go 0 h

/-! ### Memory -/
structure Wd where
  first : List Int
  later : Mp
def Wd.word (w : Wd) (a : Int) : Int := match w.later a with | some v => v | none => if a < (w.first.length : Nat) then w.first.getD a.toNat 0 else 0
def Wd.has (w : Wd) (l : List Pr) : Bool := l.all fun p => w.word p.a == p.v
/-- A moment: an event, and the attempt that happens there. -/
structure Mo where
  e : Ev
  pl : Int
  hp : Option Kn
def Wd.explains (w : Wd) (m : Mo) : Bool := if m.e.k = 7 then w.word m.e.ad == m.e.va else match m.hp with | none => true | some x => !x.odd && w.has x.ld
def Wd.puts (f : Mp) (l : List Pr) : Mp := l.foldl (fun f p => f.put p.a p.v) f
def Wd.pass (w : Wd) (m : Mo) : Wd :=
  let f := if m.e.k = 8 then w.later.put m.e.ad m.e.va else w.later
  match m.hp with | none => { w with later := f } | some x => if x.com then { w with later := Wd.puts f x.st } else { w with later := f }
/-- Does an attempt happen at an event? -/
def happens (ks : List Kn) (pl : Int) (i : Int) : Bool := if pl = -1 then false else (ks.getD pl.toNat Kn.zero).pt == i
def moOf (ks : List Kn) (pl : Int) (i : Int) (e : Ev) : Mo := ⟨e, pl, if happens ks pl i then some (ks.getD pl.toNat Kn.zero) else none⟩
def moAt (h : List Ev) (s : Rd) (i : Nat) : Mo := moOf s.ks (s.pl.getD i 0) i (h.getD i Ev.zero)
def moments (h : List Ev) (s : Rd) : List Mo := (List.range h.length).map (moAt h s)
/-- Where going on fails first. -/
def judgeFrom (w : Wd) (i : Nat) : List Mo → Option Nat
  | [] => none
  | m :: r => if w.explains m then judgeFrom (w.pass m) (i + 1) r else some i
def finalM (w : Wd) (l : List Mo) : Wd := l.foldl Wd.pass w
def meets (ks : List Kn) (o : Mp) (a : Int) : Bool := [0, 1, 2, 3].any fun c => match o c with | some p => let x := ks.getD p.toNat Kn.zero; !x.hard && x.names a | none => false
def racesFrom (ks : List Kn) (o : Mp) (i : Nat) : List Mo → Option Nat
  | [] => none
  | m :: r => if plainK m.e.k && meets ks o m.e.ad then some i else racesFrom ks (passO o m.e m.pl) (i + 1) r

end Go.Proofs.Ytgjbhcnadenojaa
