/- A node's calls as plain functions of what lies in it. Conditions: those stated in each theorem. -/
import Derived.Test.YtddajnpichchfaaNInv
namespace Go.Proofs.Ytddajnpichchfaa

/-! ### What a cache's calls answer, as plain data -/
def wordX (ss : Sets) (a : Int) : Int × Int := if a < 0 then (0, 2) else match Finds ss ((a.toNat / 8 : Nat) : Int) with | none => (0, 20) | some (i, j) => ((getE ss i j).data.get (a.toNat % 8), 0)
theorem wordL_val (ss : Sets) (u a : Int) : (wordL ss u a).2.2 = .tuple #[.int .u64 (wordX ss a).1, .int .i64 (wordX ss a).2] := by
  unfold wordL wordX; repeat' split
  all_goals first | rfl | simp_all
def putX (ss : Sets) (a : Int) : Int := if a < 0 then 2 else match Finds ss ((a.toNat / 8 : Nat) : Int) with | none => 20 | some (i, j) => if (getE ss i j).state = 2 then 0 else 20
theorem putL_val (ss : Sets) (u a v : Int) : (putL ss u a v).2.2 = .int .i64 (putX ss a) := by
  unfold putL putX; repeat' split
  all_goals first | rfl | simp_all
def fillX (ss : Sets) (k st : Int) : Ent × Bool × Int :=
  if k < 0 ∨ (st ≠ 1 ∧ st ≠ 2) then (Ent.zero, false, 2)
  else match Finds ss k with
    | some _ => (Ent.zero, false, 21)
    | none => match Goes ss k.toNat with
      | none => (Ent.zero, false, 22)
      | some (i, j) => (getE ss i j, (getE ss i j).state != 0, 0)
theorem fillL_val (ss : Sets) (u k st : Int) (d : L8) : (fillL ss u k st d).2.2 = .tuple #[.agg (fillX ss k st).1.cells.toArray, .bool (fillX ss k st).2.1, .int .i64 (fillX ss k st).2.2] := by
  unfold fillL fillX; repeat' split
  all_goals first | rfl | simp_all
def demoteX (ss : Sets) (k : Int) : L8 × Int := match Finds ss k with | none => (L8.zero, 20) | some (i, j) => if (getE ss i j).state = 2 then ((getE ss i j).data, 0) else (L8.zero, 20)
theorem demoteL_val (ss : Sets) (u k : Int) : (demoteL ss u k).2.2 = .tuple #[.agg (demoteX ss k).1.cells.toArray, .int .i64 (demoteX ss k).2] := by
  unfold demoteL demoteX; repeat' split
  all_goals first | rfl | simp_all
def promoteX (ss : Sets) (k : Int) : Int := match Finds ss k with | none => 20 | some (i, j) => if (getE ss i j).state = 1 then 0 else 20
theorem promoteL_val (ss : Sets) (u k : Int) (d : L8) : (promoteL ss u k d).2.2 = .int .i64 (promoteX ss k) := by
  unfold promoteL promoteX; repeat' split
  all_goals first | rfl | simp_all
def findX (ss : Sets) (k : Int) : Ent × Bool := match Finds ss k with | none => (Ent.zero, false) | some (i, j) => (getE ss i j, true)
theorem findL_val (ss : Sets) (u k : Int) : (findL ss u k).2.2 = .tuple #[.agg (findX ss k).1.cells.toArray, .bool (findX ss k).2] := by
  unfold findL findX; split <;> simp_all
theorem findL_same (ss : Sets) (u k : Int) : (findL ss u k).1 = ss ∧ (findL ss u k).2.1 = u := by unfold findL; split <;> exact ⟨rfl, rfl⟩
def dropX (ss : Sets) (k : Int) : Ent × Int := match Finds ss k with | none => (Ent.zero, 20) | some (i, j) => (getE ss i j, 0)
theorem dropL_val (ss : Sets) (u k : Int) : (dropL ss u k).2.2 = .tuple #[.agg (dropX ss k).1.cells.toArray, .int .i64 (dropX ss k).2] := by
  unfold dropL dropX; split <;> simp_all
theorem dropL_u (ss : Sets) (u k : Int) : (dropL ss u k).2.1 = u := by unfold dropL; split <;> rfl
theorem demoteL_u (ss : Sets) (u k : Int) : (demoteL ss u k).2.1 = u := by unfold demoteL; (repeat' split) <;> rfl
theorem promoteL_u (ss : Sets) (u k : Int) (d : L8) : (promoteL ss u k d).2.1 = u := by unfold promoteL; (repeat' split) <;> rfl
theorem markL_u (ss : Sets) (u k : Int) (wr : Bool) : (markL ss u k wr).2.1 = u := by unfold markL; (repeat' split) <;> rfl
theorem markL_val (ss : Sets) (u k : Int) (wr : Bool) : ∃ x : Int, (markL ss u k wr).2.2 = .int .i64 x := by unfold markL; (repeat' split) <;> exact ⟨_, rfl⟩

/-! ### A node -/
/-- A message. -/
structure MsgV where
  kind : Int
  core : Int
  line : Int
  data : L8
deriving DecidableEq
def MsgV.zero : MsgV := ⟨0, 0, 0, L8.zero⟩
def MsgV.cells (m : MsgV) : List Value := [.int .i64 m.kind, .int .i64 m.core, .int .i64 m.line, .int .u64 m.data.x0, .int .u64 m.data.x1, .int .u64 m.data.x2, .int .u64 m.data.x3, .int .u64 m.data.x4, .int .u64 m.data.x5, .int .u64 m.data.x6, .int .u64 m.data.x7]
theorem MsgV.len (m : MsgV) : m.cells.length = 11 := rfl
/-- What lies in a node. -/
structure Nd where
  core : Int
  lines : Int
  ss : Sets
  u : Int
  out : MsgV
  backs : List Int
  live : Bool
  code : Int
def Nd.cells (n : Nd) (p : Nat) (bv : Value) : List Value := [.int .i64 n.core, .int .i64 n.lines, .pointer (some ⟨p, 0, none⟩),
  .int .i64 n.out.kind, .int .i64 n.out.core, .int .i64 n.out.line, .int .u64 n.out.data.x0, .int .u64 n.out.data.x1, .int .u64 n.out.data.x2, .int .u64 n.out.data.x3, .int .u64 n.out.data.x4, .int .u64 n.out.data.x5, .int .u64 n.out.data.x6, .int .u64 n.out.data.x7,
  bv, .bool n.live, .int .i64 n.code]
theorem Nd.len (n : Nd) (p : Nat) (bv : Value) : (n.cells p bv).length = 17 := rfl
def Nd.new (core lines : Int) (ss : Sets) : Nd := ⟨core, lines, ss, 0, MsgV.zero, [], false, 0⟩

def stateL (ss : Sets) (k : Int) : Int := (findX ss k).1.state
def Nd.msg (n : Nd) (kind line : Int) : MsgV := ⟨kind, n.core, line, L8.zero⟩
def Nd.isLine (n : Nd) (line : Int) : Bool := decide (0 ≤ line) && decide (line < n.lines)
/-- The line of an address, and the error. -/
def Nd.lineOf (n : Nd) (a : Int) : Int × Int := if decide (0 ≤ a) && n.isLine (a / 8) then (a / 8, 0) else (0, 2)
def Nd.isOut (n : Nd) : Bool := decide (n.out ≠ MsgV.zero)
def Nd.gave (n : Nd) (line : Int) : Bool := n.backs.any fun b => b == line
def Nd.ask (n : Nd) (kind line : Int) : Nd × List MsgV := if n.isOut || n.gave line then (n, []) else ({ n with out := n.msg kind line }, [n.msg kind line])
def Nd.mark (n : Nd) (line : Int) (wr : Bool) : Nd := if n.live then { n with ss := (markL n.ss n.u line wr).1 } else n
def Nd.abort (n : Nd) (code : Int) : Nd := { n with ss := turnAll Ent.clear (turnAll Ent.back n.ss), live := false, code := code }
def Nd.lose (n : Nd) (line : Int) : Nd := if line = 0 then n.abort 2 else n.abort 1
def sortL (l : List Int) : List Int := if l.length ≤ 1 then l else l.mergeSort fun x y => decide (x ≤ y)
theorem sortL_eq (l : List Int) : (l.mergeSort fun x y => decide (x ≤ y)) = sortL l := by
  unfold sortL
  split
  · match l with
    | [] => simp
    | [x] => simp
    | _ :: _ :: _ => simp at *
  · rfl
def Nd.letGo (n : Nd) (gone : Ent) : Nd × List MsgV := if gone.state = 2 then ({ n with backs := sortL (n.backs ++ [gone.line]) }, [⟨3, n.core, gone.line, gone.data⟩]) else (n, [])
def Ent.mk' (e : Ent) : Bool := e.read || e.write

def Nd.load (n : Nd) (a : Int) : Nd × Int × Bool × List MsgV × Int :=
  if (n.lineOf a).2 ≠ 0 then (n, 0, false, [], (n.lineOf a).2)
  else if stateL n.ss (a / 8) = 0 then ((n.ask 1 (a / 8)).1, 0, false, (n.ask 1 (a / 8)).2, 0)
  else ({ n.mark (a / 8) false with ss := (wordL (n.mark (a / 8) false).ss n.u a).1, u := (wordL (n.mark (a / 8) false).ss n.u a).2.1 }, (wordX (n.mark (a / 8) false).ss a).1, true, [], (wordX (n.mark (a / 8) false).ss a).2)
def Nd.store (n : Nd) (a v : Int) : Nd × Bool × List MsgV × Int :=
  if (n.lineOf a).2 ≠ 0 then (n, false, [], (n.lineOf a).2)
  else if stateL n.ss (a / 8) ≠ 2 then ((n.ask 2 (a / 8)).1, false, (n.ask 2 (a / 8)).2, 0)
  else ({ n.mark (a / 8) true with ss := (putL (n.mark (a / 8) true).ss n.u a v).1, u := (putL (n.mark (a / 8) true).ss n.u a v).2.1 }, true, [], putX (n.mark (a / 8) true).ss a)
def Nd.cas (n : Nd) (a old v : Int) : Nd × Bool × Bool × List MsgV × Int :=
  if (n.lineOf a).2 ≠ 0 then (n, false, false, [], (n.lineOf a).2)
  else if n.live then (n, false, false, [], 41)
  else if stateL n.ss (a / 8) ≠ 2 then ((n.ask 2 (a / 8)).1, false, false, (n.ask 2 (a / 8)).2, 0)
  else if (wordX n.ss a).1 ≠ old then ({ n with ss := (wordL n.ss n.u a).1, u := (wordL n.ss n.u a).2.1 }, false, true, [], (wordX n.ss a).2)
  else ({ n with ss := (putL (wordL n.ss n.u a).1 (wordL n.ss n.u a).2.1 a v).1, u := (putL (wordL n.ss n.u a).1 (wordL n.ss n.u a).2.1 a v).2.1 }, true, true, [], putX (wordL n.ss n.u a).1 a)
def Nd.begin (n : Nd) : Nd × Int := if n.live then (n, 41) else ({ n with live := true, code := 0 }, 0)
def Nd.commit (n : Nd) : Nd × Int := if n.live then ({ n with live := false, ss := turnAll Ent.clear n.ss }, 0) else (n, 40)
def Nd.abortC (n : Nd) (code : Int) : Nd × Int := if n.live then (if code < 1 ∨ 7 < code then (n, 2) else (n.abort code, 0)) else (n, 40)
def Nd.refuses (n : Nd) (m : MsgV) : Bool :=
  if m.kind = 11 then decide (stateL n.ss m.line = 2)
  else if m.kind = 12 ∨ m.kind = 13 then decide (stateL n.ss m.line = 1)
  else if m.kind = 14 then decide (n.out ≠ n.msg 1 m.line)
  else if m.kind = 15 then decide (n.out ≠ n.msg 2 m.line)
  else if m.kind = 16 then !n.gave m.line
  else true
def Nd.dropL (n : Nd) (line : Int) : Nd := { n with ss := (Go.Proofs.Ytddajnpichchfaa.dropL n.ss n.u line).1 }
def Nd.hearInv (n : Nd) (line : Int) : Nd × List MsgV :=
  if (findX n.ss line).2 then ((if (findX n.ss line).1.mk' then n.lose line else n).dropL line, [n.msg 4 line]) else (n, [n.msg 4 line])
def Nd.hearRS (n : Nd) (line : Int) : Nd × List MsgV :=
  if (findX n.ss line).2 then
    let n1 := if (findX n.ss line).1.write then n.lose line else n
    ({ n1 with ss := (demoteL n1.ss n1.u line).1 }, [⟨5, n.core, line, (demoteX n1.ss line).1⟩])
  else (n, [n.msg 6 line])
def Nd.hearRM (n : Nd) (line : Int) : Nd × List MsgV :=
  if (findX n.ss line).2 then
    let n1 := if (findX n.ss line).1.mk' then n.lose line else n
    (n1.dropL line, [⟨5, n.core, line, (dropX n1.ss line).1.data⟩])
  else (n, [n.msg 6 line])
def Nd.fillL (n : Nd) (line state : Int) (d : L8) : Nd := { n with ss := (Go.Proofs.Ytddajnpichchfaa.fillL n.ss n.u line state d).1, u := (Go.Proofs.Ytddajnpichchfaa.fillL n.ss n.u line state d).2.1 }
def Nd.fill (n : Nd) (line state : Int) (d : L8) : Nd × List MsgV :=
  if (fillX n.ss line state).2.2 = 22 then ((n.abort 3).fillL line state d).letGo (fillX (n.abort 3).ss line state).1 else (n.fillL line state d).letGo (fillX n.ss line state).1
def Nd.hearG (n : Nd) (m : MsgV) (state : Int) : Nd × List MsgV :=
  let n1 := { n with out := MsgV.zero }
  if promoteX n1.ss m.line = 0 then ({ n1 with ss := (promoteL n1.ss n1.u m.line m.data).1 }, [n.msg 7 m.line])
  else ((n1.fill m.line state m.data).1, (n1.fill m.line state m.data).2 ++ [n.msg 7 m.line])
def Nd.hearPA (n : Nd) (line : Int) : Nd := { n with backs := n.backs.filter fun b => !(b == line) }
def Nd.take (n : Nd) (m : MsgV) : Nd × List MsgV :=
  if m.kind = 11 then n.hearInv m.line
  else if m.kind = 12 then n.hearRS m.line
  else if m.kind = 13 then n.hearRM m.line
  else if m.kind = 14 then n.hearG m 1
  else if m.kind = 15 then n.hearG m 2
  else (n.hearPA m.line, [])
def Nd.hear (n : Nd) (m : MsgV) : Nd × List MsgV × Int :=
  if m.core ≠ n.core ∨ n.isLine m.line = false ∨ n.refuses m = true then (n, [], 30) else ((n.take m).1, (n.take m).2, 0)
def Nd.drop (n : Nd) (line : Int) : Nd × List MsgV × Int :=
  if n.isLine line = false then (n, [], 2)
  else if (findX n.ss line).2 = false then (n, [], 20)
  else
    let n1 := if (findX n.ss line).1.mk' then n.abort 4 else n
    (((n1.dropL line).letGo (dropX n1.ss line).1).1, ((n1.dropL line).letGo (dropX n1.ss line).1).2, (dropX n1.ss line).2)
/-- All entries: of the machine's lines, rising. -/
def Nd.all (n : Nd) : List Ent := (List.range n.lines.toNat).filterMap fun (k : Nat) => if (findX n.ss (k : Int)).2 then some (findX n.ss (k : Int)).1 else none

end Go.Proofs.Ytddajnpichchfaa
