/- A text of instructions, plainly. No conditions but those stated. -/
import Derived.Test.YtndmlnoddnaafaaDoorAsmP
namespace Go.Proofs.YtndmlnoddnaafaaDoor

def plName (k : Nat) : By := 108 :: Lib.itoa k
/-- Does the instruction's line go to a name, of a list of n? -/
def goesI (n : Nat) (i : In) : Bool := goesP (textP i) && (decide (0 ≤ i.imm) && decide (i.imm ≤ n))
def lineP (n : Nat) (i : In) : By := if goesI n i then (textP i).take (lastP (textP i)) ++ plName i.imm.toNat else textP i
def markP (n : Nat) (l : List In) (k : Nat) : Bool := l.any fun i => goesI n i && i.imm == k
def pieceP (n : Nat) (l : List In) (k : Nat) : By := (if markP n l k then plName k ++ [58, 10] else []) ++ (match l[k]? with
  | some i => lineP n i ++ [10]
  | none => [])
/-- The text, up to the place k. -/
def printTo (n : Nat) (l : List In) (k : Nat) : By := (List.range k).flatMap (pieceP n l)
def printP (l : List In) : By := printTo l.length l (l.length + 1)
theorem printTo_succ (n : Nat) (l : List In) (k : Nat) : printTo n l (k + 1) = printTo n l k ++ pieceP n l k := by simp [printTo, List.range_succ, List.flatMap_append]
theorem plName_pos (k : Nat) : plName k = 108 :: Lib.itoa k := rfl
example : printP [⟨13, 0, 0, 0, 1⟩, ⟨1, 0, 0, 0, 0⟩] = [106, 117, 109, 112, 32, 108, 49, 10, 108, 49, 58, 10, 104, 97, 108, 116, 10] := by decide +kernel

end Go.Proofs.YtndmlnoddnaafaaDoor
