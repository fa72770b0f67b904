/- serial: parts of its code. Conditions: those stated in each theorem. -/
import Derived.Test.YtgjbhcnadenojaaSerE
namespace Go.Proofs.Ytgjbhcnadenojaa
open Go.RowKit Go.BigFrame Go.Maps

/-- The bodies of the loops that a code holds, outermost first. -/
def loopsOf : Code → List Code
  | .loop c => c :: loopsOf c
  | .seq a b => loopsOf a ++ loopsOf b
  | .block _ c => loopsOf c
  | .scope c => loopsOf c
  | .cond _ a b => loopsOf a ++ loopsOf b
  | _ => []
/-- What stands from region n on. -/
def fromReg (n : Nat) : Code → List Code
  | .seq (.region m ops d) b => if m == n then [.seq (.region m ops d) b] else fromReg n b
  | .seq a b => fromReg n a ++ fromReg n b
  | .loop c => fromReg n c
  | .block _ c => fromReg n c
  | .scope c => fromReg n c
  | .cond _ a b => fromReg n a ++ fromReg n b
  | _ => []
noncomputable def serCode : Code := (Try.f24.body).getD .skip
noncomputable def serInner : Code := ((loopsOf serCode)[1]?).getD .skip
noncomputable def serTail : Code := ((fromReg 27 serCode)[0]?).getD .skip

end Go.Proofs.Ytgjbhcnadenojaa
