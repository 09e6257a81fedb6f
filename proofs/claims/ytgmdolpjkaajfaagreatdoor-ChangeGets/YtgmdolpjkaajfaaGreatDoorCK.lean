/-
  CHANGES OF ONE OPERATION, TIMES AND TIMES: how long their bytes are, what is told of them (mathematics, for ChangeLong).
-/
import Derived.Test.YtgmdolpjkaajfaaGreatDoorCH
namespace Go.Proofs.YtgmdolpjkaajfaaGreatDoor
open Go.RowKit Leb
def op1 (t : List UInt8) : Opn := ⟨1, [107], 0, 0, t⟩
def ops1 (m : Nat) (t : List UInt8) : List Opn := List.replicate m (op1 t)
def withO (x : Chg) (os : List Opn) : Chg := { x with ops := os }
end Go.Proofs.YtgmdolpjkaajfaaGreatDoor
