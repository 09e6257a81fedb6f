/-
  THE WALKS OF stemmaref08.Put AND stemmaref08.Copy.
-/
import Derived.Test.YtgmdolpjkaajfaaGreatDoorCS
namespace Go.Proofs.YtgmdolpjkaajfaaGreatDoor
open Go.RowKit Leb
end Go.Proofs.YtgmdolpjkaajfaaGreatDoor
