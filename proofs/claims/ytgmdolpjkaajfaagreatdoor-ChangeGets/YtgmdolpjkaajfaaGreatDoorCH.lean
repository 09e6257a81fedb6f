/-
  THE WALKS OF change.Check, change.Same (of equal ones) AND stemmalaw08.ChangeBack.
-/
import Derived.Test.YtgmdolpjkaajfaaGreatDoorCG
namespace Go.Proofs.YtgmdolpjkaajfaaGreatDoor
open Go.RowKit Leb
/-- A change of which Put gave its bytes: in a place, with one that was read of it. -/
structure BkI (w : World) (x : Chg) (d p : Sl) (B : List UInt8) (b1 o1 : Nat) (d2 p2 : Sl) (g3 : Nat) (W : World) : Prop where
  aft : After w W
  r0 : RowIs W w.heap.size 25 (cc x d p)
  r3 : RowIs W g3 25 (cc x d2 p2)
  b : BytesAt W (some ⟨b1, o1, none⟩) B
  c : ChAt W x d2 p2
theorem BkI.after {w : World} {x : Chg} {d p : Sl} {B : List UInt8} {b1 o1 : Nat} {d2 p2 : Sl} {g3 : Nat} {W W' : World} (h : BkI w x d p B b1 o1 d2 p2 g3 W) (ha : After W W') : BkI w x d p B b1 o1 d2 p2 g3 W' :=
  ⟨After.trans h.aft ha, h.r0.below ha h.r0.lt, h.r3.below ha h.r3.lt, h.b.after ha, h.c.after ha⟩
end Go.Proofs.YtgmdolpjkaajfaaGreatDoor
