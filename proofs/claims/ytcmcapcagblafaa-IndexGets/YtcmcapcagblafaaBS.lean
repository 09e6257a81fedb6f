/-
  BranchForks (5).
-/
import Derived.Test.YtcmcapcagblafaaBR
import Derived.Test.YtcmcapcagblafaaBP
namespace Go.Proofs.Ytcmcapcagblafaa
open Go.RowKit Dsk
attribute [local go_sem] Oper.semAt_some
theorem AcsAt.after {W W' : World} {a : Option Addr} {L : List Ac} (h : AcsAt W a L) (ha : After W W') : AcsAt W' a L := ⟨h.1.after ha, fun x hx => (h.2 x hx).ck (CK.of_after ha)⟩
end Go.Proofs.Ytcmcapcagblafaa
