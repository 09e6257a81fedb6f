/-
  THE WALK OF ref.Same.
-/
import Derived.Test.YtpplnomomcdemaaGetRuns
namespace Go.Proofs.Ytpplnomomcdemaa
open Go.RowKit Leb
theorem same_end {l1 l2 : List Int} (h : l1.length = l2.length) (hall : ∀ j, j < l1.length → l1[j]?.getD 0 = l2[j]?.getD 0) : l1 = l2 := by
  apply List.ext_getElem h
  intro j h1 h2
  have := hall j h1
  rwa [List.getElem?_eq_getElem h1, List.getElem?_eq_getElem h2, Option.getD_some, Option.getD_some] at this
end Go.Proofs.Ytpplnomomcdemaa
