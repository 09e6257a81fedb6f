/-
  THE REFERENCE'S Move (26), Delete (27), Heads (13).
-/
import Derived.Test.YtcmcapcagblafaaBJ
namespace Go.Proofs.Ytcmcapcagblafaa
open Go.RowKit Dsk
attribute [local go_sem] Oper.semAt_some
theorem plc_lt {S : Tb} {nm : Dsk.Nm} {pl n : Nat} (hr : rising S) (hh : fhas nm S = true) (hp : plc nm S = pl) (hl : S.length = n) : pl + 1 ≤ n := by
  have h1 := (plc_split nm ([] : List H) hr).1
  rw [hh, hp] at h1
  cases hg : S[pl]? with
  | none => rw [hg] at h1; cases h1
  | some p => have := (List.getElem?_eq_some_iff.1 hg).1; omega
end Go.Proofs.Ytcmcapcagblafaa
