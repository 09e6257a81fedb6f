/-
  BranchBack (8).
-/
import Derived.Test.YtcmcapcagblafaaBV
namespace Go.Proofs.Ytcmcapcagblafaa
open Go.RowKit Go.Maps Dsk
attribute [local go_sem] Oper.semAt_some
theorem x_nei {oi : Oper} {a : Act} {w : World} {x y : Operand} {k : Nat} (hop : oi.op = .binOp .neq 3 x y 3) (hx : a.eval x = .int .i64 (k : Int)) (hy : a.eval y = .int .i64 (k : Int)) : (execOp a.eval oi).run Try.prog w = .ok (.value (.bool false)) w := by
  unfold execOp
  simp only [hop, hx, hy]
  simp [go_sem]
theorem nm_len {X : List Bx} {S : Tb} (h : bof X = S) (ok : TOk S) : ∀ x ∈ X, x.nm.length ≤ maxLen := by
  intro x hx
  have h1 : (x.nm, x.l) ∈ S := by rw [← h]; exact List.mem_map.2 ⟨x, hx, rfl⟩
  have h2 := nmB_len (ok.nam _ h1)
  simp only at h2
  unfold maxLen
  omega
end Go.Proofs.Ytcmcapcagblafaa
