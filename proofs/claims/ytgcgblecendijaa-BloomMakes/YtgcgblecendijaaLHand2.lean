/-
  VALUES OF SINGLE OPERATIONS, for regions that are walked by hand.
-/
import Derived.Test.YtgcgblecendijaaLBackWalk
namespace Go.Proofs.Ytgcgblecendijaa.LB
open Go.RowKit Leb
section
variable {o : Oper} {a : Act} {x y : Operand} {w : World}
theorem x_ne0 {t : TypeId} {q : Nat} (hop : o.op = .binOp .eql t x y t) (hx : a.eval x = .int .i64 (q : Int)) (hy : a.eval y = .int .i64 0) (h : ¬ q = 0) : (execOp a.eval o).run Try.prog w = .ok (.value (.bool false)) w := by
  unfold execOp
  have h' : ((q : Int) == 0) = false := by simp; omega
  simp only [hop, hx, hy]
  simp [go_sem, h']
theorem x_neq0 {t : TypeId} {q : Nat} (hop : o.op = .binOp .neq t x y t) (hx : a.eval x = .int .i64 (q : Int)) (hy : a.eval y = .int .i64 0) (h : ¬ q = 0) : (execOp a.eval o).run Try.prog w = .ok (.value (.bool true)) w := by
  unfold execOp
  simp only [hop, hx, hy]
  simp [go_sem, h]
theorem x_gtr {t : TypeId} {p q : Nat} (hop : o.op = .binOp .gtr t x y t) (hx : a.eval x = .int .i64 (p : Int)) (hy : a.eval y = .int .i64 (q : Int)) (h : p ≤ q) : (execOp a.eval o).run Try.prog w = .ok (.value (.bool false)) w := by
  unfold execOp
  simp only [hop, hx, hy]
  simp [go_sem]; omega
theorem x_leq {t : TypeId} {p q : Nat} (hop : o.op = .binOp .leq t x y t) (hx : a.eval x = .int .i64 (p : Int)) (hy : a.eval y = .int .i64 (q : Int)) (h : p ≤ q) : (execOp a.eval o).run Try.prog w = .ok (.value (.bool true)) w := by
  unfold execOp
  simp only [hop, hx, hy]
  simp [go_sem]; omega
theorem x_streqf {s t : ByteArray} (hop : o.op = .binOp .neq 9 x y 9) (hx : a.eval x = .string s) (hy : a.eval y = .string t) (h : s = t) : (execOp a.eval o).run Try.prog w = .ok (.value (.bool false)) w := by
  subst h
  unfold execOp
  simp only [hop, hx, hy]
  simp [go_sem]
theorem slice_hi (b off len cap k : Nat) (hk : k ≤ cap) (W : World) : (Instr.sliceAt 26 (.slice (some ⟨b, off, none⟩) len cap) none (some (.int .i64 (k : Int))) none).run Try.prog W = .ok (.slice (some ⟨b, off, none⟩) k cap) W := by
  obtain ⟨i, hi', _⟩ := Option.map_eq_some_iff.1 bytes5
  by_cases h0 : cap = 0
  · obtain rfl : k = 0 := by omega
    simp [Instr.sliceAt, Instr.slice, run_underlying Try.underlying26, Instr.sliceBounds, Instr.sliceBound, asIntOf, sizeOf, typeInfo, hi', h0]
  · simp [Instr.sliceAt, Instr.slice, run_underlying Try.underlying26, Instr.sliceBounds, Instr.sliceBound, asIntOf, sizeOf, typeInfo, hi', hk, Addr.add]
theorem x_slice {b off len cap k : Nat} (hop : o.op = .slice 26 x none (some y) none) (hx : a.eval x = .slice (some ⟨b, off, none⟩) len cap) (hy : a.eval y = .int .i64 (k : Int)) (hk : k ≤ cap) : (execOp a.eval o).run Try.prog w = .ok (.value (.slice (some ⟨b, off, none⟩) k cap)) w := by
  unfold execOp
  simp only [hop, hx, hy, Option.map, Sem.run_bind, slice_hi b off len cap k hk w, Result.andThen_ok]
  rfl
theorem Own.convA {w W : World} {base : Nat} {v : Value} {bs : List UInt8} (h : Own w base v bs) (hA : After w W) : (convert 26 9 v).run Try.prog W = .ok (.string (strOf bs)) W := (Own.below h hA (Nat.le_refl _)).conv
end
end Go.Proofs.Ytgcgblecendijaa.LB
