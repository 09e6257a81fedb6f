/-
  OPERATIONS ON NUMBERS, AS RUNS.
-/
import Derived.Test.YtgcgblecendijaaBM
import Derived.WalkKit
namespace Go.Proofs.Ytgcgblecendijaa
open Go.RowKit
section
variable {o : Oper} {a : Act} {x y : Operand} {w : World} {p q r : Nat}
theorem bv8 {p : Nat} (hp : p < 256) : (BitVec.ofNat 8 p).toNat = p := by simp; omega
theorem bv64 {p : Nat} (hp : p < 18446744073709551616) : (BitVec.ofNat 64 p).toNat = p := by simp; omega
theorem wrap8 {p : Nat} (hp : p < 256) : IntKind.u8.wrap (p : Int) = (p : Int) := by simp [IntKind.wrap, IntKind.bits, IntKind.signed]; omega
theorem wrapu {p : Nat} (hp : p < 18446744073709551616) : IntKind.u64.wrap (p : Int) = (p : Int) := by simp [IntKind.wrap, IntKind.bits, IntKind.signed]; omega
theorem wrapi {p : Nat} (hp : p < 9223372036854775808) : IntKind.i64.wrap (p : Int) = (p : Int) := by rw [IntKind.wrap_i64]; omega

theorem x_or8 (hop : o.op = .binOp .or 5 x y 5) (hx : a.eval x = .int .u8 (p : Int)) (hy : a.eval y = .int .u8 (q : Int)) (hp : p < 256) (hq : q < 256) (hr : p ||| q = r) : (execOp a.eval o).run Try.prog w = .ok (.value (.int .u8 (r : Int))) w := by
  have e : IntKind.u8.wrap ((BitVec.ofNat 8 p ||| BitVec.ofNat 8 q).toNat : Int) = (r : Int) := by
    rw [BitVec.toNat_or, bv8 hp, bv8 hq, hr, wrap8 (by rw [← hr]; exact Nat.or_lt_two_pow (n := 8) hp hq)]
  unfold execOp
  simp only [hop, hx, hy]
  simp [go_sem, Op.intBits]
  exact e

theorem x_and8 (hop : o.op = .binOp .and 5 x y 5) (hx : a.eval x = .int .u8 (p : Int)) (hy : a.eval y = .int .u8 (q : Int)) (hp : p < 256) (hq : q < 256) (hr : p &&& q = r) : (execOp a.eval o).run Try.prog w = .ok (.value (.int .u8 (r : Int))) w := by
  have e : IntKind.u8.wrap ((BitVec.ofNat 8 p &&& BitVec.ofNat 8 q).toNat : Int) = (r : Int) := by
    rw [BitVec.toNat_and, bv8 hp, bv8 hq, hr, wrap8 (by rw [← hr]; exact Nat.lt_of_le_of_lt Nat.and_le_left hp)]
  unfold execOp
  simp only [hop, hx, hy]
  simp [go_sem, Op.intBits]
  exact e

theorem x_or64 (hop : o.op = .binOp .or 39 x y 39) (hx : a.eval x = .int .u64 (p : Int)) (hy : a.eval y = .int .u64 (q : Int)) (hp : p < 18446744073709551616) (hq : q < 18446744073709551616) (hr : p ||| q = r) : (execOp a.eval o).run Try.prog w = .ok (.value (.int .u64 (r : Int))) w := by
  have e : IntKind.u64.wrap ((BitVec.ofNat 64 p ||| BitVec.ofNat 64 q).toNat : Int) = (r : Int) := by
    rw [BitVec.toNat_or, bv64 hp, bv64 hq, hr, wrapu (by rw [← hr]; exact Nat.or_lt_two_pow (n := 64) hp hq)]
  unfold execOp
  simp only [hop, hx, hy]
  simp [go_sem, Op.intBits]
  exact e

theorem x_xor64 (hop : o.op = .binOp .xor 39 x y 39) (hx : a.eval x = .int .u64 (p : Int)) (hy : a.eval y = .int .u64 (q : Int)) (hp : p < 18446744073709551616) (hq : q < 18446744073709551616) (hr : p ^^^ q = r) : (execOp a.eval o).run Try.prog w = .ok (.value (.int .u64 (r : Int))) w := by
  have e : IntKind.u64.wrap ((BitVec.ofNat 64 p ^^^ BitVec.ofNat 64 q).toNat : Int) = (r : Int) := by
    rw [BitVec.toNat_xor, bv64 hp, bv64 hq, hr, wrapu (by rw [← hr]; exact Nat.xor_lt_two_pow (n := 64) hp hq)]
  unfold execOp
  simp only [hop, hx, hy]
  simp [go_sem, Op.intBits]
  exact e

theorem x_add64 (hop : o.op = .binOp .add 39 x y 39) (hx : a.eval x = .int .u64 (p : Int)) (hy : a.eval y = .int .u64 (q : Int)) (hr : p + q = r) (hb : r < 18446744073709551616) : (execOp a.eval o).run Try.prog w = .ok (.value (.int .u64 (r : Int))) w := by
  have e : IntKind.u64.wrap ((p : Int) + (q : Int)) = (r : Int) := by rw [← Int.natCast_add, hr, wrapu hb]
  unfold execOp
  simp only [hop, hx, hy]
  simp [go_sem, e]

theorem x_mul64 (hop : o.op = .binOp .mul 39 x y 39) (hx : a.eval x = .int .u64 (p : Int)) (hy : a.eval y = .int .u64 (q : Int)) (hr : p * q = r) (hb : r < 18446744073709551616) : (execOp a.eval o).run Try.prog w = .ok (.value (.int .u64 (r : Int))) w := by
  have e : IntKind.u64.wrap ((p : Int) * (q : Int)) = (r : Int) := by rw [← Int.natCast_mul, hr, wrapu hb]
  unfold execOp
  simp only [hop, hx, hy]
  simp [go_sem, e]

theorem x_rem64 (hop : o.op = .binOp .rem 39 x y 39) (hx : a.eval x = .int .u64 (p : Int)) (hy : a.eval y = .int .u64 (q : Int)) (hr : p % q = r) (hb : 0 < q) : (execOp a.eval o).run Try.prog w = .ok (.value (.int .u64 (r : Int))) w := by
  have e : Int.tmod (p : Int) (q : Int) = (r : Int) := by rw [← hr]; exact (Int.ofNat_tmod p q).symm
  have e0 : ¬ q = 0 := by omega
  unfold execOp
  simp only [hop, hx, hy]
  simp [go_sem, e, e0]

theorem x_quo64 (hop : o.op = .binOp .quo 39 x y 39) (hx : a.eval x = .int .u64 (p : Int)) (hy : a.eval y = .int .u64 (q : Int)) (hr : p / q = r) (hb : 0 < q ∧ r < 18446744073709551616) : (execOp a.eval o).run Try.prog w = .ok (.value (.int .u64 (r : Int))) w := by
  have e : Int.tdiv (p : Int) (q : Int) = (r : Int) := by rw [← hr]; exact (Int.ofNat_tdiv p q).symm
  have e0 : ¬ q = 0 := by omega
  have ew : IntKind.u64.wrap (r : Int) = (r : Int) := wrapu hb.2
  unfold execOp
  simp only [hop, hx, hy]
  simp [go_sem, e, e0, ew]

theorem x_shl8 {ty : TypeId} (hop : o.op = .binOp .shl 5 x y ty) (hx : a.eval x = .int .u8 1) (hy : a.eval y = .int .u64 (q : Int)) (hq : q < 8) (hr : 2 ^ q = r) : (execOp a.eval o).run Try.prog w = .ok (.value (.int .u8 (r : Int))) w := by
  have : q = 0 ∨ q = 1 ∨ q = 2 ∨ q = 3 ∨ q = 4 ∨ q = 5 ∨ q = 6 ∨ q = 7 := by omega
  unfold execOp
  simp only [hop, hx, hy]
  rcases this with rfl | rfl | rfl | rfl | rfl | rfl | rfl | rfl <;> subst hr <;> simp [go_sem, Op.shift, IntKind.bits, IntKind.wrap, IntKind.signed]
theorem x_shr8 {ty : TypeId} (hop : o.op = .binOp .shr 5 x y ty) (hx : a.eval x = .int .u8 (p : Int)) (hy : a.eval y = .int .u64 (q : Int)) (hq : q < 8) (hr : p / 2 ^ q = r) : (execOp a.eval o).run Try.prog w = .ok (.value (.int .u8 (r : Int))) w := by
  have e : (p : Int) / 2 ^ q = (r : Int) := by rw [← hr]; simp
  unfold execOp
  simp only [hop, hx, hy]
  have _u := hq
  simp [go_sem, e]
theorem x_shl64 {ty : TypeId} {k : IntKind} (hop : o.op = .binOp .shl 39 x y ty) (hx : a.eval x = .int .u64 (p : Int)) (hy : a.eval y = .int k (q : Int)) (hq : q < 64) (hr : p * 2 ^ q = r) (hb : r < 18446744073709551616) : (execOp a.eval o).run Try.prog w = .ok (.value (.int .u64 (r : Int))) w := by
  have e : IntKind.u64.wrap ((p : Int) * 2 ^ q) = (r : Int) := by
    have : (p : Int) * 2 ^ q = ((p * 2 ^ q : Nat) : Int) := by simp
    rw [this, hr, wrapu hb]
  unfold execOp
  simp only [hop, hx, hy]
  have _u := hq
  simp [go_sem, e]
theorem x_muli (hop : o.op = .binOp .mul 3 x y 3) (hx : a.eval x = .int .i64 (p : Int)) (hy : a.eval y = .int .i64 (q : Int)) (hr : p * q = r) (hb : r < 9223372036854775808) : (execOp a.eval o).run Try.prog w = .ok (.value (.int .i64 (r : Int))) w := by
  have e : IntKind.i64.wrap ((p : Int) * (q : Int)) = (r : Int) := by rw [← Int.natCast_mul, hr, wrapi hb]
  unfold execOp
  simp only [hop, hx, hy]
  simp [go_sem, e]
theorem x_conv839 (hop : o.op = .convert 5 39 x) (hx : a.eval x = .int .u8 (p : Int)) (hp : p < 256) : (execOp a.eval o).run Try.prog w = .ok (.value (.int .u64 (p : Int))) w := by
  have e : IntKind.u64.wrap (p : Int) = (p : Int) := wrapu (by omega)
  unfold execOp
  simp only [hop, hx]
  simp [go_sem, e]
theorem x_conv339 (hop : o.op = .convert 3 39 x) (hx : a.eval x = .int .i64 (p : Int)) (hp : p < 18446744073709551616) : (execOp a.eval o).run Try.prog w = .ok (.value (.int .u64 (p : Int))) w := by
  have e : IntKind.u64.wrap (p : Int) = (p : Int) := wrapu hp
  unfold execOp
  simp only [hop, hx]
  simp [go_sem, e]
theorem x_conv393 (hop : o.op = .convert 39 3 x) (hx : a.eval x = .int .u64 (p : Int)) (hp : p < 9223372036854775808) : (execOp a.eval o).run Try.prog w = .ok (.value (.int .i64 (p : Int))) w := by
  have e : IntKind.i64.wrap (p : Int) = (p : Int) := wrapi hp
  unfold execOp
  simp only [hop, hx]
  simp [go_sem, e]
theorem x_conv2339 (hop : o.op = .convert 23 39 x) (hx : a.eval x = .int .u32 (p : Int)) (hp : p < 18446744073709551616) : (execOp a.eval o).run Try.prog w = .ok (.value (.int .u64 (p : Int))) w := by
  have e : IntKind.u64.wrap (p : Int) = (p : Int) := wrapu hp
  unfold execOp
  simp only [hop, hx]
  simp [go_sem, e]
end
end Go.Proofs.Ytgcgblecendijaa
