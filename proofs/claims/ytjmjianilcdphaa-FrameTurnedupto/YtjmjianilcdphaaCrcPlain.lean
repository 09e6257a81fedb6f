/-
  PLAIN MATHEMATICS FOR LAYER 4 (frame): the sum, in the forms that the walk shows. No program is named.
-/
import Derived.WalkKit
namespace Leb
open Go
/-- A word of 32 bits as the model's integer. -/
def n32 (x : BitVec 32) : Int := (x.toNat : Int)
theorem n32_lo (x : BitVec 32) : 0 ≤ n32 x := by unfold n32; omega
theorem n32_hi (x : BitVec 32) : n32 x < 4294967296 := by have := x.isLt; unfold n32; omega
theorem ofInt_n32 (x : BitVec 32) : BitVec.ofInt 32 (n32 x) = x := by
  apply BitVec.eq_of_toNat_eq; unfold n32; simp
theorem wrap_n32 (x : BitVec 32) : IntKind.u32.wrap (n32 x) = n32 x := by
  have h1 := n32_lo x; have h2 := n32_hi x
  simp [IntKind.wrap, IntKind.bits, IntKind.signed]; omega
theorem bits_and (x y : BitVec 32) : bits .and .u32 (n32 x) (n32 y) = n32 (x &&& y) := by
  show IntKind.u32.wrap (((BitVec.ofInt 32 (n32 x) &&& BitVec.ofInt 32 (n32 y)).toNat : Nat) : Int) = _
  rw [ofInt_n32, ofInt_n32]; exact wrap_n32 _
theorem bits_xor (x y : BitVec 32) : bits .xor .u32 (n32 x) (n32 y) = n32 (x ^^^ y) := by
  show IntKind.u32.wrap (((BitVec.ofInt 32 (n32 x) ^^^ BitVec.ofInt 32 (n32 y)).toNat : Nat) : Int) = _
  rw [ofInt_n32, ofInt_n32]; exact wrap_n32 _
theorem max32 : IntKind.u32.max = n32 (BitVec.allOnes 32) := by decide
theorem bits_not (x : BitVec 32) : bits .xor .u32 IntKind.u32.max (n32 x) = n32 (~~~x) := by
  rw [max32, bits_xor, BitVec.allOnes_xor]
theorem shr_n32 (x : BitVec 32) (s : Nat) : n32 x / 2 ^ s = n32 (x >>> s) := by
  simp [n32, BitVec.toNat_ushiftRight, Nat.shiftRight_eq_div_pow]
theorem neg_n32 (x : BitVec 32) : IntKind.u32.wrap (-(n32 x)) = n32 (-x) := by
  have h := x.isLt
  simp [IntKind.wrap, IntKind.bits, IntKind.signed, n32, BitVec.toNat_neg]
  omega
def poly : BitVec 32 := 3988292384#32
theorem poly_n32 : (3988292384 : Int) = n32 poly := by decide
theorem one_n32 : (1 : Int) = n32 1#32 := by decide
/-- One step of the sum. -/
def cstep (s : BitVec 32) : BitVec 32 := (s >>> 1) ^^^ (poly &&& -(s &&& 1#32))
def cn : Nat → BitVec 32 → BitVec 32
  | 0, s => s
  | k + 1, s => cstep (cn k s)
def bv (b : UInt8) : BitVec 32 := BitVec.ofNat 32 b.toNat
theorem bv_n32 (b : UInt8) : (b.toNat : Int) = n32 (bv b) := by
  simp [n32, bv]
def cbyte (s : BitVec 32) (b : UInt8) : BitVec 32 := cn 8 (s ^^^ bv b)
def cst (bs : List UInt8) : BitVec 32 := bs.foldl cbyte (BitVec.allOnes 32)
def crc (bs : List UInt8) : BitVec 32 := ~~~(cst bs)
theorem cst_next (bs : List UInt8) (k : Nat) (hk : k < bs.length) : cst (bs.take (k + 1)) = cbyte (cst (bs.take k)) (bs.getD k 0) := by
  have e : bs.take (k + 1) = bs.take k ++ [bs.getD k 0] := by
    rw [List.take_add_one, List.getElem?_eq_getElem hk]
    simp [hk]
  unfold cst
  rw [e, List.foldl_append]
  rfl
theorem and_one (s : BitVec 32) : s &&& 1#32 = if s.toNat % 2 = 1 then 1#32 else 0#32 := by
  apply BitVec.eq_of_toNat_eq
  rw [BitVec.toNat_and, show (1#32).toNat = 1 from rfl, Nat.and_one_is_mod]
  split <;> simp <;> omega
theorem cstep_odd (s : BitVec 32) (h : s.toNat % 2 = 1) : cstep s = (s >>> 1) ^^^ poly := by
  unfold cstep
  rw [and_one, if_pos h, show -(1#32) = BitVec.allOnes 32 by decide, BitVec.and_allOnes]
theorem cstep_even (s : BitVec 32) (h : ¬ s.toNat % 2 = 1) : cstep s = s >>> 1 := by
  unfold cstep
  rw [and_one, if_neg h, show -(0#32) = 0#32 by decide, BitVec.and_zero, BitVec.xor_zero]
theorem half_n32 (z : BitVec 32) : n32 z / (2 : Int) = n32 (z >>> 1) := by simp [n32, BitVec.toNat_ushiftRight, Nat.shiftRight_eq_div_pow]
theorem xor_byte (x : BitVec 32) (y : UInt8) : bits .xor .u32 (n32 x) ((y.toNat : Int) % (4294967296 : Int)) = n32 (x ^^^ bv y) := by
  have h : (y.toNat : Int) % 4294967296 = n32 (bv y) := by rw [← bv_n32]; have := y.toNat_lt; omega
  rw [h, bits_xor]
theorem step_n32 (z : BitVec 32) : bits .xor .u32 (n32 z / 2) (bits .and .u32 3988292384 (-bits .and .u32 (n32 z) 1 % (4294967296 : Int))) = n32 (cstep z) := by
  have h1 := bits_and z 1#32
  rw [← one_n32] at h1
  have h2 : ∀ q : BitVec 32, -(n32 q) % (4294967296 : Int) = n32 (-q) := fun q => by
    have h := q.isLt
    simp [n32, BitVec.toNat_neg]
    omega
  have h3 : ∀ r : BitVec 32, bits .and .u32 3988292384 (n32 r) = n32 (poly &&& r) := fun r => by rw [poly_n32, bits_and]
  have h4 : n32 z / (2 : Int) = n32 (z >>> 1) := half_n32 z
  rw [h1, h2, h3, h4, bits_xor]
  rfl
theorem odd_n32 (z : BitVec 32) : (n32 z % 2 = 1) ↔ z.toNat % 2 = 1 := by unfold n32; omega

theorem xorp_n32 (z : BitVec 32) : bits .xor .u32 (n32 z) 3988292384 = n32 (z ^^^ poly) := by rw [poly_n32, bits_xor]
theorem tdiv_n32 (z : BitVec 32) : (n32 z).tdiv (2 : Int) % (4294967296 : Int) = n32 (z >>> 1) := by
  have h0 := n32_lo z
  have h1 := n32_hi z
  rw [Int.tdiv_eq_ediv_of_nonneg h0, ← half_n32]
  omega
end Leb
