/-
  PLAIN MATHEMATICS FOR LAYER 1 (sha): words of 32 bits as BitVec 32, in the forms that the walk shows. No program is named.
-/
import Derived.WalkKit
namespace Go.Proofs.YtpnhklefoafgkaaDoor.Sha
open Go

/-- A word of 32 bits as the model's integer. -/
def n32 (x : BitVec 32) : Int := (x.toNat : Int)
theorem n32_lo (x : BitVec 32) : 0 ≤ n32 x := by unfold n32; omega
theorem n32_hi (x : BitVec 32) : n32 x < 4294967296 := by have := x.isLt; unfold n32; omega
theorem ofInt_n32 (x : BitVec 32) : BitVec.ofInt 32 (n32 x) = x := by
  apply BitVec.eq_of_toNat_eq; unfold n32; simp
theorem wrap_n32 (x : BitVec 32) : IntKind.u32.wrap (n32 x) = n32 x := by
  have h1 := n32_lo x; have h2 := n32_hi x
  simp [IntKind.wrap, IntKind.bits, IntKind.signed]; omega
theorem bits_and (x y : BitVec 32) : bits .and .u32 (n32 x) (n32 y) = n32 (x &&& y) := by
  show IntKind.u32.wrap (((BitVec.ofInt 32 (n32 x) &&& BitVec.ofInt 32 (n32 y)).toNat : Nat) : Int) = _
  rw [ofInt_n32, ofInt_n32]; exact wrap_n32 _
theorem bits_or (x y : BitVec 32) : bits .or .u32 (n32 x) (n32 y) = n32 (x ||| y) := by
  show IntKind.u32.wrap (((BitVec.ofInt 32 (n32 x) ||| BitVec.ofInt 32 (n32 y)).toNat : Nat) : Int) = _
  rw [ofInt_n32, ofInt_n32]; exact wrap_n32 _
theorem bits_xor (x y : BitVec 32) : bits .xor .u32 (n32 x) (n32 y) = n32 (x ^^^ y) := by
  show IntKind.u32.wrap (((BitVec.ofInt 32 (n32 x) ^^^ BitVec.ofInt 32 (n32 y)).toNat : Nat) : Int) = _
  rw [ofInt_n32, ofInt_n32]; exact wrap_n32 _
theorem max32 : IntKind.u32.max = n32 (BitVec.allOnes 32) := by decide
theorem bits_not (x : BitVec 32) : bits .xor .u32 IntKind.u32.max (n32 x) = n32 (~~~x) := by
  rw [max32, bits_xor, BitVec.allOnes_xor]
theorem wrap_add (x y : BitVec 32) : IntKind.u32.wrap (n32 x + n32 y) = n32 (x + y) := by
  simp [IntKind.wrap, IntKind.bits, IntKind.signed, n32, BitVec.toNat_add]
theorem mod_add (x y : BitVec 32) : (n32 x + n32 y) % 4294967296 = n32 (x + y) := by
  simp [n32, BitVec.toNat_add]
theorem mod_shl (x : BitVec 32) (s : Nat) : n32 x * 2 ^ s % 4294967296 = n32 (x <<< s) := by
  simp [n32, BitVec.toNat_shiftLeft, Nat.shiftLeft_eq]
theorem wrap_shl (x : BitVec 32) (s : Nat) : IntKind.u32.wrap (n32 x * 2 ^ s) = n32 (x <<< s) := by
  simp [IntKind.wrap, IntKind.bits, IntKind.signed, n32, BitVec.toNat_shiftLeft, Nat.shiftLeft_eq]
theorem shr_n32 (x : BitVec 32) (s : Nat) : n32 x / 2 ^ s = n32 (x >>> s) := by
  simp [n32, BitVec.toNat_ushiftRight, Nat.shiftRight_eq_div_pow]

/-- A word turned to the right. -/
def rotr (x : BitVec 32) (n : Nat) : BitVec 32 := x <<< (32 - n) ||| x >>> n
def ch (x y z : BitVec 32) : BitVec 32 := (x &&& y) ^^^ (~~~x &&& z)
def maj (x y z : BitVec 32) : BitVec 32 := (x &&& y) ^^^ (x &&& z) ^^^ (y &&& z)
def S0 (x : BitVec 32) : BitVec 32 := rotr x 2 ^^^ rotr x 13 ^^^ rotr x 22
def S1 (x : BitVec 32) : BitVec 32 := rotr x 6 ^^^ rotr x 11 ^^^ rotr x 25
def s0 (x : BitVec 32) : BitVec 32 := rotr x 7 ^^^ rotr x 18 ^^^ x >>> 3
def s1 (x : BitVec 32) : BitVec 32 := rotr x 17 ^^^ rotr x 19 ^^^ x >>> 10
theorem count_of (n : Nat) (h0 : 0 < n) (h1 : n < 32) : bits .and .u64 (IntKind.u64.wrap (-(n : Int))) 31 = 32 - (n : Int) := by
  have all : ∀ m : Fin 32, 0 < m.val → bits .and .u64 (IntKind.u64.wrap (-(m.val : Int))) 31 = 32 - (m.val : Int) := by decide +kernel
  exact all ⟨n, h1⟩ h0
/-- Bytes as cells, words as cells. -/
def c8 (l : List UInt8) : List Value := l.map fun b => .int .u8 (b.toNat : Int)
def c32 (l : List (BitVec 32)) : List Value := l.map fun b => .int .u32 (n32 b)
theorem c8_len (l : List UInt8) : (c8 l).length = l.length := by simp [c8]
theorem c32_len (l : List (BitVec 32)) : (c32 l).length = l.length := by simp [c32]
theorem c8_get (l : List UInt8) (j : Nat) (h : j < l.length) : (c8 l)[j]? = some (.int .u8 ((l.getD j 0).toNat : Int)) := by
  simp [c8, h]
theorem c32_get (l : List (BitVec 32)) (j : Nat) (h : j < l.length) : (c32 l)[j]? = some (.int .u32 (n32 (l.getD j 0))) := by
  simp [c32, h]
theorem c8_one (l : List UInt8) : ∀ v ∈ c8 l, v.oneCell' = true := by
  intro v hv; simp only [c8, List.mem_map] at hv; obtain ⟨b, _, rfl⟩ := hv; rfl
theorem c32_one (l : List (BitVec 32)) : ∀ v ∈ c32 l, v.oneCell' = true := by
  intro v hv; simp only [c32, List.mem_map] at hv; obtain ⟨b, _, rfl⟩ := hv; rfl
theorem c8_set (l : List UInt8) (j : Nat) (b : UInt8) : (c8 l).set j (.int .u8 (b.toNat : Int)) = c8 (l.set j b) := by
  simp [c8, List.map_set]
theorem c32_set (l : List (BitVec 32)) (j : Nat) (b : BitVec 32) : (c32 l).set j (.int .u32 (n32 b)) = c32 (l.set j b) := by
  simp [c32, List.map_set]

/-- A byte as a word. -/
def w8 (b : UInt8) : BitVec 32 := BitVec.ofNat 32 b.toNat
theorem wrap_w8 (b : UInt8) : IntKind.u32.wrap (b.toNat : Int) = n32 (w8 b) := by
  have := b.toNat_lt
  simp [IntKind.wrap, IntKind.bits, IntKind.signed, n32, w8]; omega
/-- The four bytes at place t of a block, as a word. -/
def word4 (a b c d : UInt8) : BitVec 32 := w8 a <<< 24 ||| w8 b <<< 16 ||| w8 c <<< 8 ||| w8 d
def word (bs : List UInt8) (t : Nat) : BitVec 32 := word4 (bs.getD (4 * t) 0) (bs.getD (4 * t + 1) 0) (bs.getD (4 * t + 2) 0) (bs.getD (4 * t + 3) 0)
/-- The next word of the schedule, behind those of l. -/
def nextW (bs : List UInt8) (l : List (BitVec 32)) : BitVec 32 :=
  if l.length < 16 then word bs l.length
  else l.getD (l.length - 16) 0 + s0 (l.getD (l.length - 15) 0) + l.getD (l.length - 7) 0 + s1 (l.getD (l.length - 2) 0)
def schedTo (bs : List UInt8) : Nat → List (BitVec 32)
  | 0 => []
  | k + 1 => schedTo bs k ++ [nextW bs (schedTo bs k)]
theorem schedTo_len (bs : List UInt8) : ∀ k, (schedTo bs k).length = k
  | 0 => rfl
  | k + 1 => by simp [schedTo, schedTo_len bs k]
/-- The words' array behind k rounds. -/
def rowTo (bs : List UInt8) (k : Nat) : List (BitVec 32) := schedTo bs k ++ List.replicate (64 - k) 0
theorem rowTo_len (bs : List UInt8) (k : Nat) (h : k ≤ 64) : (rowTo bs k).length = 64 := by simp [rowTo, schedTo_len]; omega
theorem rowTo_set (bs : List UInt8) (k : Nat) (h : k < 64) : (rowTo bs k).set k (nextW bs (schedTo bs k)) = rowTo bs (k + 1) := by
  have hl := schedTo_len bs k
  have e : 64 - k = (64 - (k + 1)) + 1 := by omega
  unfold rowTo
  rw [e, List.replicate_succ, List.set_append_right _ _ (by omega), hl, Nat.sub_self, List.set_cons_zero]
  simp [schedTo]
theorem rowTo_get (bs : List UInt8) (k j : Nat) (h : j < k) : (rowTo bs k).getD j 0 = (schedTo bs k).getD j 0 := by
  have hl := schedTo_len bs k
  simp [rowTo, List.getD_eq_getElem?_getD, List.getElem?_append_left (by omega : j < (schedTo bs k).length)]
def sched (bs : List UInt8) : List (BitVec 32) := schedTo bs 64
theorem rowTo_64 (bs : List UInt8) : rowTo bs 64 = sched bs := by simp [rowTo, sched]
end Go.Proofs.YtpnhklefoafgkaaDoor.Sha
