/-
  THE WALKS OF stemmaref01.turned AND stemmaref01.constant; the four bytes of a word by multiplication.
-/
import Derived.Test.YtpnhklefoafgkaaDoorSame
namespace Go.Proofs.YtpnhklefoafgkaaDoor
open Go.RowKit Sha
set_option maxHeartbeats 400000 in
theorem turned_any (x : BitVec 32) (n : Int) (h0 : 0 < n) (h1 : n < 32) (w : World) :
    Calls Tryd.prog 31 #[.int .u32 (n32 x), .int .u64 n] w fun e w' => e = .returned (.int .u32 (n32 (rotr x n.toNat))) ∧ w' = w := by
  obtain ⟨m, rfl⟩ := Int.eq_ofNat_of_zero_le (Int.le_of_lt h0)
  rw [Int.toNat_natCast]
  have hs : ((32 : Int) - m).toNat = 32 - m := by omega
  have e : n32 (rotr x m) = bits .or .u32 (n32 x / 2 ^ m) (n32 x * 2 ^ (32 - m) % 4294967296) := by
    rw [mod_shl, shr_n32, bits_or]; unfold rotr; rw [BitVec.or_comm]
  have HE := show Hid _ from e
  clear e
  go_enter Tryd.func31, Tryd.ntmps31
  go_wp2
  go_ret
  refine ⟨?_, rfl⟩
  rw [HE.out]; rfl
theorem kWords_len : kWords.length = 64 := rfl
theorem ksize : (Tryd.prog.info? 64).map (·.size) = some (c32 kWords).toArray.size := size64
set_option maxRecDepth 100000 in
set_option maxHeartbeats 400000 in
theorem constant_any (k : Nat) (hk : k < 64) (w : World) :
    Calls Tryd.prog 32 #[.int .i64 (k : Int)] w fun e w' => e = .returned (.int .u32 (n32 (kWords.getD k 0))) ∧ Below w.heap.size w w' := by
  have bk : (k : Int) < 64 := by omega
  have r1 : Hid (RowIs ((w.alloc (.cells zero64.toArray 64)).setRow w.heap.size (c32 kWords).toArray) w.heap.size 64 (c32 kWords)) := RowIs.setRow (RowIs.new w 64 zero64) _
  have hb : Hid (Below w.heap.size w ((w.alloc (.cells zero64.toArray 64)).setRow w.heap.size (c32 kWords).toArray)) := Below.row ((Below.refl _ _).alloc (Nat.le_refl _) _) (Nat.le_refl _) _
  go_enter Tryd.func32, Tryd.ntmps32
  go_wp2_with (first
    | (refine wpList_built rfl 64 _ rfl (c32 kWords).toArray (by kernel_rfl) ?_)
    | (refine wpList_store_row rfl 64 (.tmp 3) (.tmp 4) rfl w.heap.size (c32 kWords).toArray rfl rfl 64 zero64.toArray (RowIs.new w 64 zero64) ksize rfl (all_oneCell_toArray (c32_one _)) ?_
       refine with_world (p := fun W => wpList _ _ _ _ _ W) (fun W => RowIs W w.heap.size 64 (c32 kWords) ∧ Below w.heap.size w W) ⟨r1.out, hb.out⟩ ?_
       rintro W1 ⟨hr1, hb1⟩
       have e0 := hr1.cell (c32_get kWords k (by rw [kWords_len]; exact hk))
       have HB1 := show Hid _ from hb1
       clear hb1 hr1))
  go_ret
  exact ⟨rfl, HB1.out⟩
/-- One byte more behind a word. -/
def accW (x : BitVec 32) (b : UInt8) : BitVec 32 := 256#32 * x + w8 b
theorem word4_acc (a b c d : UInt8) : accW (accW (accW (accW 0 a) b) c) d = word4 a b c d := by
  have ha := a.toNat_lt
  have hb := b.toNat_lt
  have hc := c.toNat_lt
  have hd := d.toNat_lt
  apply BitVec.eq_of_toNat_eq
  have l : (accW (accW (accW (accW 0 a) b) c) d).toNat = ((a.toNat * 256 + b.toNat) * 256 + c.toNat) * 256 + d.toNat := by
    simp [accW, w8]; omega
  have s1 : a.toNat <<< 24 ||| b.toNat <<< 16 = (a.toNat * 256 + b.toNat) <<< 16 := by
    rw [show a.toNat <<< 24 = (a.toNat <<< 8) <<< 16 by rw [← Nat.shiftLeft_add], ← Nat.shiftLeft_or_distrib, ← Nat.shiftLeft_add_eq_or_of_lt (by omega)]
    simp only [Nat.shiftLeft_eq]
  have s2 : (a.toNat * 256 + b.toNat) <<< 16 ||| c.toNat <<< 8 = ((a.toNat * 256 + b.toNat) * 256 + c.toNat) <<< 8 := by
    rw [show (a.toNat * 256 + b.toNat) <<< 16 = ((a.toNat * 256 + b.toNat) <<< 8) <<< 8 by rw [← Nat.shiftLeft_add], ← Nat.shiftLeft_or_distrib, ← Nat.shiftLeft_add_eq_or_of_lt (by omega)]
    simp only [Nat.shiftLeft_eq]
  have s3 : ((a.toNat * 256 + b.toNat) * 256 + c.toNat) <<< 8 ||| d.toNat = ((a.toNat * 256 + b.toNat) * 256 + c.toNat) * 256 + d.toNat := by
    rw [← Nat.shiftLeft_add_eq_or_of_lt (by omega), Nat.shiftLeft_eq]
  have r : (word4 a b c d).toNat = a.toNat <<< 24 ||| b.toNat <<< 16 ||| c.toNat <<< 8 ||| d.toNat := by
    have m : ∀ (x : UInt8) (k : Nat), k ≤ 24 → (w8 x <<< k).toNat = x.toNat <<< k := fun x k hk => by
      have hx := x.toNat_lt
      have : x.toNat * 2 ^ k < 2 ^ 8 * 2 ^ 24 := Nat.lt_of_lt_of_le (Nat.mul_lt_mul_of_pos_right hx (Nat.two_pow_pos k)) (Nat.mul_le_mul_left _ (Nat.pow_le_pow_right (by omega) hk))
      simp only [w8, BitVec.toNat_shiftLeft, BitVec.toNat_ofNat, Nat.shiftLeft_eq]
      rw [Nat.mod_eq_of_lt (show x.toNat < 2 ^ 32 by omega), Nat.mod_eq_of_lt (by omega)]
    have m0 : (w8 d).toNat = d.toNat := by simp [w8]
    unfold word4
    rw [BitVec.toNat_or, BitVec.toNat_or, BitVec.toNat_or, m a 24 (by omega), m b 16 (by omega), m c 8 (by omega), m0]
  rw [l, r, s1, s2, s3]
end Go.Proofs.YtpnhklefoafgkaaDoor
