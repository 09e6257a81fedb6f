/-
  THE WALKS OF THE SMALL FUNCTIONS OF sha (right, the four sigmas, chosen, majority): each returns the word that the plain function gives, and the world stands.
-/
import Derived.Test.YtpnhklefoafgkaaDoorRows
import Derived.Test.YtpnhklefoafgkaaDoorPlain
import Derived.WalkKit
import Derived.WalkSpells
import Derived.WalkLawsBesides
namespace Go.Proofs.YtpnhklefoafgkaaDoor
open Go.RowKit Sha
set_option maxHeartbeats 400000 in
theorem rot_any (x : BitVec 32) (n : Nat) (h0 : 0 < n) (h1 : n < 32) (w : World) :
    Calls Tryd.prog 41 #[.int .u32 (n32 x), .int .i64 (-(n : Int))] w fun e w' => e = .returned (.int .u32 (n32 (rotr x n))) ∧ w' = w := by
  have hc := count_of n h0 h1
  have hs : ((32 : Int) - n).toNat = 32 - n := by omega
  have hn : ((32 : Int) - (32 - n)).toNat = n := by omega
  go_enter Tryd.func41, Tryd.ntmps41
  go_wp2
  go_ret
  simp only [mod_shl, shr_n32, bits_or]
  exact ⟨rfl, trivial⟩
set_option maxHeartbeats 400000 in
theorem right_any (x : BitVec 32) (n : Int) (h0 : 0 < n) (h1 : n < 32) (w : World) :
    Calls Tryd.prog 40 #[.int .u32 (n32 x), .int .i64 n] w fun e w' => e = .returned (.int .u32 (n32 (rotr x n.toNat))) ∧ w' = w := by
  obtain ⟨m, rfl⟩ := Int.eq_ofNat_of_zero_le (Int.le_of_lt h0)
  rw [Int.toNat_natCast]
  go_enter Tryd.func40, Tryd.ntmps40
  go_wp2_with (go_at_call 41; refine (rot_any _ _ (by omega) (by omega) _).mono ?_; rintro e w' ⟨rfl, rfl⟩)
  go_ret
  exact ⟨rfl, rfl⟩
set_option maxHeartbeats 400000 in
theorem chosen_any (x y z : BitVec 32) (w : World) :
    Calls Tryd.prog 35 #[.int .u32 (n32 x), .int .u32 (n32 y), .int .u32 (n32 z)] w fun e w' => e = .returned (.int .u32 (n32 (ch x y z))) ∧ w' = w := by
  have hu : IntKind.u32.signed = false := rfl
  go_enter Tryd.func35, Tryd.ntmps35
  go_wp2
  go_ret
  simp only [bits_and, bits_xor, bits_not]
  exact ⟨rfl, trivial⟩
set_option maxHeartbeats 400000 in
theorem maj_any (x y z : BitVec 32) (w : World) :
    Calls Tryd.prog 37 #[.int .u32 (n32 x), .int .u32 (n32 y), .int .u32 (n32 z)] w fun e w' => e = .returned (.int .u32 (n32 (maj x y z))) ∧ w' = w := by
  go_enter Tryd.func37, Tryd.ntmps37
  go_wp2
  go_ret
  simp only [bits_and, bits_xor]
  exact ⟨rfl, trivial⟩
set_option maxHeartbeats 400000 in
theorem hs1_any (x : BitVec 32) (w : World) :
    Calls Tryd.prog 34 #[.int .u32 (n32 x)] w fun e w' => e = .returned (.int .u32 (n32 (S1 x))) ∧ w' = w := by
  go_enter Tryd.func34, Tryd.ntmps34
  go_wp2_with (go_at_call 40; refine (right_any _ _ (by omega) (by omega) _).mono ?_; rintro e w' ⟨rfl, rfl⟩)
  go_ret
  simp only [bits_xor]
  exact ⟨rfl, trivial⟩
set_option maxHeartbeats 400000 in
theorem hs0_any (x : BitVec 32) (w : World) :
    Calls Tryd.prog 36 #[.int .u32 (n32 x)] w fun e w' => e = .returned (.int .u32 (n32 (S0 x))) ∧ w' = w := by
  go_enter Tryd.func36, Tryd.ntmps36
  go_wp2_with (go_at_call 40; refine (right_any _ _ (by omega) (by omega) _).mono ?_; rintro e w' ⟨rfl, rfl⟩)
  go_ret
  simp only [bits_xor]
  exact ⟨rfl, trivial⟩
set_option maxHeartbeats 400000 in
theorem ls0_any (x : BitVec 32) (w : World) :
    Calls Tryd.prog 38 #[.int .u32 (n32 x)] w fun e w' => e = .returned (.int .u32 (n32 (s0 x))) ∧ w' = w := by
  go_enter Tryd.func38, Tryd.ntmps38
  go_wp2_with (go_at_call 40; refine (right_any _ _ (by omega) (by omega) _).mono ?_; rintro e w' ⟨rfl, rfl⟩)
  go_ret
  simp only [show (8 : Int) = 2 ^ 3 from rfl, shr_n32, bits_xor]
  exact ⟨rfl, trivial⟩
set_option maxHeartbeats 400000 in
theorem ls1_any (x : BitVec 32) (w : World) :
    Calls Tryd.prog 39 #[.int .u32 (n32 x)] w fun e w' => e = .returned (.int .u32 (n32 (s1 x))) ∧ w' = w := by
  go_enter Tryd.func39, Tryd.ntmps39
  go_wp2_with (go_at_call 40; refine (right_any _ _ (by omega) (by omega) _).mono ?_; rintro e w' ⟨rfl, rfl⟩)
  go_ret
  simp only [show (1024 : Int) = 2 ^ 10 from rfl, shr_n32, bits_xor]
  exact ⟨rfl, trivial⟩
end Go.Proofs.YtpnhklefoafgkaaDoor
