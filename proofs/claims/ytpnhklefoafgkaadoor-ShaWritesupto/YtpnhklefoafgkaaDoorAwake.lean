/-
  THE WALK OF stemmalaw01.awake: the sum of 'abc', in digits, by the kernel's own reckoning.
-/
import Derived.Test.YtpnhklefoafgkaaDoorHex
import Derived.Lib.SlBytesConst
namespace Go.Proofs.YtpnhklefoafgkaaDoor
open Go.RowKit Sha
def abc : List UInt8 := [97, 98, 99]
set_option maxRecDepth 100000 in
theorem abc_hex : hexTo (sumP abc) 32 = [98, 97, 55, 56, 49, 54, 98, 102, 56, 102, 48, 49, 99, 102, 101, 97, 52, 49, 52, 49, 52, 48, 100, 101, 53, 100, 97, 101, 50, 50, 50, 51, 98, 48, 48, 51, 54, 49, 97, 51, 57, 54, 49, 55, 55, 97, 57, 99, 98, 52, 49, 48, 102, 102, 54, 49, 102, 50, 48, 48, 49, 53, 97, 100] := by decide +kernel
theorem abc_str : strOf (hexTo (sumP abc) 32) = ⟨#[98, 97, 55, 56, 49, 54, 98, 102, 56, 102, 48, 49, 99, 102, 101, 97, 52, 49, 52, 49, 52, 48, 100, 101, 53, 100, 97, 101, 50, 50, 50, 51, 98, 48, 48, 51, 54, 49, 97, 51, 57, 54, 49, 55, 55, 97, 57, 99, 98, 52, 49, 48, 102, 102, 54, 49, 102, 50, 48, 48, 49, 53, 97, 100]⟩ := by rw [abc_hex]; rfl
theorem abc_at (w : World) : BytesAt (w.alloc (.cells #[.int .u8 97, .int .u8 98, .int .u8 99] 5 (3, 4))) (some ⟨w.heap.size, 0, none⟩) abc :=
  fun _ => ⟨_, _, rfl, fun j hj => by
    rw [Nat.zero_add, World.cell?_alloc_mark]
    match j, hj with
    | 0, _ => rfl
    | 1, _ => rfl
    | 2, _ => rfl⟩
set_option maxRecDepth 100000 in
set_option maxHeartbeats 400000 in
theorem awake_any (w : World) (ht : Tab w) : Calls Tryd.prog 12 #[] w fun e w' => e = .returned (.bool true) ∧ Below w.heap.size w w' := by
  have HT : Hid (Tab w) := ht
  have kc := fun (w : World) (C : Array Value) (n c : Nat) => Lib.run_convert_bytes_const (P := Tryd.prog) w 22 5 C n c Tryd.underlying22 Tryd.underlying5
  have hs := abc_str
  clear ht
  go_enter Tryd.func12, Tryd.ntmps12
  go_wp2_with (first
    | (go_at_call 10; refine (sum_any _ abc 3 3 rfl (Nat.le_refl _) _ ?_ ?_ ?_ (by decide)).mono ?_; exact (HT.out.below ((Below.refl _ _).alloc (Nat.le_refl _) _) HT.out.1); exact abc_at w; (intro _ b o he; cases he; simp); rintro e w1 ⟨rfl, hb1⟩; clear kc)
    | (go_at_call 19; refine (hex_any (sumP abc) (sumP_len _) _).mono ?_; rintro e w2 ⟨rfl, hb2⟩))
  go_ret
  refine ⟨rfl, ?_⟩
  have h0 := (Below.refl w.heap.size w).alloc (Nat.le_refl _) (.cells #[.int .u8 97, .int .u8 98, .int .u8 99] 5 (3, 4))
  have h1 := h0.trans (hb1.mono (by simp))
  exact h1.trans (hb2.mono h1.size)
end Go.Proofs.YtpnhklefoafgkaaDoor
