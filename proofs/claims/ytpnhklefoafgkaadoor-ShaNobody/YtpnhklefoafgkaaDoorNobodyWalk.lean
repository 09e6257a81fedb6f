/-
  THE WALK OF stemmalaw01.ShaNobody.
-/
import Derived.Test.YtpnhklefoafgkaaDoorSame
namespace Go.Proofs.YtpnhklefoafgkaaDoor
open Go.RowKit Sha
def zeroHash : List UInt8 := List.replicate 32 0
theorem hsum_nilz (w : World) : Calls Tryd.prog 15 #[.pointer none] w fun e w' => e = .returned (.agg (c8 zeroHash).toArray) ∧ Below w.heap.size w w' := hsum_nil w
set_option maxRecDepth 100000 in
set_option maxHeartbeats 400000 in
theorem nobody_any (ao : Option Addr) (len cap : Nat) (w : World) (ht : Tab w) :
    Calls Tryd.prog 9 #[.slice ao len cap] w fun e w' => e = .returned (.bool true) ∧ Below w.heap.size w w' := by
  have heq : ∀ W : World, (Op.equalIn 10000 24 (.agg (c8 zeroHash).toArray) (.agg (c8 zeroHash).toArray)).run Tryd.prog W = .ok true W := fun W => by
    rw [eq24 _ _ rfl rfl]; simp
  have HT : Hid (Tab w) := ht
  clear ht
  go_enter Tryd.func9, Tryd.ntmps9
  go_wp2_with (first
    | (go_at_call 14; refine (write_nil _ _ _ _).mono ?_; rintro e w' ⟨rfl, rfl⟩)
    | (go_at_call 15; refine (hsum_nilz _).mono ?_; rintro e w1 ⟨rfl, hb1⟩)
    | (refine wpList_built rfl 24 #[] rfl (c8 zeroHash).toArray (by kernel_rfl) ?_)
    | (go_at_call 16; refine (len_nil _).mono ?_; rintro e w' ⟨rfl, rfl⟩)
    | (go_at_call 12; refine (awake_any _ (HT.out.below hb1 HT.out.1)).mono ?_; rintro e w2 ⟨rfl, hb2⟩))
  go_ret
  exact ⟨rfl, hb1.trans (hb2.mono hb1.size)⟩
end Go.Proofs.YtpnhklefoafgkaaDoor
