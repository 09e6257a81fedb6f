/-
  THE WALK OF stemmalaw06.HashesNames.
-/
import Derived.Test.YtedghldjpkabmaaAwake
namespace Go.Proofs.Ytedghldjpkabmaa
open Go.RowKit
set_option maxRecDepth 100000 in
set_option maxHeartbeats 1600000 in
theorem names_any (s : ByteArray) (w : World) (hs : s.size ≤ maxLen) : Calls Try.prog 7 #[.string s] w fun e w' => e = .returned (.bool true) ∧ After w w' := by
  have HC1 := show Hid _ from name_one s w hs
  have HC2 := show Hid _ from refName_one s w hs
  generalize nmB s.data.toList = b at HC1 HC2
  clear hs
  have hbb : (b == b) = true := by simp
  go_enter Try.func7, Try.ntmps7
  go_wp2_with (first
    | (go_at_call 32; refine Calls.mono HC1.out ?_; rintro e w1 ⟨rfl, hw1⟩; subst hw1)
    | (go_at_call 33; refine Calls.mono HC2.out ?_; rintro e w1 ⟨rfl, hw1⟩; subst hw1)
    | (go_at_call 11; refine Calls.mono (awake_any _) ?_; rintro e w2 ⟨rfl, ha2⟩; have HA2 := show Hid (After _ w2) from ha2; clear ha2))
  go_ret
  exact ⟨rfl, HA2.out⟩
end Go.Proofs.Ytedghldjpkabmaa
