/-
  THE WALK OF stemmalaw02.LebGets.
-/
import Derived.Test.YtfeepebiahekkaaRefInt
namespace Go.Proofs.Ytfeepebiahekkaa
open Go.RowKit Leb
set_option maxRecDepth 100000 in
set_option maxHeartbeats 400000 in
theorem gets_any (ao : Option Addr) (cap : Nat) (bs : List UInt8) (hcap : bs.length ≤ cap) (_hbig : cap ≤ 140737488351232) (w : World) (hat : BytesAt w ao bs) :
    Calls Try.prog 4 #[.slice ao bs.length cap] w fun e w' => e = .returned (.bool true) ∧ Below w.heap.size w w' := by
  have HAT : Hid (BytesAt w ao bs) := hat
  clear hat
  go_enter Try.func4, Try.ntmps4
  go_wp2_with (first
    | (go_at_call 18; refine (getUint_any ao cap bs hcap _ HAT.out).mono ?_; rintro e w1 ⟨rfl, hb1⟩)
    | (go_at_call 19; refine (rgetUint_any ao cap bs hcap _ (HAT.out.after hb1)).mono ?_; rintro e w2 ⟨rfl, hb2⟩; have B2 : After w w2 := After.trans hb1 hb2)
    | (go_at_call 20; refine (getInt_any ao cap bs hcap _ (HAT.out.after B2)).mono ?_; rintro e w3 ⟨rfl, hb3⟩; have B3 : After w w3 := After.trans B2 hb3)
    | (go_at_call 21; refine (rgetInt_any ao cap bs hcap _ (HAT.out.after B3)).mono ?_; rintro e w4 ⟨rfl, hb4⟩; have B4 : After w w4 := After.trans B3 hb4)
    | (go_at_call 17; refine (awake_any _).mono ?_; rintro e w5 ⟨rfl, hb5⟩; have B5 : After w w5 := After.trans B4 hb5))
  go_ret
  exact ⟨rfl, B5⟩
end Go.Proofs.Ytfeepebiahekkaa
