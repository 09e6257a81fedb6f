/-
  THE WALK OF stemmalaw03.ColumnTruths.
-/
import Derived.Test.YtjmflggnnchojaaRefFlags
namespace Go.Proofs.Ytjmflggnnchojaa
open Go.RowKit Leb
theorem BoolsAt.after {w W : World} {ao : Option Addr} {l : List Bool} (h : BoolsAt w ao l) (hA : After w W) : BoolsAt W ao l := fun hne => by
  obtain ⟨b, o, rfl, hc⟩ := h hne
  exact ⟨b, o, rfl, fun j hj => by rw [Below.cell hA (p := ⟨b, o + j, none⟩) (block_lt_of_cell (hc j hj))]; exact hc j hj⟩
set_option maxRecDepth 100000 in
set_option maxHeartbeats 1600000 in
theorem truths_any (ao : Option Addr) (cap : Nat) (bs : List UInt8) (hcap : bs.length ≤ cap) (hbig : cap ≤ 140737488351232) (most : Int) (hm0 : -9223372036854775808 ≤ most) (hm1 : most ≤ 9223372036854775807) (w : World) (hat : BytesAt w ao bs) :
    Calls Try.prog 6 #[.slice ao bs.length cap, .int .i64 most] w fun e w' => e = .returned (.bool true) ∧ Below w.heap.size w w' := by
  have HAT : Hid (BytesAt w ao bs) := hat
  have hz : ao = none → bs.length = 0 := fun h => by subst h; rw [bytesAt_none hat]; rfl
  have hn := getF_most bs most
  obtain ⟨G, hG⟩ : ∃ G, getF bs most = G := ⟨_, rfl⟩
  have C18 : Hid (∀ W, BytesAt W ao bs → Calls Try.prog 18 #[.slice ao bs.length cap, .int .i64 most] W fun x w' => GPostB W G x w') := fun W h => by
    have := getFlags_any ao cap bs (by omega) most hm0 hm1 W h
    rwa [hG] at this
  have C24 : Hid (∀ W, BytesAt W ao bs → Calls Try.prog 24 #[.slice ao bs.length cap, .int .i64 most] W fun x w' => GPostB W G x w') := fun W h => by
    have := refFlags_any ao cap bs hcap hz (by omega) most hm0 hm1 W h
    rwa [hG] at this
  rw [hG] at hn
  obtain ⟨l, u, e⟩ := G
  replace hn : l.length ≤ 65536 := hn
  clear hG hat hz
  go_enter Try.func6, Try.ntmps6
  go_wp2_with (first
    | (go_at_call 18; refine (C18.out _ HAT.out).mono ?_; rintro x w2 ⟨v2, rfl, ho2, hb2⟩; obtain ⟨a2, c2, rfl, hI2, hc2, hl2⟩ := OwnB.at ho2; have HI2 : Hid (BoolsAt w2 a2 l) := hI2; have B2 : Hid (After w w2) := hb2; clear ho2 hb2 hI2 hc2 hl2)
    | (go_at_call 24; refine (C24.out _ (HAT.out.after B2.out)).mono ?_; rintro x w3 ⟨v3, rfl, ho3, hb3⟩; obtain ⟨a3, c3, rfl, hI3, hc3, hl3⟩ := OwnB.at ho3; have HI3 : Hid (BoolsAt w3 a3 l) := hI3; have B3 : Hid (After w w3) := After.trans B2.out hb3; have HI23 : Hid (BoolsAt w3 a2 l) := HI2.out.after hb3; clear ho3 hb3 hI3 hc3 hl3)
    | (go_at_call 19; refine (alike_any a2 a3 c2 c3 l l (by omega) w3 HI23.out HI3.out).mono ?_; rintro x w6 ⟨rfl, hb6⟩; have B6 : Hid (After w w6) := After.trans B3.out hb6; clear hb6; simp only [decide_true])
    | (go_at_call 15; refine (awake_any _).mono ?_; rintro x w8 ⟨rfl, hb8⟩; have B8 : Hid (After w w8) := After.trans B6.out hb8))
  go_ret
  exact ⟨rfl, B8.out⟩
end Go.Proofs.Ytjmflggnnchojaa
