/-
  THE WALK OF stemmalaw02.LebTexts.
-/
import Derived.Test.YtfeepebiahekkaaRefText
namespace Go.Proofs.Ytfeepebiahekkaa
open Go.RowKit Leb
set_option maxRecDepth 100000 in
set_option maxHeartbeats 400000 in
theorem texts_any (ao : Option Addr) (cap : Nat) (bs : List UInt8) (most : Int) (hcap : bs.length ≤ cap) (hbig : cap ≤ 140737488351232) (hm0 : -9223372036854775808 ≤ most) (hm1 : most ≤ 9223372036854775807) (w : World) (hat : BytesAt w ao bs) :
    Calls Try.prog 5 #[.slice ao bs.length cap, .int .i64 most] w fun e w' => e = .returned (.bool true) ∧ Below w.heap.size w w' := by
  have HAT : Hid (BytesAt w ao bs) := hat
  clear hat
  go_enter Try.func5, Try.ntmps5
  go_wp2_with (first
    | (at_builtin; refine wpList_append_any rfl (.tmp 12) (.tmp 13) rfl w.heap.size _ [] rfl (Own.fresh w) ao cap bs bs.length rfl rfl (HAT.out.after (after_alloc (After.refl w) _)) (by simp; omega) (by simp) ?_; intro v1 w1 ho1 hg1; rw [List.nil_append] at ho1; have b1 : After w w1 := after_grown (after_alloc (After.refl w) _) hg1 (Nat.le_refl _) (fun k hk => (World.ownsRow.lt (Own.fresh w) k hk).1); obtain ⟨a1, c1, rfl, hat1, hc1⟩ := ho1.sl bs.length rfl; clear ho1 hg1)
    | (go_at_call 22; refine (getText_any a1 c1 bs most hc1 (by omega) hm0 hm1 _ hat1).mono ?_; rintro e w2 ⟨rfl, hb2⟩; have B2 : After w w2 := After.trans b1 hb2; replace hat1 := hat1.after hb2)
    | (go_at_call 23; refine (rgetText_any ao cap bs most hcap (by omega) hm0 hm1 _ (HAT.out.after B2)).mono ?_; rintro e w3 ⟨rfl, hb3⟩; have B3 : After w w3 := After.trans B2 hb3; have cv1 := conv_at c1 (hat1.after hb3); have cv2 := conv_at cap (HAT.out.after B3))
    | (go_at_call 17; refine (awake_any _).mono ?_; rintro e w5 ⟨rfl, hb5⟩; have B5 : After w w5 := After.trans B3 hb5))
  go_ret
  exact ⟨rfl, B5⟩
end Go.Proofs.Ytfeepebiahekkaa
