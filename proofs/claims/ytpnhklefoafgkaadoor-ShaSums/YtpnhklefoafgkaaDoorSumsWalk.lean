/-
  THE WALK OF stemmalaw01.ShaSums.
-/
import Derived.Test.YtpnhklefoafgkaaDoorRefSum
namespace Go.Proofs.YtpnhklefoafgkaaDoor
open Go.RowKit Sha
set_option maxRecDepth 100000 in
set_option maxHeartbeats 800000 in
theorem sums_any (ao : Option Addr) (bs : List UInt8) (cap : Nat) (w : World) (ht : Tab w) (hcap : bs.length ≤ cap) (hcap2 : cap ≤ 140737488351232) (hb : BytesAt w ao bs) :
    Calls Tryd.prog 3 #[.slice ao bs.length cap] w fun e w' => e = .returned (.bool true) ∧ Below w.heap.size w w' := by
  have HT : Hid (Tab w) := ht
  have HB : Hid (BytesAt w ao bs) := hb
  have heq : ∀ W : World, (Op.equalIn 10000 24 (.agg (c8 (sumP bs)).toArray) (.agg (c8 (sumP bs)).toArray)).run Tryd.prog W = .ok true W := fun W => by
    have := eq24 (sumP bs) (sumP bs) (sumP_len _) (sumP_len _) W
    rw [decide_eq_true rfl] at this
    exact this
  clear ht hb
  go_enter Tryd.func3, Tryd.ntmps3
  go_wp2_with (first
    | (at_builtin; refine wpList_append_any rfl (.tmp 4) (.tmp 5) rfl w.heap.size _ [] rfl (Own.fresh w) ao cap bs bs.length rfl rfl (HB.out.after (after_alloc (After.refl w) _)) (by simp; omega) (by simp) ?_; intro v1 w1 ho1 hg1; rw [List.nil_append] at ho1; have B1 : After w w1 := after_grown (after_alloc (After.refl w) _) hg1 (Nat.le_refl _) (fun k hk => (World.ownsRow.lt (Own.fresh w) k hk).1); obtain ⟨a1, c1, rfl, hat1, hc1, hl1⟩ := ho1.at; have HA1 : Hid (BytesAt w1 a1 bs) := hat1; have HL1 : Hid (∀ a, a1 = some a → w.heap.size ≤ a.block ∧ a.block < w1.heap.size) := hl1; clear ho1 hg1 hat1 hl1)
    | (go_at_call 10; refine (sum_any a1 bs bs.length c1 rfl hc1 _ (HT.out.below B1 HT.out.1) HA1.out (fun _ b o he => (HL1.out _ he).2) (by omega)).mono ?_; rintro e w2 ⟨rfl, hb2⟩; have B2 : After w w2 := After.trans B1 hb2)
    | (go_at_call 11; refine (refSum_any ao cap bs (by omega) _ (HB.out.after B2)).mono ?_; rintro e w3 ⟨rfl, hb3⟩; have B3 : After w w3 := After.trans B2 hb3; have cv1 := conv_at c1 (HA1.out.after (After.trans hb2 hb3)); have cv2 := conv_at cap (HB.out.after B3))
    | (go_at_call 12; refine (awake_any _ (HT.out.below B3 HT.out.1)).mono ?_; rintro e w4 ⟨rfl, hb4⟩; have B4 : After w w4 := After.trans B3 hb4))
  go_ret
  exact ⟨rfl, B4⟩
end Go.Proofs.YtpnhklefoafgkaaDoor
