/-
  THE WALK OF stemmalaw03.ColumnGets.
-/
import Derived.Test.YtjmflggnnchojaaRefDeltas
namespace Go.Proofs.Ytjmflggnnchojaa
open Go.RowKit Leb
set_option maxRecDepth 100000 in
set_option maxHeartbeats 1600000 in
theorem gets_any (ao : Option Addr) (cap : Nat) (bs : List UInt8) (hcap : bs.length ≤ cap) (hbig : cap ≤ 140737488351232) (most : Int) (hm0 : -9223372036854775808 ≤ most) (hm1 : most ≤ 9223372036854775807) (w : World) (hat : BytesAt w ao bs) :
    Calls Try.prog 5 #[.slice ao bs.length cap, .int .i64 most] w fun e w' => e = .returned (.bool true) ∧ Below w.heap.size w w' := by
  have HAT : Hid (BytesAt w ao bs) := hat
  have hz : ao = none → bs.length = 0 := fun h => by subst h; rw [bytesAt_none hat]; rfl
  have hn := getR_most bs most
  obtain ⟨G, hG⟩ : ∃ G, getR bs most = G := ⟨_, rfl⟩
  have C20 : Hid (∀ a c W, BytesAt W a bs → Calls Try.prog 20 #[.slice a bs.length c, .int .i64 most] W fun x w' => GPost W G x w') := fun a c W h => by
    have := getRuns_any a c bs (by omega) most hm0 hm1 W h
    rwa [hG] at this
  have C21 : Hid (∀ W, BytesAt W ao bs → Calls Try.prog 21 #[.slice ao bs.length cap, .int .i64 most] W fun x w' => GPost W G x w') := fun W h => by
    have := refRuns_any ao cap bs hcap hz (by omega) most hm0 hm1 W h
    rwa [hG] at this
  have C22 : Hid (∀ a c W, BytesAt W a bs → Calls Try.prog 22 #[.slice a bs.length c, .int .i64 most] W fun x w' => GPost W (dsums G.1, G.2) x w') := fun a c W h => by
    have := getDeltas_any a c bs (by omega) most hm0 hm1 W h
    rwa [hG] at this
  have C23 : Hid (∀ W, BytesAt W ao bs → Calls Try.prog 23 #[.slice ao bs.length cap, .int .i64 most] W fun x w' => GPost W (dsums G.1, G.2) x w') := fun W h => by
    have := refDeltas_any ao cap bs hcap hz (by omega) most hm0 hm1 W h
    rwa [hG] at this
  rw [hG] at hn
  obtain ⟨l, u, e⟩ := G
  replace hn : l.length ≤ 65536 := hn
  obtain ⟨D, hD⟩ : ∃ D, dsums l = D := ⟨_, rfl⟩
  have hDn : D.length ≤ 65536 := by rw [← hD]; simpa [dsums] using hn
  simp only [hD] at C22 C23
  clear hG hD hat hz
  go_enter Try.func5, Try.ntmps5
  go_wp2_with (first
    | (at_builtin; refine wpList_append_any rfl (.tmp 18) (.tmp 19) rfl w.heap.size _ [] rfl (Own.fresh w) ao cap bs bs.length rfl rfl (HAT.out.after (after_alloc (After.refl w) _)) (by simp; omega) (by simp) ?_; intro v1 w1 ho1 hg1; rw [List.nil_append] at ho1; have B1 : Hid (After w w1) := after_grown (after_alloc (After.refl w) _) hg1 (Nat.le_refl _) (fun k hk => (World.ownsRow.lt (Own.fresh w) k hk).1); obtain ⟨a1, c1, rfl, hat1, hc1, hl1⟩ := ho1.at; have HA1 : Hid (BytesAt w1 a1 bs) := hat1; clear ho1 hg1 hat1 hl1)
    | (go_at_call 20; refine (C20.out a1 c1 _ HA1.out).mono ?_; rintro x w2 ⟨v2, rfl, ho2, hb2⟩; obtain ⟨a2, c2, rfl, hI2, hc2, hl2⟩ := OwnI.at ho2; have HI2 : Hid (IntsAt w2 a2 l) := hI2; have B2 : Hid (After w w2) := After.trans B1.out hb2; have HA2 : Hid (BytesAt w2 a1 bs) := HA1.out.after hb2; clear ho2 hb2 hI2 hc2 hl2)
    | (go_at_call 21; refine (C21.out _ (HAT.out.after B2.out)).mono ?_; rintro x w3 ⟨v3, rfl, ho3, hb3⟩; obtain ⟨a3, c3, rfl, hI3, hc3, hl3⟩ := OwnI.at ho3; have HI3 : Hid (IntsAt w3 a3 l) := hI3; have B3 : Hid (After w w3) := After.trans B2.out hb3; have HA3 : Hid (BytesAt w3 a1 bs) := HA2.out.after hb3; have HI23 : Hid (IntsAt w3 a2 l) := HI2.out.after hb3; clear ho3 hb3 hI3 hc3 hl3)
    | (go_at_call 22; refine (C22.out a1 c1 _ HA3.out).mono ?_; rintro x w4 ⟨v4, rfl, ho4, hb4⟩; obtain ⟨a4, c4, rfl, hI4, hc4, hl4⟩ := OwnI.at ho4; have HI4 : Hid (IntsAt w4 a4 D) := hI4; have B4 : Hid (After w w4) := After.trans B3.out hb4; have HA4 : Hid (BytesAt w4 a1 bs) := HA3.out.after hb4; have HI24 : Hid (IntsAt w4 a2 l) := HI23.out.after hb4; have HI34 : Hid (IntsAt w4 a3 l) := HI3.out.after hb4; clear ho4 hb4 hI4 hc4 hl4)
    | (go_at_call 23; refine (C23.out _ (HAT.out.after B4.out)).mono ?_; rintro x w5 ⟨v5, rfl, ho5, hb5⟩; obtain ⟨a5, c5, rfl, hI5, hc5, hl5⟩ := OwnI.at ho5; have HI5 : Hid (IntsAt w5 a5 D) := hI5; have B5 : Hid (After w w5) := After.trans B4.out hb5; have HA5 : Hid (BytesAt w5 a1 bs) := HA4.out.after hb5; have HI25 : Hid (IntsAt w5 a2 l) := HI24.out.after hb5; have HI35 : Hid (IntsAt w5 a3 l) := HI34.out.after hb5; have HI45 : Hid (IntsAt w5 a4 D) := HI4.out.after hb5; clear ho5 hb5 hI5 hc5 hl5)
    | (go_at_call 14; have _u := HI46.out; clear _u; refine (same_any a4 a5 c4 c5 D D (by omega) w6 HI46.out HI56.out).mono ?_; rintro x w7 ⟨rfl, hb7⟩; have B7 : Hid (After w w7) := After.trans B6.out hb7; have hcv1 := conv_at c1 (HA6.out.after hb7); have hcv2 := conv_at cap (HAT.out.after B7.out); clear hb7; simp only [decide_true])
    | (go_at_call 14; refine (same_any a2 a3 c2 c3 l l (by omega) w5 HI25.out HI35.out).mono ?_; rintro x w6 ⟨rfl, hb6⟩; have B6 : Hid (After w w6) := After.trans B5.out hb6; have HA6 : Hid (BytesAt w6 a1 bs) := HA5.out.after hb6; have HI46 : Hid (IntsAt w6 a4 D) := HI45.out.after hb6; have HI56 : Hid (IntsAt w6 a5 D) := HI5.out.after hb6; clear hb6; simp only [decide_true])
    | (go_at_call 15; refine (awake_any _).mono ?_; rintro x w8 ⟨rfl, hb8⟩; have B8 : Hid (After w w8) := After.trans B7.out hb8))
  go_ret
  exact ⟨rfl, B8.out⟩
end Go.Proofs.Ytjmflggnnchojaa
