/-
  THE WALK OF stemmalaw04.FrameSeals.
-/
import Derived.Test.YtjmjianilcdphaaAwake
namespace Go.Proofs.Ytjmjianilcdphaa
open Go.RowKit Leb
set_option maxRecDepth 100000 in
set_option maxHeartbeats 800000 in
theorem seals_any (k : UInt8) (ao : Option Addr) (cap : Nat) (bs : List UInt8) (hbig : bs.length ≤ 140737488355328) (w : World) (hat : BytesAt w ao bs) :
    Calls Try.prog 3 #[.int .u8 (k.toNat : Int), .slice ao bs.length cap] w fun e w' => e = .returned (.bool true) ∧ Below w.heap.size w w' := by
  have C9 := show Hid _ from fun a c W h => seal_any k a c bs hbig W h
  have C10 := show Hid _ from fun W h => rseal_any k ao cap bs hbig W h
  have C11 := show Hid _ from fun a c W h => crc_any a c bs hbig W h
  have C12 := show Hid _ from fun W h => rcrc_any ao cap bs hbig W h
  have HV := show Hid _ from fun a c W (h : BytesAt W a bs) => conv_at c h
  have HAT : Hid (BytesAt w ao bs) := hat
  obtain ⟨R, hR⟩ : ∃ R, sealB k bs = R := ⟨_, rfl⟩
  obtain ⟨E, hE⟩ : ∃ E, sealE k bs = E := ⟨_, rfl⟩
  obtain ⟨x, hx⟩ : ∃ x, crc bs = x := ⟨_, rfl⟩
  obtain ⟨n, hn⟩ : ∃ n, bs.length = n := ⟨_, rfl⟩
  rw [hR, hE, hn] at C9 C10
  rw [hx, hn] at C11 C12
  rw [hn] at hbig HV ⊢
  have HN : Hid (bs.length = n) := hn
  obtain ⟨kk, hkk⟩ : ∃ kk : Int, (k.toNat : Int) = kk := ⟨_, rfl⟩
  simp only [hkk] at C9 C10 ⊢
  clear hat hR hE hx hn hkk
  go_enter Try.func3, Try.ntmps3
  go_wp2_with (first
    | (at_builtin; refine wpList_append_any rfl _ _ rfl w.heap.size _ [] rfl (Own.fresh w) ao cap bs n HN.out rfl (HAT.out.after (after_alloc (After.refl w) _)) (by have := HN.out; simp; omega) (by simp) ?_; intro v1 w1 ho1 hg1; rw [List.nil_append] at ho1; have B1 : Hid (After w w1) := after_grown (after_alloc (After.refl w) _) hg1 (Nat.le_refl _) (fun k hk => (World.ownsRow.lt (Own.fresh w) k hk).1); obtain ⟨a1, c1, hv1, hat1, _, _⟩ := Own.at ho1; rw [HN.out] at hv1; subst hv1; have HT1 : Hid (BytesAt w1 a1 bs) := hat1; clear ho1 hg1 hat1)
    | (go_at_call 9; refine (C9.out a1 c1 w1 HT1.out).mono ?_; rintro e w2 ⟨v2, rfl, ho2, hb2⟩; obtain ⟨a2, c2, hv2, hat2, _, _⟩ := Own.at ho2; have HO2 : Hid (Own w2 w1.heap.size v2 R) := ho2; have B2 : Hid (After w1 w2) := hb2; clear ho2 hb2 hat2 hv2)
    | (go_at_call 10; refine (C10.out w2 (HAT.out.after (After.trans B1.out B2.out))).mono ?_; rintro e w3 ⟨v3, rfl, ho3, hb3⟩; have B3 : Hid (After w w3) := After.trans (After.trans B1.out B2.out) hb3; have q1 := (Own.below HO2.out hb3 (Nat.le_refl _)).conv; have q2 := ho3.conv; have q3 := HV.out a1 c1 w3 (HT1.out.after (After.trans B2.out hb3)); have q4 := HV.out ao cap w3 (HAT.out.after B3.out); have HT3 : Hid (BytesAt w3 a1 bs) := HT1.out.after (After.trans B2.out hb3); clear ho3 hb3)
    | (go_at_call 11; refine (C11.out a1 c1 w3 HT3.out).mono ?_; rintro e w4 ⟨rfl, hw4⟩; have hw5 := hw4.symm; clear hw4; subst hw5)
    | (go_at_call 12; refine (C12.out w3 (HAT.out.after B3.out)).mono ?_; rintro e w4 ⟨rfl, hw4⟩; have hw5 := hw4.symm; clear hw4; subst hw5)
    | (go_at_call 13; refine (awake_any _).mono ?_; rintro e w6 ⟨rfl, hb6⟩; have B6 : Hid (After w w6) := After.trans B3.out hb6; clear hb6))
  go_ret
  exact ⟨rfl, B6.out⟩
end Go.Proofs.Ytjmjianilcdphaa
