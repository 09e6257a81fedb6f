/-
  THE WALK OF stemmalaw04.FrameScans.
-/
import Derived.Test.YtjmjianilcdphaaSame
namespace Go.Proofs.Ytjmjianilcdphaa
open Go.RowKit Leb
theorem scan_few (bs : List UInt8) : (scan bs).1.length ≤ bs.length := by
  have h : ∀ (f : Nat) (bs : List UInt8), (scF f bs).1.length ≤ bs.length := by
    intro f
    induction f with
    | zero => intro bs; simp [scF]
    | succ f ih =>
      intro bs
      unfold scF
      split
      · simp
      · split
        · rename_i h0
          have hu := opUsed_pos bs h0
          have := ih (bs.drop (opUsed bs))
          rw [List.length_drop] at this
          simp only [List.length_cons]
          omega
        · simp
  exact h _ bs
set_option maxRecDepth 100000 in
set_option maxHeartbeats 800000 in
theorem scans_any (ao : Option Addr) (cap : Nat) (bs : List UInt8) (hcap : bs.length ≤ cap) (hbig : bs.length ≤ 1048575) (w : World) (hat : BytesAt w ao bs) :
    Calls Try.prog 5 #[.slice ao bs.length cap] w fun e w' => e = .returned (.bool true) ∧ Below w.heap.size w w' := by
  have hz : ao = none → bs.length = 0 := fun h => by subst h; rw [bytesAt_none hat]; rfl
  have C16 := show Hid _ from scan_any ao cap bs hcap hbig w hat hz
  have C17 := show Hid _ from fun W (hW : After w W) => rscan_any ao cap bs hcap hbig W (hat.after hW) hz
  have hfew := scan_few bs
  unfold SPost at C16 C17
  obtain ⟨R, hR⟩ : ∃ R, scan bs = R := ⟨_, rfl⟩
  rw [hR] at C16 C17 hfew
  obtain ⟨F, U, E⟩ := R
  simp only at C16 C17 hfew
  obtain ⟨n, hn⟩ : ∃ n, bs.length = n := ⟨_, rfl⟩
  rw [hn] at C16 C17 hfew hbig ⊢
  have C18 := show Hid _ from fun a1 a2 c1 c2 => same_any a1 a2 c1 c2 F (by omega)
  obtain ⟨L, hL⟩ : ∃ L, F.length = L := ⟨_, rfl⟩
  rw [hL] at C18
  have HL : Hid (F.length = L) := hL
  clear hat hn hR hcap hz hfew hL
  go_enter Try.func5, Try.ntmps5
  go_wp2_with (first
    | (go_at_call 16; refine Calls.mono C16.out ?_; rintro e w1 ⟨v1, rfl, ho1, hb1⟩; obtain ⟨a1, c1, hv1, hf1⟩ := OwnF.at ho1; rw [HL.out] at hv1; subst hv1; have HF1 : Hid (FramesAt w1 a1 F) := hf1; have B1 : Hid (After w w1) := hb1; clear ho1 hb1 hf1)
    | (go_at_call 17; refine (C17.out w1 B1.out).mono ?_; rintro e w2 ⟨v2, rfl, ho2, hb2⟩; obtain ⟨a2, c2, hv2, hf2⟩ := OwnF.at ho2; rw [HL.out] at hv2; subst hv2; have HF2 : Hid (FramesAt w2 a2 F) := hf2; have HF1' : Hid (FramesAt w2 a1 F) := HF1.out.after hb2; have B2 : Hid (After w w2) := After.trans B1.out hb2; clear ho2 hb2 hf2)
    | (go_at_call 18; refine (C18.out a1 a2 c1 c2 w2 HF1'.out HF2.out).mono ?_; rintro e w3 ⟨rfl, hb3⟩; have B3 : Hid (After w w3) := After.trans B2.out hb3; clear hb3)
    | (go_at_call 13; refine (awake_any _).mono ?_; rintro e w4 ⟨rfl, hb4⟩; have B4 : Hid (After w w4) := After.trans B3.out hb4; clear hb4))
  go_ret
  exact ⟨rfl, B4.out⟩
end Go.Proofs.Ytjmjianilcdphaa
