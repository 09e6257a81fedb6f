/-
  THE WALK OF frame.sumOf.
-/
import Derived.Test.YtjmjianilcdphaaCrc
namespace Leb
/-- The four bytes of a word, the lowest first. -/
def le4 (x : BitVec 32) : List UInt8 := [UInt8.ofNat (x.toNat % 256), UInt8.ofNat (x.toNat / 256 % 256), UInt8.ofNat (x.toNat / 65536 % 256), UInt8.ofNat (x.toNat / 16777216 % 256)]
theorem le4_len (x : BitVec 32) : (le4 x).length = 4 := rfl
theorem ofNat_mod (n : Nat) : ((UInt8.ofNat (n % 256)).toNat : Int) = (n : Int) % 256 := by
  simp [UInt8.toNat_ofNat']
end Leb
namespace Go.Proofs.Ytjmjianilcdphaa
open Go.RowKit Leb
theorem le4_cells (x : BitVec 32) : (c8 (le4 x)).toArray = #[.int .u8 (n32 x % 256), .int .u8 (n32 x / 256 % 256), .int .u8 (n32 x / 65536 % 256), .int .u8 (n32 x / 16777216 % 256)] := by
  unfold c8 le4 n32
  simp only [List.map_cons, List.map_nil, ofNat_mod]
  rfl
set_option maxRecDepth 100000 in
set_option maxHeartbeats 800000 in
theorem sumOf_any (ao : Option Addr) (cap : Nat) (bs : List UInt8) (hbig : bs.length ≤ 140737488355328) (w : World) (hat : BytesAt w ao bs) :
    Calls Try.prog 29 #[.slice ao bs.length cap] w fun e w' => e = .returned (.agg (c8 (le4 (crc bs))).toArray) ∧ After w w' := by
  have HAT : Hid (BytesAt w ao bs) := hat
  have HL := show Hid _ from le4_cells (crc bs)
  have h0 := n32_lo (crc bs)
  obtain ⟨x, hx⟩ : ∃ x, crc bs = x := ⟨_, rfl⟩
  rw [hx] at h0 HL ⊢
  rw [HL.out]
  have HX : Hid (crc bs = x) := hx
  clear hat hx HL
  go_enter Try.func29, Try.ntmps29
  go_wp2_with (go_at_call 11; refine (crc_any ao cap bs hbig _ (HAT.out.after (after_alloc (After.refl w) _))).mono ?_; rintro e w' ⟨rfl, rfl⟩; rw [HX.out])
  exact bodyPost_ret (v := .agg #[.int .u8 (n32 x % 256), .int .u8 (n32 x / 256 % 256), .int .u8 (n32 x / 65536 % 256), .int .u8 (n32 x / 16777216 % 256)]) (by simp [results, Try.results29, go_sem]) rfl ⟨rfl, after_alloc (After.refl w) _⟩
end Go.Proofs.Ytjmjianilcdphaa
