/-
  THE WALKS OF frame.Crc AND OF ref.Crc.
-/
import Derived.Test.YtjmjianilcdphaaSlices
import Derived.Test.YtjmjianilcdphaaCrcPlain
namespace Go.Proofs.Ytjmjianilcdphaa
open Go.RowKit Leb
set_option maxRecDepth 100000 in
set_option maxHeartbeats 800000 in
theorem crc_any (ao : Option Addr) (cap : Nat) (bs : List UInt8) (hbig : bs.length ≤ 140737488355328) (w : World) (hat : BytesAt w ao bs) :
    Calls Try.prog 11 #[.slice ao bs.length cap] w fun e w' => e = .returned (.int .u32 (n32 (crc bs))) ∧ w' = w := by
  have HAT : Hid (BytesAt w ao bs) := hat
  clear hat
  go_enter Try.func11, Try.ntmps11
  go_wp2
  go_loop [3, 9] (fun s i => ∃ (k : Nat) (x : BitVec 32), k ≤ bs.length ∧ i = .int .i64 k ∧ s = .int .u32 (n32 x) ∧ Hid (x = cst (bs.take k))) (fun _ i => bs.length - (intOf i).toNat)
  case atStart => exact ⟨0, BitVec.allOnes 32, by omega, rfl, by rw [show (4294967295 : Int) = n32 (BitVec.allOnes 32) by decide], rfl⟩
  case round =>
    obtain ⟨k, x, hk, rfl, rfl, HX⟩ := hrel
    by_cases hlt : k < bs.length
    · obtain ⟨b, o, rfl, hc⟩ := HAT.out (by intro h; simp [h] at hlt)
      obtain ⟨y, HY, hy⟩ : ∃ y : UInt8, Hid (y = bs.getD k 0) ∧ w.cell? ⟨b, o + k, none⟩ = some (.int .u8 (y.toNat : Int)) := ⟨_, rfl, hc k hlt⟩
      clear hc
      go_wp2
      go_loop [3, 17] (fun s i => ∃ (j : Nat) (z : BitVec 32), j ≤ 8 ∧ i = .int .i64 j ∧ s = .int .u32 (n32 z) ∧ Hid (z = cn j (x ^^^ bv y))) (fun _ i => 8 - (intOf i).toNat)
      case atStart => exact ⟨0, x ^^^ bv y, by omega, rfl, by rw [xor_byte], rfl⟩
      case round =>
        obtain ⟨j, z, hj, rfl, rfl, HZ⟩ := hrel
        by_cases hj8 : j < 8
        · go_wp2
          go_round
          case rel => exact ⟨j + 1, cstep z, by omega, by go_num, by rw [step_n32], by unfold Hid; rw [HZ.out]; rfl⟩
          case measure => simp [intOf]; omega
        · obtain rfl : j = 8 := by omega
          go_wp2
          go_round
          case rel => exact ⟨k + 1, z, by omega, by go_num, rfl, by unfold Hid; rw [cst_next bs k hlt, HZ.out, HX.out, HY.out]; rfl⟩
          case measure => simp [intOf]; omega
    · have hx : cst bs = x := by rw [HX.out, List.take_of_length_le (by omega)]
      go_wp2
      go_ret
      simp only [bits_not]
      unfold crc
      rw [hx]
      exact ⟨rfl, trivial⟩
set_option maxRecDepth 100000 in
set_option maxHeartbeats 800000 in
theorem rcrc_any (ao : Option Addr) (cap : Nat) (bs : List UInt8) (hbig : bs.length ≤ 140737488355328) (w : World) (hat : BytesAt w ao bs) :
    Calls Try.prog 12 #[.slice ao bs.length cap] w fun e w' => e = .returned (.int .u32 (n32 (crc bs))) ∧ w' = w := by
  have HAT : Hid (BytesAt w ao bs) := hat
  clear hat
  go_enter Try.func12, Try.ntmps12
  go_wp2
  go_loop [3, 4] (fun s i => ∃ (k : Nat) (x : BitVec 32), k ≤ bs.length ∧ i = .int .i64 k ∧ s = .int .u32 (n32 x) ∧ Hid (x = cst (bs.take k))) (fun _ i => bs.length - (intOf i).toNat)
  case atStart => exact ⟨0, BitVec.allOnes 32, by omega, rfl, by rw [show (4294967295 : Int) = n32 (BitVec.allOnes 32) by decide], rfl⟩
  case round =>
    obtain ⟨k, x, hk, rfl, rfl, HX⟩ := hrel
    by_cases hlt : k < bs.length
    · obtain ⟨b, o, rfl, hc⟩ := HAT.out (by intro h; simp [h] at hlt)
      obtain ⟨y, HY, hy⟩ : ∃ y : UInt8, Hid (y = bs.getD k 0) ∧ w.cell? ⟨b, o + k, none⟩ = some (.int .u8 (y.toNat : Int)) := ⟨_, rfl, hc k hlt⟩
      clear hc
      go_wp2
      go_loop [3, 5] (fun s i => ∃ (j : Nat) (z : BitVec 32), j ≤ 8 ∧ i = .int .i64 j ∧ s = .int .u32 (n32 z) ∧ Hid (z = cn j (x ^^^ bv y))) (fun _ i => 8 - (intOf i).toNat)
      case atStart => exact ⟨0, x ^^^ bv y, by omega, rfl, by rw [xor_byte], rfl⟩
      case round =>
        obtain ⟨j, z, hj, rfl, rfl, HZ⟩ := hrel
        have hz0 := n32_lo z
        by_cases hj8 : j < 8
        · by_cases hodd : n32 z % 2 = 1
          · go_wp2
            go_round
            case rel => exact ⟨j + 1, cstep z, by omega, by go_num, by rw [tdiv_n32, xorp_n32, cstep_odd z ((odd_n32 z).1 hodd)], by unfold Hid; rw [HZ.out]; rfl⟩
            case measure => simp [intOf]; omega
          · go_wp2
            go_round
            case rel => exact ⟨j + 1, cstep z, by omega, by go_num, by rw [tdiv_n32, cstep_even z (fun h => hodd ((odd_n32 z).2 h))], by unfold Hid; rw [HZ.out]; rfl⟩
            case measure => simp [intOf]; omega
        · obtain rfl : j = 8 := by omega
          go_wp2
          go_round
          case rel => exact ⟨k + 1, z, by omega, by go_num, rfl, by unfold Hid; rw [cst_next bs k hlt, HZ.out, HX.out, HY.out]; rfl⟩
          case measure => simp [intOf]; omega
    · have hx : cst bs = x := by rw [HX.out, List.take_of_length_le (by omega)]
      go_wp2
      go_ret
      simp only [bits_not]
      unfold crc
      rw [hx]
      exact ⟨rfl, trivial⟩
end Go.Proofs.Ytjmjianilcdphaa
