/-
  THE WALK OF stemmaref01.padded.
-/
import Derived.Test.YtpnhklefoafgkaaDoorOwnKit
import Derived.Test.YtpnhklefoafgkaaDoorRefPlain
namespace Go.Proofs.YtpnhklefoafgkaaDoor
open Go.RowKit Sha
def slen : Value → Nat
  | .slice _ n _ => n
  | _ => 0
/-- Behind the mark and k noughts. -/
def padZ (bs : List UInt8) (k : Nat) : List UInt8 := bs ++ 128 :: List.replicate k 0
theorem padZ_len (bs : List UInt8) (k : Nat) : (padZ bs k).length = bs.length + 1 + k := by simp [padZ]; omega
theorem padZ_next (bs : List UInt8) (k : Nat) : padZ bs k ++ [0] = padZ bs (k + 1) := by simp [padZ, List.replicate_succ']
/-- Behind k bytes of the length. -/
def padK (bs : List UInt8) (k : Nat) : List UInt8 := bs ++ endK bs.length k
theorem padK_len (bs : List UInt8) (k : Nat) : (padK bs k).length = bs.length + 1 + noughts bs.length + k := by simp [padK, endK]; omega
theorem padK_next (bs : List UInt8) (k : Nat) : padK bs k ++ [lb bs.length k] = padK bs (k + 1) := by simp [padK, endK, List.range_succ]
theorem padK_0 (bs : List UInt8) : padZ bs (noughts bs.length) = padK bs 0 := by simp [padK, padZ, endK]
set_option maxRecDepth 100000 in
set_option maxHeartbeats 800000 in
theorem padded_any (ao : Option Addr) (cap : Nat) (bs : List UInt8) (hbig : bs.length ≤ 140737488351232) (w : World) (hat : BytesAt w ao bs) :
    Calls Tryd.prog 23 #[.slice ao bs.length cap] w fun e w' => ∃ v, e = .returned v ∧ Own w' w.heap.size v (padP bs) ∧ After w w' := by
  have HAT : Hid (BytesAt w ao bs) := hat
  clear hat
  obtain ⟨z, HZ, hz64⟩ : ∃ z : Nat, Hid (noughts bs.length = z) ∧ z < 64 := ⟨_, rfl, by unfold noughts; omega⟩
  have hzz : Hid (∀ k, k ≤ z → ((bs.length + 1 + k) % 64 = 56 ↔ k = z)) := by
    have := HZ.out; unfold noughts at this
    intro k hk; omega
  go_enter Tryd.func23, Tryd.ntmps23
  go_wp2_with (first
    | (at_builtin; refine wpList_append_any rfl (.tmp 6) (.tmp 7) rfl w.heap.size _ [] rfl (Own.nil w _) ao cap bs bs.length rfl rfl HAT.out (by simp; omega) (Nat.le_refl _) ?_; intro v1 w1 ho1 hg1; rw [List.nil_append] at ho1; have B1 : After w w1 := after_grown (After.refl w) hg1 (Nat.le_refl _) (fun k hk => (World.ownsRow.lt (Own.nil w _) k hk).1); have O1 : Own (w1.alloc (.cells #[.int .u8 128] 5)) w.heap.size v1 bs := Own.below ho1 (after_alloc (After.refl w1) _) (Nat.le_refl _); have T1 : BytesAt (w1.alloc (.cells #[.int .u8 128] 5)) (some ⟨w1.heap.size, 0, none⟩) [128] := BytesAt.one w1 128; have Z1 : w.heap.size ≤ (w1.alloc (.cells #[.int .u8 128] 5)).heap.size := (after_alloc B1 _).size)
    | (at_builtin; refine wpList_append_any rfl (.tmp 8) (.tmp 9) rfl w.heap.size v1 bs rfl O1 (some ⟨w1.heap.size, 0, none⟩) 1 [128] 1 rfl rfl T1 (by simp; omega) Z1 ?_; intro v2 w2 ho2 hg2; have B2 : After w w2 := after_grown (after_alloc B1 _) hg2 (Nat.le_refl _) (fun k hk => (World.ownsRow.lt O1 k hk).1)))
  have HO : Hid (Own w2 w.heap.size v2 (padZ bs 0)) := ho2
  clear ho2 hg2 ho1 hg1 B1 O1 T1 Z1
  go_loopw [3] (fun v wr => ∃ k : Nat, k ≤ z ∧ Own wr w.heap.size v (padZ bs k) ∧ After w wr) (fun v _ => bs.length + 1 + z - slen v)
  case atStart => exact ⟨0, by omega, HO.out, B2⟩
  case round =>
    clear HO B2
    obtain ⟨k, hk, ho, B3⟩ := hrel
    obtain ⟨a3, c3, rfl, _, _, _⟩ := ho.at
    rw [padZ_len] at *
    have HO : Hid (Own wr w.heap.size (.slice a3 (bs.length + 1 + k) c3) (padZ bs k)) := ho
    clear ho
    by_cases hkz : k = z
    · have h56 : (bs.length + 1 + k) % 64 = 56 := (hzz.out k hk).2 hkz
      have HO2 : Hid (Own wr w.heap.size (.slice a3 (bs.length + 1 + k) c3) (padK bs 0)) := by unfold Hid; rw [← padK_0, HZ.out, ← hkz]; exact HO.out
      go_wp2
      generalize (((bs.length : Int) + 1 + (z : Int)) % 64 != 56) = b56
      go_loopw [3, 5] (fun v i wr => ∃ k : Nat, k ≤ 8 ∧ i = .int .i64 k ∧ Own wr w.heap.size v (padK bs k) ∧ After w wr) (fun _ i _ => 8 - (intOf i).toNat)
      case atStart => exact ⟨0, by omega, rfl, HO2.out, B3⟩
      case round =>
        clear HO HO2 B3 h56 hkz
        obtain ⟨j, hj, rfl, ho, B5⟩ := hrel
        obtain ⟨a5, c5, rfl, _, _, _⟩ := ho.at
        by_cases hj8 : j < 8
        · have HO : Hid (Own wr w.heap.size (.slice a5 (padK bs j).length c5) (padK bs j)) := ho
          have s0 : (0 : Int) ≤ 56 - 8 * (j : Int) := by omega
          have s1 : 56 - 8 * (j : Int) ≤ 64 := by omega
          have s2 : (56 - 8 * (j : Int)).toNat = 56 - 8 * j := by omega
          have hv : (bs.length : Int) * 8 / 2 ^ (56 - 8 * j) % 256 = ((lb bs.length j).toNat : Int) := by rw [Int.mul_comm]; exact lb_mod bs.length j
          have O6 : Own (wr.alloc (.cells #[.int .u8 ((lb bs.length j).toNat : Int)] 5)) w.heap.size (.slice a5 (padK bs j).length c5) (padK bs j) := Own.below HO.out (after_alloc (After.refl wr) _) (Nat.le_refl _)
          have T6 : BytesAt (wr.alloc (.cells #[.int .u8 ((lb bs.length j).toNat : Int)] 5)) (some ⟨wr.heap.size, 0, none⟩) [lb bs.length j] := BytesAt.one wr (lb bs.length j)
          have Z6 : w.heap.size ≤ (wr.alloc (.cells #[.int .u8 ((lb bs.length j).toNat : Int)] 5)).heap.size := (after_alloc B5 _).size
          have HT6 := show Hid _ from T6
          have HZ6 := show Hid _ from Z6
          have hbj : Hid ((padK bs j).length + [lb bs.length j].length ≤ 140737488355328) := by
            unfold Hid; rw [padK_len, HZ.out]; simp; omega
          obtain ⟨pl, HPL⟩ : ∃ pl, Hid ((padK bs j).length = pl) := ⟨_, rfl⟩
          have HO6 : Hid (Own (wr.alloc (.cells #[.int .u8 ((lb bs.length j).toNat : Int)] 5)) w.heap.size (.slice a5 pl c5) (padK bs j)) := by unfold Hid; rw [← HPL.out]; exact O6
          rw [HPL.out] at hbj
          clear ho O6 T6 Z6 HO
          rw [HPL.out]
          go_wp2_with (at_builtin; refine wpList_append_any rfl (.tmp 26) (.tmp 34) rfl w.heap.size _ (padK bs j) rfl HO6.out (some ⟨wr.heap.size, 0, none⟩) 1 [lb bs.length j] 1 rfl rfl HT6.out (by rw [HPL.out]; exact hbj.out) HZ6.out ?_; intro v7 w7 ho7 hg7; rw [padK_next] at ho7; have B7 : After w w7 := after_grown (after_alloc B5 _) hg7 (Nat.le_refl _) (fun k hk => (World.ownsRow.lt HO6.out k hk).1); have H7 : Hid (Own w7 w.heap.size v7 (padK bs (j + 1))) := ho7; clear ho7 hg7)
          go_roundw
          case rel => exact ⟨j + 1, by omega, by go_num, H7.out, B7⟩
          case measure => simp [intOf]; omega
        · obtain rfl : j = 8 := by omega
          have HO : Hid (Own wr w.heap.size (.slice a5 (padK bs 8).length c5) (padP bs)) := ho
          clear ho
          go_wp2
          go_ret
          exact ⟨_, rfl, HO.out, B5⟩
    · have h56 : ¬ (bs.length + 1 + k) % 64 = 56 := fun h => hkz ((hzz.out k hk).1 h)
      have O3 : Own (wr.alloc (.cells #[.int .u8 0] 5)) w.heap.size (.slice a3 (bs.length + 1 + k) c3) (padZ bs k) := Own.below HO.out (after_alloc (After.refl wr) _) (Nat.le_refl _)
      have T3 : BytesAt (wr.alloc (.cells #[.int .u8 0] 5)) (some ⟨wr.heap.size, 0, none⟩) [0] := BytesAt.one wr 0
      have Z3 : w.heap.size ≤ (wr.alloc (.cells #[.int .u8 0] 5)).heap.size := (after_alloc B3 _).size
      go_wp2_with (at_builtin; refine wpList_append_any rfl (.tmp 15) (.tmp 16) rfl w.heap.size _ (padZ bs k) rfl O3 (some ⟨wr.heap.size, 0, none⟩) 1 [0] 1 rfl rfl T3 (by rw [padZ_len]; simp; omega) Z3 ?_; intro v4 w4 ho4 hg4; rw [padZ_next] at ho4; have B4 : After w w4 := after_grown (after_alloc B3 _) hg4 (Nat.le_refl _) (fun k hk => (World.ownsRow.lt O3 k hk).1); have H4 : Hid (Own w4 w.heap.size v4 (padZ bs (k + 1))) := ho4; obtain ⟨a5, c5, rfl, _, _, _⟩ := ho4.at; clear ho4 hg4)
      go_roundw
      case rel => exact ⟨k + 1, by omega, H4.out, B4⟩
      case measure => simp [slen, padZ_len]; omega
end Go.Proofs.YtpnhklefoafgkaaDoor
