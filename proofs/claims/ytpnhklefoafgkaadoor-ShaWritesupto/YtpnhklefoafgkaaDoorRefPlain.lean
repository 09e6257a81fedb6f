/-
  PLAIN MATHEMATICS FOR stemmaref01: bytes padded, taken by blocks of 64, are what a hasher makes of them.
-/
import Derived.Test.YtpnhklefoafgkaaDoorSums
namespace Go.Proofs.YtpnhklefoafgkaaDoor
open Go.RowKit Sha
/-- The bytes behind: mark, noughts, and k bytes of the length. -/
def endK (n k : Nat) : List UInt8 := 128 :: (List.replicate (noughts n) 0 ++ (List.range k).map (lb n))
theorem endTo_eq (n : Nat) : ∀ k, k ≤ 8 → endTo n k = endK n k ++ List.replicate (8 - k) 0
  | 0, _ => by
    have e : List.replicate (noughts n + 8) (0 : UInt8) = List.replicate (noughts n) 0 ++ List.replicate 8 0 := by rw [List.replicate_append_replicate]
    show 128 :: List.replicate (noughts n + 8) 0 = _
    rw [e]; simp only [endK, List.range_zero, List.map_nil, List.append_nil, List.cons_append, Nat.sub_zero]
  | k + 1, h => by
    have ih := endTo_eq n k (by omega)
    have hl : (endK n k).length = 1 + noughts n + k := by simp [endK]; omega
    show (endTo n k).set (1 + noughts n + k) (lb n k) = _
    rw [ih, List.set_append_right _ _ (by omega), hl, Nat.sub_self, show 8 - k = (8 - (k + 1)) + 1 by omega, List.replicate_succ, List.set_cons_zero]
    simp [endK, List.range_succ]
theorem endTo_8 (n : Nat) : endTo n 8 = endK n 8 := by rw [endTo_eq n 8 (by omega)]; simp
/-- Bytes as blocks. -/
def padP (bs : List UInt8) : List UInt8 := bs ++ endK bs.length 8
theorem padP_len (bs : List UInt8) : (padP bs).length = 64 * ((bs.length + 72) / 64) := by
  simp [padP, endK, noughts]
  omega
def blockAt (p : List UInt8) (k : Nat) : List UInt8 := (p.drop (64 * k)).take 64
theorem blockAt_len (p : List UInt8) (k : Nat) (h : 64 * (k + 1) ≤ p.length) : (blockAt p k).length = 64 := by simp [blockAt]; omega
/-- The state behind k blocks. -/
def blocksTo (p : List UInt8) : Nat → St
  | 0 => first
  | k + 1 => mix (blocksTo p k) (blockAt p k)
theorem feed_blocks (p : List UInt8) : ∀ k, 64 * k ≤ p.length → (feed newHs (p.take (64 * k))).st = blocksTo p k
  | 0, _ => rfl
  | k + 1, h => by
    have ih := feed_blocks p k (by omega)
    have e : p.take (64 * (k + 1)) = p.take (64 * k) ++ blockAt p k := by
      rw [show 64 * (k + 1) = 64 * k + 64 by omega, List.take_add]; rfl
    have hn : (feed newHs (p.take (64 * k))).n = 64 * k := by rw [feed_n]; simp [newHs]; omega
    have hp : (feed newHs (p.take (64 * k))).part.length = 64 := by rw [feed_part]; rfl
    have hb := blockAt_len p k h
    rw [e, feed_append, feed_chunk _ _ hp (by intro h; rw [h] at hb; simp at hb) (by rw [hb, hn]; omega)]
    show (if _ then _ else _) = mix _ _
    rw [if_pos (by rw [hn, hb]; omega), ih, hn]
    congr 1
    rw [Nat.mul_mod_right]
    simp [chunk, hb]
    omega
/-- The bytes of the words, one by one. -/
def outB (ws : List (BitVec 32)) (i : Nat) : UInt8 := byt (ws.getD (i / 4) 0) (24 - 8 * (i % 4))
def outL (ws : List (BitVec 32)) : Nat → List UInt8
  | 0 => List.replicate 32 0
  | i + 1 => (outL ws i).set i (outB ws i)
theorem outL_len (ws : List (BitVec 32)) : ∀ i, (outL ws i).length = 32
  | 0 => by simp [outL]
  | i + 1 => by simp [outL, outL_len ws i]
theorem outL_32 (ws : List (BitVec 32)) : outL ws 32 = outTo ws 8 := rfl
theorem sumP_blocks (bs : List UInt8) : outL (blocksTo (padP bs) ((bs.length + 72) / 64)).list 32 = sumOf (feed newHs bs) := by
  have hl := padP_len bs
  have h := feed_blocks (padP bs) ((bs.length + 72) / 64) (by omega)
  rw [List.take_of_length_le (by omega)] at h
  rw [outL_32, ← h]
  unfold sumOf
  rw [feed_n, show newHs.n + bs.length = bs.length by simp [newHs], endTo_8, ← feed_append]
  rfl
end Go.Proofs.YtpnhklefoafgkaaDoor
