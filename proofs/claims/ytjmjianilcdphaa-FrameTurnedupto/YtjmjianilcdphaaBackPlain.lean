/-
  A FRAME THAT IS LAID IS OPENED AS IT WAS.
-/
import Derived.Test.YtjmjianilcdphaaOpenPlain
namespace Go.Proofs.Ytjmjianilcdphaa
open Leb
theorem headB_len (k : UInt8) (bs : List UInt8) : (headB k bs).length = 1 + (uintB bs.length).length + bs.length := by unfold headB; simp; omega
theorem frameB_len (k : UInt8) (bs : List UInt8) : (frameB k bs).length = 1 + (uintB bs.length).length + bs.length + 4 := by unfold frameB withSum; rw [List.length_append, headB_len, le4_len]
theorem opOk_back (k : UInt8) (bs t : List UInt8) (hk : k ≠ 0) (hl : bs.length ≤ 1048576) : OpOk (frameB k bs ++ t) k (uintB bs.length).length bs.length := by
  have e : frameB k bs ++ t = headB k bs ++ (le4 (crc (headB k bs)) ++ t) := by unfold frameB withSum; simp
  have e1 : (frameB k bs ++ t).drop 1 = uintB bs.length ++ (bs ++ (le4 (crc (headB k bs)) ++ t)) := by rw [e]; unfold headB; simp
  have hu := gu_back bs.length (bs ++ (le4 (crc (headB k bs)) ++ t)) (by omega)
  have hh := headB_len k bs
  refine ⟨?_, ?_, hk, by rw [e1]; exact hu.1, by rw [e1]; exact hu.2.1, by rw [e1]; exact hu.2.2, hl, ?_, ?_⟩
  · rw [e]; unfold headB; simp
  · rw [e]; unfold headB; rfl
  · rw [List.length_append, frameB_len]; omega
  · rw [e, ← hh, List.take_left, List.drop_left, ← le4_len (crc (headB k bs)), List.take_left]
theorem opE_of {bs : List UInt8} {k : UInt8} {K V : Nat} (H : OpOk bs k K V) : opE bs = 0 := by
  have h1 : opV bs = V := H.v
  have h2 : opK bs = K := H.k
  have h3 : opEnd bs = 1 + K + V := by unfold opEnd; rw [h1, h2]
  unfold opE
  rw [if_neg H.ne, if_neg (by rw [H.kind]; exact H.kind0), if_neg (fun h => h H.e), if_neg (by rw [h1]; have := H.most; omega), if_neg (by rw [h3]; have := H.len; omega), if_neg (by rw [h3]; simpa using H.sum)]
theorem open_back (k : UInt8) (bs t : List UInt8) (hk : k ≠ 0) (hl : bs.length ≤ 1048576) : opE (frameB k bs ++ t) = 0 ∧ opKind (frameB k bs ++ t) = k ∧ opBody (frameB k bs ++ t) = bs ∧ opUsed (frameB k bs ++ t) = (frameB k bs).length := by
  have H := opOk_back k bs t hk hl
  have h0 := opE_of H
  have h1 : opV (frameB k bs ++ t) = bs.length := H.v
  have h2 : opK (frameB k bs ++ t) = (uintB bs.length).length := H.k
  refine ⟨h0, ?_, ?_, ?_⟩
  · unfold opKind; rw [if_pos h0]; exact H.kind
  · unfold opBody; rw [if_pos h0, h1, h2]
    have e : frameB k bs ++ t = (k :: uintB bs.length) ++ (bs ++ (le4 (crc (headB k bs)) ++ t)) := by unfold frameB withSum headB; simp
    rw [e, show 1 + (uintB bs.length).length = (k :: uintB bs.length).length by simp; omega, List.drop_left, List.take_left]
  · unfold opUsed opEnd; rw [if_pos h0, h1, h2, frameB_len]
theorem sealB_eq (k : UInt8) (bs : List UInt8) (hk : k ≠ 0) (hl : bs.length ≤ 1048576) : sealB k bs = frameB k bs ∧ sealE k bs = 0 := by
  unfold sealB sealE
  rw [if_neg hk, if_neg (by omega), if_neg hk, if_neg (by omega)]
  exact ⟨rfl, rfl⟩
theorem uint1 : (uintB 1).length = 1 := by rw [uintB, if_pos (by omega)]; rfl
theorem crc_a : n32 (crc [97]) = 3904355907 := by decide +kernel
end Go.Proofs.Ytjmjianilcdphaa
