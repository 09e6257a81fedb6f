/-
  WHAT Open TELLS OF BYTES. No program is named but by its sums.
-/
import Derived.Test.YtjmjianilcdphaaGive
namespace Leb
def opV (bs : List UInt8) : Nat := guV (bs.drop 1)
def opK (bs : List UInt8) : Nat := guK (bs.drop 1)
def opEnd (bs : List UInt8) : Nat := 1 + opK bs + opV bs
def opE (bs : List UInt8) : Nat :=
  if bs = [] then 22 else if bs.getD 0 0 = 0 then 4 else if guE (bs.drop 1) ≠ 0 then guE (bs.drop 1) else if 1048576 < opV bs then 5 else if bs.length < opEnd bs + 4 then 3 else if le4 (crc (bs.take (opEnd bs))) ≠ (bs.drop (opEnd bs)).take 4 then 6 else 0
def opKind (bs : List UInt8) : UInt8 := if opE bs = 0 then bs.getD 0 0 else 0
def opBody (bs : List UInt8) : List UInt8 := if opE bs = 0 then (bs.drop (1 + opK bs)).take (opV bs) else []
def opUsed (bs : List UInt8) : Nat := if opE bs = 0 then opEnd bs + 4 else 0
/-- Where all is well. -/
structure OpOk (bs : List UInt8) (b : UInt8) (K V : Nat) : Prop where
  ne : bs ≠ []
  kind : bs.getD 0 0 = b
  kind0 : b ≠ 0
  e : guE (bs.drop 1) = 0
  k : guK (bs.drop 1) = K
  v : guV (bs.drop 1) = V
  most : V ≤ 1048576
  len : 1 + K + V + 4 ≤ bs.length
  sum : le4 (crc (bs.take (1 + K + V))) = (bs.drop (1 + K + V)).take 4
theorem opE_cases (bs : List UInt8) : opE bs = 0 ∧ OpOk bs (bs.getD 0 0) (opK bs) (opV bs) ∨ opE bs ≠ 0 := by
  by_cases h : opE bs = 0
  · refine .inl ⟨h, ?_⟩
    unfold opE at h
    split at h
    · omega
    · rename_i h1
      split at h
      · omega
      · rename_i h2
        split at h
        · rename_i h3; exact absurd h h3
        · rename_i h3
          split at h
          · omega
          · rename_i h4
            split at h
            · omega
            · rename_i h5
              split at h
              · omega
              · rename_i h6
                exact ⟨h1, rfl, h2, Classical.not_not.1 h3, rfl, rfl, by omega, by unfold opEnd at h5; omega, Classical.not_not.1 h6⟩
  · exact .inr h
end Leb
