/-
  What the reference's At finds: the one at that place among those not gone.
-/
import Derived.Test.YtiglenomigipmaaSI
namespace Go.Proofs.Ytiglenomigipmaa
open Go.RowKit Go.Shelf
def stays (L : List RC) : List RC := L.filter (fun c => !c.gone)
theorem srS_m1 : ∀ L : List RC, srS L (-1) = none
  | [] => rfl
  | c :: L => by
    have e : max (wrap64 (-1 - 1)) (-1) = -1 := by
      have : wrap64 (-1 - 1) = -2 := by unfold wrap64; omega
      rw [this]; omega
    unfold srS
    split
    · exact srS_m1 L
    · rw [if_neg (by decide), e]; exact srS_m1 L
theorem srS_nn : ∀ (L : List RC) (p : Nat), p < 9223372036854775808 → srS L (p : Int) = (stays L)[p]?
  | [], p, _ => by simp [srS, stays]
  | c :: L, p, hp => by
    unfold srS
    cases hg : c.gone with
    | true => rw [if_pos rfl, srS_nn L p hp]; simp [stays, hg]
    | false =>
      rw [if_neg (by simp)]
      cases p with
      | zero => simp [stays, hg]
      | succ q =>
        rw [if_neg (by omega)]
        have e : max (wrap64 (((q + 1 : Nat) : Int) - 1)) (-1) = (q : Int) := by
          have : wrap64 (((q + 1 : Nat) : Int) - 1) = (q : Int) := by unfold wrap64; omega
          rw [this]; omega
        rw [e, srS_nn L q (by omega)]
        simp [stays, hg]
theorem srS_neg : ∀ (L : List RC) (p : Int), p < 0 → -9223372036854775808 ≤ p → L.length ≤ 1000000 → srS L p = none
  | [], _, _, _, _ => rfl
  | c :: L, p, h0, h1, hl => by
    rw [List.length_cons] at hl
    unfold srS
    split
    · exact srS_neg L p h0 h1 (by omega)
    · rw [if_neg (by omega)]
      by_cases hm : p = -9223372036854775808
      · have e : max (wrap64 (p - 1)) (-1) = ((9223372036854775807 : Nat) : Int) := by
          have : wrap64 (p - 1) = 9223372036854775807 := by unfold wrap64; omega
          rw [this]; omega
        rw [e, srS_nn L _ (by decide), List.getElem?_eq_none_iff]
        have := List.length_filter_le (fun c : RC => !c.gone) L
        unfold stays
        omega
      · have e : max (wrap64 (p - 1)) (-1) = -1 := by
          have : wrap64 (p - 1) = p - 1 := by unfold wrap64; omega
          rw [this]; omega
        rw [e]; exact srS_m1 L
theorem srS_eq {L : List RC} {p : Int} (h1 : -9223372036854775808 ≤ p) (h2 : p < 9223372036854775808) (hl : L.length ≤ 1000000) : srS L p = if p < 0 then none else (stays L)[p.toNat]? := by
  by_cases h0 : p < 0
  · rw [if_pos h0]; exact srS_neg L p h0 h1 hl
  · rw [if_neg h0]
    have := srS_nn L p.toNat (by omega)
    rwa [Int.toNat_of_nonneg (by omega)] at this
end Go.Proofs.Ytiglenomigipmaa
