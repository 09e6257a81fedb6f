/-
  WHAT IS LAID IS TOO LONG WHERE FEWER ARE ASKED FOR.
-/
import Derived.Test.YtpplnomomcdemaaBackMath
namespace Go.Proofs.Ytpplnomomcdemaa
open Go.RowKit Leb
theorem fin_rr_long (n M : Nat) (hM : M ≤ 65536) (t : List UInt8) : ∀ (rs : List (Int × Nat)) (acc : List Int), good rs → (∀ y, acc.getLast? = some y → ∀ p, rs.head? = some p → p.1 ≠ y) → acc.length ≤ M → M < acc.length + (flat rs).length → (∀ p ∈ rs, -9223372036854775808 ≤ p.1 ∧ p.1 ≤ 9223372036854775807 ∧ p.2 ≤ 1048576) →
    fin n (rr M rs.length (laidI rs ++ t) acc) = ([], 0, 5)
  | [], acc, _, _, h1, h2, _ => by simp [flat] at h2; omega
  | (x, v) :: rs, acc, hg, hl, h1, hn, hi => by
    have hfl : (flat ((x, v) :: rs)).length = v + (flat rs).length := by simp [flat]
    rw [hfl] at hn
    obtain ⟨hv, hh, hg'⟩ := hg
    have hx := hi (x, v) (by simp)
    have e : laidI ((x, v) :: rs) ++ t = uintB v ++ (intB x ++ (laidI rs ++ t)) := by simp [laidI]
    have hu := gu_back v (intB x ++ (laidI rs ++ t)) (by have := hx.2.2; simp only at this; omega)
    have hs := gi_back x (laidI rs ++ t) hx.1 hx.2.1
    by_cases hr : M - acc.length < v
    · rw [e, List.length_cons]
      exact fin_5 hu.1 hu.2.2 hr
    · rw [e, List.length_cons, rr_step hu.1 hu.2.2 hu.2.1 (List.drop_left (l₁ := uintB v)) hv (by omega), if_pos hs.1, hs.2.2, hs.2.1, if_neg ?_, List.drop_left]
      · refine fin_rr_long n M hM t rs (acc ++ List.replicate v x) hg' ?_ (by simp; omega) (by simp; omega) (fun p hp => hi p (by simp [hp]))
        intro y hy p hp
        simp only at hv
        rw [List.getLast?_append, List.getLast?_replicate, if_neg (by omega)] at hy
        simp at hy
        rw [← hy]
        exact hh p hp
      · rintro ⟨hne, hlast⟩
        have : acc.getLast? = some x := by
          rw [List.getLast?_eq_getElem?, hlast]
          have hlt : acc.length - 1 < acc.length := by have := List.length_pos_iff.2 hne; omega
          rw [List.getElem?_eq_getElem hlt, Option.getD_some]
        exact hl x this (x, v) (by simp) rfl
/-- What Runs lays of more than are asked for is told to be too long. -/
theorem getR_long (l : List Int) (t : List UInt8) (most : Int) (hl : ∀ x ∈ l, -9223372036854775808 ≤ x ∧ x ≤ 9223372036854775807) (hn : clampM most < l.length) (hb : l.length ≤ 1048576) : getR (runsB l ++ t) most = ([], 0, 5) := by
  have hM := clampM_le most
  have hrl := runs_len l
  have e : runsB l ++ t = uintB (runs l).length ++ (laidI (runs l) ++ t) := by simp [runsB]
  have hu := gu_back (runs l).length (laidI (runs l) ++ t) (by omega)
  rw [← e] at hu
  by_cases h : clampM most < (runs l).length
  · exact getR_5 hu.1 hu.2.2 h
  · have hd : (runsB l ++ t).drop (uintB (runs l).length).length = laidI (runs l) ++ t := by rw [e, List.drop_left]
    rw [getR_0 hu.1 hu.2.2 hu.2.1 (by omega), hd]
    exact fin_rr_long _ (clampM most) hM t (runs l) [] (good_runs l).1 (fun y hy => by simp at hy) (by simp) (by rw [(good_runs l).2]; simpa using hn) (fun p hp => ⟨(hl _ (runs_mem l p hp)).1, (hl _ (runs_mem l p hp)).2, Nat.le_trans (runs_many l p hp) hb⟩)
end Go.Proofs.Ytpplnomomcdemaa
