/-
  stemmalaw03.ColumnBack, ALL CASES.
-/
import Derived.Test.YtjmflggnnchojaaBackAll
namespace Go.Proofs.Ytjmflggnnchojaa
open Go.RowKit Leb
theorem laidI_most : ∀ rs : List (Int × Nat), (∀ p ∈ rs, -9223372036854775808 ≤ p.1 ∧ p.1 ≤ 9223372036854775807 ∧ p.2 ≤ 1048576) → (laidI rs).length ≤ 20 * rs.length
  | [], _ => by simp [laidI]
  | p :: rs, h => by
    have ih := laidI_most rs (fun q hq => h q (by simp [hq]))
    have hp := h p (by simp)
    have h3 := uintB_len10 p.2 (by omega)
    have h4 := intB_len10 p.1 hp.1 hp.2.1
    have e : (laidI (p :: rs)).length = (uintB p.2).length + (intB p.1).length + (laidI rs).length := by simp [laidI]; omega
    rw [e, List.length_cons]
    omega
theorem runsB_len (l : List Int) (hl : ∀ x ∈ l, -9223372036854775808 ≤ x ∧ x ≤ 9223372036854775807) (hn : l.length ≤ 1048575) : (runsB l).length ≤ 30000000 := by
  have h1 := runs_len l
  have h2 := uintB_len10 (runs l).length (by omega)
  have h3 := laidI_most (runs l) (fun p hp => ⟨(hl _ (runs_mem l p hp)).1, (hl _ (runs_mem l p hp)).2, by have := runs_many l p hp; omega⟩)
  have e : (runsB l).length = (uintB (runs l).length).length + (laidI (runs l)).length := by simp [runsB]
  omega
theorem clampM_neg {most : Int} (h : most < 0) : clampM most = 0 := by unfold clampM; rw [if_pos h]
theorem back_any (ao bo : Option Addr) (cap bc : Nat) (l : List Int) (t : List UInt8) (most : Int) (hl : ∀ x ∈ l, -9223372036854775808 ≤ x ∧ x ≤ 9223372036854775807) (hn : l.length ≤ 1048575) (ht : t.length ≤ 1048576) (hm0 : -9223372036854775808 ≤ most) (hm1 : most ≤ 9223372036854775807) (w : World) (hI : IntsAt w ao l) (hT : BytesAt w bo t)
    (hlt : ∀ a, ao = some a → l ≠ [] → a.block < w.heap.size) :
    Calls Try.prog 7 #[.slice ao l.length cap, .slice bo t.length bc, .int .i64 most] w fun e w' => e = .returned (.bool true) ∧ Below w.heap.size w w' := by
  have c10 := runs_any ao cap l hl (by omega) w hI hlt
  have c12 := fun W (h : IntsAt W ao l) => deltas_any ao cap l hn W h
  have b1 := runsB_len l hl hn
  have b2 := runsB_len (diffs l) (diffs_int l) (by rw [diffs_len]; exact hn)
  have g20 := fun a c W (h : BytesAt W a (runsB l ++ t)) => getRuns_any a c (runsB l ++ t) (by rw [List.length_append]; omega) most hm0 hm1 W h
  have g22 := fun a c W (h : BytesAt W a (runsB (diffs l) ++ t)) => getDeltas_any a c (runsB (diffs l) ++ t) (by rw [List.length_append]; omega) most hm0 hm1 W h
  simp only [List.length_append] at g20 g22
  by_cases hle : (l.length : Int) ≤ most ∧ l.length ≤ 65536
  · have hc : l.length ≤ clampM most := by unfold clampM; split <;> (try split) <;> omega
    refine back_ok ao bo cap bc l t _ _ _ _ _ most hn hle.1 hle.2 w hI hT rfl rfl rfl b1 b2 ht c10 c12 (fun a c W h => ?_) (fun a c W h => ?_)
    · have := g20 a c W h
      rw [getR_back l t most hl hc] at this
      exact this
    · have := g22 a c W h
      rw [getR_back (diffs l) t most (diffs_int l) (by rw [diffs_len]; exact hc)] at this
      simp only [dsums_diffs l hl] at this
      exact this
  · by_cases hne : l.length = 0
    · obtain rfl : l = [] := List.eq_nil_of_length_eq_zero hne
      have hneg : most < 0 := by simp at hle; omega
      refine back_none ao bo cap bc 0 t _ _ _ _ _ most hneg [] [] (runsB []).length (runsB (diffs [])).length w hI hT rfl rfl rfl b1 b2 ht c10 c12 (fun a c W h => ?_) (fun a c W h => ?_)
      · have := g20 a c W h
        rw [getR_back [] t most hl (by simp)] at this
        exact this
      · have := g22 a c W h
        rw [getR_back (diffs []) t most (diffs_int _) (by simp [diffs])] at this
        exact this
    · have hc : clampM most < l.length := by unfold clampM; split <;> (try split) <;> omega
      refine back_long ao bo cap bc l t _ _ _ _ _ most hn hne (by omega) w hI hT rfl rfl rfl b1 b2 ht c10 c12 (fun a c W h => ?_) (fun a c W h => ?_)
      · have := g20 a c W h
        rw [getR_long l t most hl hc (by omega)] at this
        exact this
      · have := g22 a c W h
        rw [getR_long (diffs l) t most (diffs_int l) (by rw [diffs_len]; exact hc) (by rw [diffs_len]; omega)] at this
        exact this
end Go.Proofs.Ytjmflggnnchojaa
