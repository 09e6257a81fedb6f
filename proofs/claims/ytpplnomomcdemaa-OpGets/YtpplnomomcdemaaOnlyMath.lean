/-
  BYTES THAT ARE TAKEN OFF ARE THOSE THAT ARE LAID.
-/
import Derived.Test.YtpplnomomcdemaaDeltas
import Derived.Test.YtpplnomomcdemaaRefDeltas
namespace Go.Proofs.Ytpplnomomcdemaa
open Go.RowKit Leb
theorem last_get (acc : List Int) (y : Int) (h : acc.getLast? = some y) : acc ≠ [] ∧ acc[acc.length - 1]?.getD 0 = y := by
  constructor
  · intro h0; subst h0; simp at h
  · rw [List.getLast?_eq_getElem?] at h
    rw [h, Option.getD_some]
theorem laidI_app (a b : List (Int × Nat)) : laidI (a ++ b) = laidI a ++ laidI b := by simp [laidI]
theorem fin_ok {n : Nat} {R : List Int × List UInt8 × Nat} {l : List Int} {rest : List UInt8} (h : R = (l, rest, 0)) : fin n R = (l, n - rest.length, 0) := by subst h; rfl
theorem rr_only (M : Nat) : ∀ (k : Nat) (b : List UInt8) (acc l : List Int) (rest : List UInt8), rr M k b acc = (l, rest, 0) → laidI (runs acc) ++ b = laidI (runs l) ++ rest ∧ (runs l).length = (runs acc).length + k
  | 0, b, acc, l, rest, h => by
    simp only [rr, Prod.mk.injEq] at h
    obtain ⟨rfl, rfl, _⟩ := h
    exact ⟨rfl, rfl⟩
  | k + 1, b, acc, l, rest, h => by
    have hf := fin_ok (n := 0) h
    by_cases hE : guE b = 0
    · obtain ⟨V, hV⟩ : ∃ v, guV b = v := ⟨_, rfl⟩
      by_cases hV0 : V = 0
      · subst hV0
        have := (fin_4 (n := 0) (M := M) (k := k) (acc := acc) hE hV).symm.trans hf
        simp at this
      · by_cases hVr : M - acc.length < V
        · have := (fin_5 (n := 0) (M := M) (k := k) (acc := acc) hE hV hVr).symm.trans hf
          simp at this
        · rw [rr_step hE hV rfl rfl (by omega) (by omega)] at h
          obtain ⟨b2, hb2⟩ : ∃ c, b.drop (guK b) = c := ⟨_, rfl⟩
          rw [hb2] at h
          split at h
          · rename_i hI
            split at h
            · simp at h
            · rename_i hs
              have ih := rr_only M k _ _ l rest h
              have hu := gu_only b hE
              have hi := gi_only b2 hI
              have hsn : runs (acc ++ List.replicate V (giV b2)) = runs acc ++ [(giV b2, V)] := by
                have := runs_snoc (giV b2) (V - 1) acc (fun y hy he => by
                  obtain ⟨h1, h2⟩ := last_get acc y hy
                  exact hs ⟨h1, by rw [h2, he]⟩)
                rwa [show V - 1 + 1 = V by omega] at this
              rw [hsn, laidI_app, List.length_append] at ih
              refine ⟨?_, by have := ih.2; simp at this; omega⟩
              rw [← ih.1]
              have e1 : b = uintB V ++ b2 := by rw [← hV, hu, ← hb2, List.take_append_drop]
              have e2 : b2 = intB (giV b2) ++ b2.drop (giK b2) := by rw [hi, List.take_append_drop]
              rw [e1]
              conv => lhs; rw [e2]
              simp [laidI]
          · rename_i hI
            simp only [Prod.mk.injEq] at h
            exact absurd h.2.2 hI
    · have := (fin_e (n := 0) (M := M) (k := k) (acc := acc) rfl hE).symm.trans hf
      simp only [Prod.mk.injEq] at this
      exact absurd this.2.2 hE
/-- What GetRuns takes off is what Runs lays. -/
theorem getR_only (bs : List UInt8) (most : Int) (l : List Int) (u : Nat) (h : getR bs most = (l, u, 0)) : u ≤ bs.length ∧ runsB l = bs.take u := by
  obtain ⟨N, hN⟩ : ∃ v, guV bs = v := ⟨_, rfl⟩
  by_cases hE : guE bs = 0
  · by_cases hm : clampM most < N
    · rw [getR_5 hE hN hm] at h
      simp at h
    · rw [getR_0 hE hN rfl (by omega)] at h
      obtain ⟨R, hR⟩ : ∃ R, rr (clampM most) N (bs.drop (guK bs)) [] = R := ⟨_, rfl⟩
      rw [hR] at h
      obtain ⟨l', rest, e⟩ := R
      unfold fin at h
      split at h
      · rename_i he
        simp only [Prod.mk.injEq, and_true] at h he
        obtain ⟨rfl, hu⟩ := h
        subst he
        obtain ⟨h1, h2⟩ := rr_only _ _ _ _ _ _ hR
        have hg := gu_only bs hE
        rw [hN] at hg
        have e1 : bs = runsB l' ++ rest := by
          unfold runsB
          rw [h2, show (runs ([] : List Int)).length + N = N by simp [runs], List.append_assoc, ← h1, hg]
          simp [runs, laidI]
        have hl : bs.length = (runsB l').length + rest.length := by have := congrArg List.length e1; rwa [List.length_append] at this
        have hu' : u = (runsB l').length := by omega
        refine ⟨by omega, ?_⟩
        rw [hu', e1]
        simp
      · rename_i he
        simp only [Prod.mk.injEq] at h
        exact absurd h.2.2 he
  · rw [getR_e rfl hE] at h
    simp only [Prod.mk.injEq] at h
    exact absurd h.2.2 hE
theorem head_app {l : List Bool} (h : l ≠ []) (m : List Bool) : (l ++ m).head? = l.head? := by cases l with | nil => exact absurd rfl h | cons x r => rfl
end Go.Proofs.Ytpplnomomcdemaa
