/-
  BYTES THAT ARE TAKEN OFF ARE THOSE THAT ARE LAID.
-/
import Derived.Test.YtjmflggnnchojaaDeltas
import Derived.Test.YtjmflggnnchojaaTruthsWalk
namespace Go.Proofs.Ytjmflggnnchojaa
open Go.RowKit Leb
theorem last_get (acc : List Int) (y : Int) (h : acc.getLast? = some y) : acc ≠ [] ∧ acc[acc.length - 1]?.getD 0 = y := by
  constructor
  · intro h0; subst h0; simp at h
  · rw [List.getLast?_eq_getElem?] at h
    rw [h, Option.getD_some]
theorem laidI_app (a b : List (Int × Nat)) : laidI (a ++ b) = laidI a ++ laidI b := by simp [laidI]
theorem fin_ok {n : Nat} {R : List Int × List UInt8 × Nat} {l : List Int} {rest : List UInt8} (h : R = (l, rest, 0)) : fin n R = (l, n - rest.length, 0) := by subst h; rfl
theorem rr_only (M : Nat) : ∀ (k : Nat) (b : List UInt8) (acc l : List Int) (rest : List UInt8), rr M k b acc = (l, rest, 0) → laidI (runs acc) ++ b = laidI (runs l) ++ rest ∧ (runs l).length = (runs acc).length + k
  | 0, b, acc, l, rest, h => by
    simp only [rr, Prod.mk.injEq] at h
    obtain ⟨rfl, rfl, _⟩ := h
    exact ⟨rfl, rfl⟩
  | k + 1, b, acc, l, rest, h => by
    have hf := fin_ok (n := 0) h
    by_cases hE : guE b = 0
    · obtain ⟨V, hV⟩ : ∃ v, guV b = v := ⟨_, rfl⟩
      by_cases hV0 : V = 0
      · subst hV0
        have := (fin_4 (n := 0) (M := M) (k := k) (acc := acc) hE hV).symm.trans hf
        simp at this
      · by_cases hVr : M - acc.length < V
        · have := (fin_5 (n := 0) (M := M) (k := k) (acc := acc) hE hV hVr).symm.trans hf
          simp at this
        · rw [rr_step hE hV rfl rfl (by omega) (by omega)] at h
          obtain ⟨b2, hb2⟩ : ∃ c, b.drop (guK b) = c := ⟨_, rfl⟩
          rw [hb2] at h
          split at h
          · rename_i hI
            split at h
            · simp at h
            · rename_i hs
              have ih := rr_only M k _ _ l rest h
              have hu := gu_only b hE
              have hi := gi_only b2 hI
              have hsn : runs (acc ++ List.replicate V (giV b2)) = runs acc ++ [(giV b2, V)] := by
                have := runs_snoc (giV b2) (V - 1) acc (fun y hy he => by
                  obtain ⟨h1, h2⟩ := last_get acc y hy
                  exact hs ⟨h1, by rw [h2, he]⟩)
                rwa [show V - 1 + 1 = V by omega] at this
              rw [hsn, laidI_app, List.length_append] at ih
              refine ⟨?_, by have := ih.2; simp at this; omega⟩
              rw [← ih.1]
              have e1 : b = uintB V ++ b2 := by rw [← hV, hu, ← hb2, List.take_append_drop]
              have e2 : b2 = intB (giV b2) ++ b2.drop (giK b2) := by rw [hi, List.take_append_drop]
              rw [e1]
              conv => lhs; rw [e2]
              simp [laidI]
          · rename_i hI
            simp only [Prod.mk.injEq] at h
            exact absurd h.2.2 hI
    · have := (fin_e (n := 0) (M := M) (k := k) (acc := acc) rfl hE).symm.trans hf
      simp only [Prod.mk.injEq] at this
      exact absurd this.2.2 hE
/-- What GetRuns takes off is what Runs lays. -/
theorem getR_only (bs : List UInt8) (most : Int) (l : List Int) (u : Nat) (h : getR bs most = (l, u, 0)) : u ≤ bs.length ∧ runsB l = bs.take u := by
  obtain ⟨N, hN⟩ : ∃ v, guV bs = v := ⟨_, rfl⟩
  by_cases hE : guE bs = 0
  · by_cases hm : clampM most < N
    · rw [getR_5 hE hN hm] at h
      simp at h
    · rw [getR_0 hE hN rfl (by omega)] at h
      obtain ⟨R, hR⟩ : ∃ R, rr (clampM most) N (bs.drop (guK bs)) [] = R := ⟨_, rfl⟩
      rw [hR] at h
      obtain ⟨l', rest, e⟩ := R
      unfold fin at h
      split at h
      · rename_i he
        simp only [Prod.mk.injEq, and_true] at h he
        obtain ⟨rfl, hu⟩ := h
        subst he
        obtain ⟨h1, h2⟩ := rr_only _ _ _ _ _ _ hR
        have hg := gu_only bs hE
        rw [hN] at hg
        have e1 : bs = runsB l' ++ rest := by
          unfold runsB
          rw [h2, show (runs ([] : List Int)).length + N = N by simp [runs], List.append_assoc, ← h1, hg]
          simp [runs, laidI]
        have hl : bs.length = (runsB l').length + rest.length := by have := congrArg List.length e1; rwa [List.length_append] at this
        have hu' : u = (runsB l').length := by omega
        refine ⟨by omega, ?_⟩
        rw [hu', e1]
        simp
      · rename_i he
        simp only [Prod.mk.injEq] at h
        exact absurd h.2.2 he
  · rw [getR_e rfl hE] at h
    simp only [Prod.mk.injEq] at h
    exact absurd h.2.2 hE
theorem laidU_app (a b : List Nat) : laidU (a ++ b) = laidU a ++ laidU b := by simp [laidU]
theorem head_app {l : List Bool} (h : l ≠ []) (m : List Bool) : (l ++ m).head? = l.head? := by cases l with | nil => exact absurd rfl h | cons x r => rfl
theorem flagLens_snoc (acc : List Bool) (hne : acc ≠ []) (V : Nat) (hV : 1 ≤ V) (β : Bool) (hl : ∀ y, acc.getLast? = some y → y ≠ β) : flagLens (acc ++ List.replicate V β) = flagLens acc ++ [V] := by
  have hs := runs_snoc β (V - 1) acc hl
  rw [show V - 1 + 1 = V by omega] at hs
  unfold flagLens
  rw [head_app hne, hs]
  simp
theorem flagLens_one (V : Nat) (hV : 1 ≤ V) (β : Bool) : flagLens (List.replicate V β) = (if β = true then [0, V] else [V]) := by
  obtain ⟨v, rfl⟩ : ∃ v, V = v + 1 := ⟨V - 1, by omega⟩
  unfold flagLens
  rw [runs_rep, List.replicate_succ]
  cases β <;> simp
/-- What has been taken off ahead of stretch i. -/
def FInv (N i : Nat) (acc : List Bool) (ns : List Nat) : Prop :=
  ns.length = i ∧ ((acc = [] ∧ ns = []) ∨ (acc = [] ∧ ns = [0] ∧ 1 < N) ∨ (acc ≠ [] ∧ flagLens acc = ns ∧ 1 ≤ i ∧ ∀ y, acc.getLast? = some y → y = (((i - 1 : Nat) : Int) % 2 == 1)))
theorem FInv.next {N i V : Nat} {acc : List Bool} {ns : List Nat} (h : FInv N i acc ns) (hi : i < N) (hl : leastOf N i ≤ V) : FInv N (i + 1) (acc ++ List.replicate V ((i : Int) % 2 == 1)) (ns ++ [V]) := by
  obtain ⟨hn, h⟩ := h
  refine ⟨by simp [hn], ?_⟩
  rcases h with ⟨rfl, rfl⟩ | ⟨rfl, rfl, hN⟩ | ⟨hne, hf, h1, hlast⟩
  · simp at hn
    subst hn
    by_cases hV : V = 0
    · subst hV
      refine .inr (.inl ⟨rfl, rfl, ?_⟩)
      unfold leastOf at hl
      split at hl
      · rename_i h; exact h.2
      · omega
    · refine .inr (.inr ⟨by simp [hV], ?_, by omega, ?_⟩)
      · rw [List.nil_append, flagLens_one V (by omega)]
        simp
      · intro y hy
        rw [List.nil_append, List.getLast?_replicate, if_neg hV] at hy
        simp at hy
        simp [hy]
  · simp at hn
    subst hn
    have hV : 1 ≤ V := by simpa [leastOf] using hl
    refine .inr (.inr ⟨by simp; omega, ?_, by omega, ?_⟩)
    · rw [List.nil_append, flagLens_one V hV]
      simp
    · intro y hy
      rw [List.nil_append, List.getLast?_replicate, if_neg (by omega)] at hy
      simp at hy
      simp [hy]
  · have hV : 1 ≤ V := by
      unfold leastOf at hl
      rw [if_neg (by omega)] at hl
      exact hl
    refine .inr (.inr ⟨by simp [hne], ?_, by omega, ?_⟩)
    · rw [flagLens_snoc acc hne V hV _ ?_, hf]
      intro y hy he
      have := hlast y hy
      rw [this] at he
      obtain ⟨m, rfl⟩ : ∃ m, i = m + 1 := ⟨i - 1, by omega⟩
      rw [Nat.add_sub_cancel] at he
      have h2 : ((m : Int) % 2 == 1) ≠ (((m + 1 : Nat) : Int) % 2 == 1) := by
        rcases (by omega : (m : Int) % 2 = 0 ∧ ((m + 1 : Nat) : Int) % 2 = 1 ∨ (m : Int) % 2 = 1 ∧ ((m + 1 : Nat) : Int) % 2 = 0) with ⟨a, b⟩ | ⟨a, b⟩ <;> rw [a, b] <;> decide
      exact h2 he
    · intro y hy
      rw [List.getLast?_append, List.getLast?_replicate, if_neg (by omega)] at hy
      simp at hy
      simp [← hy]
theorem finB_ok {n : Nat} {R : List Bool × List UInt8 × Nat} {l : List Bool} {rest : List UInt8} (h : R = (l, rest, 0)) : finB n R = (l, n - rest.length, 0) := by subst h; rfl
theorem rf_only (M N : Nat) : ∀ (k i : Nat) (b : List UInt8) (acc l : List Bool) (rest : List UInt8) (ns : List Nat), i + k = N → FInv N i acc ns → rf M N k i b acc = (l, rest, 0) → ∃ ns', FInv N N l ns' ∧ laidU ns ++ b = laidU ns' ++ rest
  | 0, i, b, acc, l, rest, ns, hk, hI, h => by
    simp only [rf, Prod.mk.injEq] at h
    obtain ⟨rfl, rfl, _⟩ := h
    obtain rfl : i = N := by omega
    exact ⟨ns, hI, rfl⟩
  | k + 1, i, b, acc, l, rest, ns, hk, hI, h => by
    have hf := finB_ok (n := 0) h
    by_cases hE : guE b = 0
    · obtain ⟨V, hV⟩ : ∃ v, guV b = v := ⟨_, rfl⟩
      by_cases hVr : M - acc.length < V
      · have := (finB_5 (n := 0) (M := M) (N := N) (k := k) (i := i) (acc := acc) hE hV hVr).symm.trans hf
        simp at this
      · by_cases hL : leastOf N i ≤ V
        · obtain ⟨h1', h2, h3⟩ := ruE_0 (m := M - acc.length) hE hV (by omega)
          have g1 : suE b 0 (M - acc.length) = 0 := h1'
          have g2 : suV b 0 (M - acc.length) = V := h2
          have g3 : rlE b 0 (M - acc.length) (leastOf N i) = 0 := by unfold rlE; rw [if_pos g1, g2, if_neg (by omega)]
          have g4 : rlV b 0 (M - acc.length) (leastOf N i) = V := by unfold rlV; rw [if_pos g3, g2]
          have g5 : suB b 0 (M - acc.length) = b.drop (guK b) := by show b.drop (ruK b (M - acc.length)) = _; rw [h3]
          rw [rf, if_pos g3, g4, g5] at h
          obtain ⟨ns', q1, q2⟩ := rf_only M N k (i + 1) _ _ l rest _ (by omega) (hI.next (by omega) hL) h
          refine ⟨ns', q1, ?_⟩
          rw [← q2, laidU_app]
          have hu := gu_only b hE
          rw [hV] at hu
          simp [laidU, hu]
        · have hl1 : leastOf N i = 1 ∧ V = 0 := by
            unfold leastOf at hL ⊢
            split at hL
            · omega
            · rename_i hh; rw [if_neg hh]; omega
          have := (finB_4 (n := 0) (M := M) (N := N) (k := k) (i := i) (acc := acc) hE (by rw [hV]; exact hl1.2) hl1.1).symm.trans hf
          simp at this
    · have := (finB_e (n := 0) (M := M) (N := N) (k := k) (i := i) (acc := acc) rfl hE).symm.trans hf
      simp only [Prod.mk.injEq] at this
      exact absurd this.2.2 hE
/-- What GetFlags takes off is what Flags lays. -/
theorem getF_only (bs : List UInt8) (most : Int) (l : List Bool) (u : Nat) (h : getF bs most = (l, u, 0)) : u ≤ bs.length ∧ flagsB l = bs.take u := by
  obtain ⟨N, hN⟩ : ∃ v, guV bs = v := ⟨_, rfl⟩
  by_cases hE : guE bs = 0
  · by_cases hm : clampM most + 1 < N
    · rw [getF_5 hE hN hm] at h
      simp at h
    · rw [getF_0 hE hN rfl (by omega)] at h
      obtain ⟨R, hR⟩ : ∃ R, rf (clampM most) N N 0 (bs.drop (guK bs)) [] = R := ⟨_, rfl⟩
      rw [hR] at h
      obtain ⟨l', rest, e⟩ := R
      unfold finB at h
      split at h
      · rename_i he
        simp only [Prod.mk.injEq, and_true] at h he
        obtain ⟨rfl, hu⟩ := h
        subst he
        obtain ⟨ns, hI, h1⟩ := rf_only _ _ _ _ _ _ _ _ [] (Nat.zero_add _) ⟨rfl, .inl ⟨rfl, rfl⟩⟩ hR
        have hfl : flagLens l' = ns := by
          obtain ⟨hn, hI⟩ := hI
          rcases hI with ⟨rfl, rfl⟩ | ⟨rfl, rfl, hN1⟩ | ⟨_, hf, _⟩
          · rfl
          · simp at hn; omega
          · exact hf
        have hg := gu_only bs hE
        rw [hN] at hg
        have e1 : bs = flagsB l' ++ rest := by
          unfold flagsB
          rw [hfl, hI.1, List.append_assoc, ← h1, hg]
          simp [laidU]
        have hl : bs.length = (flagsB l').length + rest.length := by have := congrArg List.length e1; rwa [List.length_append] at this
        have hu' : u = (flagsB l').length := by omega
        refine ⟨by omega, ?_⟩
        rw [hu', e1]
        simp
      · rename_i he
        simp only [Prod.mk.injEq] at h
        exact absurd h.2.2 he
  · rw [getF_e rfl hE] at h
    simp only [Prod.mk.injEq] at h
    exact absurd h.2.2 hE
end Go.Proofs.Ytjmflggnnchojaa
