/-
  WHAT IS LAID IS TAKEN OFF AS IT WAS.
-/
import Derived.Test.YtpplnomomcdemaaDeltas
namespace Go.Proofs.Ytpplnomomcdemaa
open Go.RowKit Leb
def flat {α : Type} (rs : List (α × Nat)) : List α := rs.flatMap fun p => List.replicate p.2 p.1
def good {α : Type} : List (α × Nat) → Prop
  | [] => True
  | p :: rs => 1 ≤ p.2 ∧ (∀ q, rs.head? = some q → q.1 ≠ p.1) ∧ good rs
theorem good_runs {α : Type} [DecidableEq α] : ∀ l : List α, good (runs l) ∧ flat (runs l) = l
  | [] => ⟨trivial, rfl⟩
  | x :: xs => by
    obtain ⟨h1, h2⟩ := good_runs xs
    unfold runs
    cases hr : runs xs with
    | nil =>
      have : xs = [] := (runs_nil_iff xs).1 hr
      subst this
      exact ⟨⟨Nat.le_refl _, fun q hq => by simp at hq, trivial⟩, by simp [flat]⟩
    | cons p r =>
      obtain ⟨y, n⟩ := p
      rw [hr] at h1 h2
      simp only
      split
      · rename_i hxy
        subst hxy
        refine ⟨⟨by simp, h1.2.1, h1.2.2⟩, ?_⟩
        rw [← h2]
        simp [flat, List.replicate_succ]
      · rename_i hxy
        refine ⟨⟨Nat.le_refl _, fun q hq => ?_, h1⟩, ?_⟩
        · simp at hq
          subst hq
          exact fun h => hxy h.symm
        · rw [← h2]
          simp [flat]
theorem rr_back (M : Nat) (hM : M ≤ 65536) (t : List UInt8) : ∀ (rs : List (Int × Nat)) (acc : List Int), good rs → (∀ y, acc.getLast? = some y → ∀ p, rs.head? = some p → p.1 ≠ y) → acc.length + (flat rs).length ≤ M → (∀ p ∈ rs, -9223372036854775808 ≤ p.1 ∧ p.1 ≤ 9223372036854775807) →
    rr M rs.length (laidI rs ++ t) acc = (acc ++ flat rs, t, 0)
  | [], acc, _, _, _, _ => by simp [rr, flat, laidI]
  | (x, v) :: rs, acc, hg, hl, hn, hi => by
    have hfl : (flat ((x, v) :: rs)).length = v + (flat rs).length := by simp [flat]
    rw [hfl] at hn
    obtain ⟨hv, hh, hg'⟩ := hg
    have hx := hi (x, v) (by simp)
    have e : laidI ((x, v) :: rs) ++ t = uintB v ++ (intB x ++ (laidI rs ++ t)) := by simp [laidI]
    have hu := gu_back v (intB x ++ (laidI rs ++ t)) (by simp only at hv; omega)
    have hs := gi_back x (laidI rs ++ t) hx.1 hx.2
    rw [e, List.length_cons, rr_step hu.1 hu.2.2 hu.2.1 (List.drop_left (l₁ := uintB v)) hv (by omega), if_pos hs.1, hs.2.2, hs.2.1, if_neg ?_, List.drop_left]
    · rw [rr_back M hM t rs (acc ++ List.replicate v x) hg' ?_ (by simp; omega) (fun p hp => hi p (by simp [hp]))]
      · simp [flat]
      · intro y hy p hp
        simp only at hv
        rw [List.getLast?_append, List.getLast?_replicate, if_neg (by omega)] at hy
        simp at hy
        rw [← hy]
        exact hh p hp
    · rintro ⟨hne, hlast⟩
      have : acc.getLast? = some x := by
        rw [List.getLast?_eq_getElem?, hlast]
        have hlt : acc.length - 1 < acc.length := by have := List.length_pos_iff.2 hne; omega
        rw [List.getElem?_eq_getElem hlt, Option.getD_some]
      exact hl x this (x, v) (by simp) rfl
theorem runs_mem {α : Type} [DecidableEq α] (l : List α) (p : α × Nat) (hp : p ∈ runs l) : p.1 ∈ l := by
  have h : ∀ rs : List (α × Nat), good rs → p ∈ rs → p.1 ∈ flat rs := by
    intro rs
    induction rs with
    | nil => intro _ h; cases h
    | cons q r ih =>
      intro hg h
      have hcons : flat (q :: r) = List.replicate q.2 q.1 ++ flat r := by simp [flat]
      rw [hcons]
      rcases List.mem_cons.1 h with rfl | h
      · exact List.mem_append_left _ (List.mem_replicate.2 ⟨by have := hg.1; omega, rfl⟩)
      · exact List.mem_append_right _ (ih hg.2.2 h)
  have := h (runs l) (good_runs l).1 hp
  rwa [(good_runs l).2] at this
/-- What Runs lays is taken off by GetRuns, whatever stands behind. -/
theorem getR_back (l : List Int) (t : List UInt8) (most : Int) (hl : ∀ x ∈ l, -9223372036854775808 ≤ x ∧ x ≤ 9223372036854775807) (hn : l.length ≤ clampM most) : getR (runsB l ++ t) most = (l, (runsB l).length, 0) := by
  have hM := clampM_le most
  have hrl := runs_len l
  have e : runsB l ++ t = uintB (runs l).length ++ (laidI (runs l) ++ t) := by simp [runsB]
  have hu := gu_back (runs l).length (laidI (runs l) ++ t) (by omega)
  have hb := rr_back (clampM most) hM t (runs l) [] (good_runs l).1 (fun y hy => by simp at hy) (by rw [(good_runs l).2]; simpa using hn) (fun p hp => hl _ (runs_mem l p hp))
  rw [← e] at hu
  have hd : (runsB l ++ t).drop (uintB (runs l).length).length = laidI (runs l) ++ t := by rw [e, List.drop_left]
  rw [getR_0 hu.1 hu.2.2 hu.2.1 (by omega), hd, hb, (good_runs l).2]
  show ([] ++ l, (runsB l ++ t).length - t.length, 0) = _
  simp
theorem dsums_diffs (l : List Int) (hl : ∀ x ∈ l, -9223372036854775808 ≤ x ∧ x ≤ 9223372036854775807) : dsums (diffs l) = l := by
  have hlen := diffs_len l
  have hg : ∀ i, i < l.length → (diffs l)[i]?.getD 0 = dif l i := fun i hi => by simp [diffs, hi]
  have hv : ∀ i (hi : i < l.length), -9223372036854775808 ≤ l[i]?.getD 0 ∧ l[i]?.getD 0 ≤ 9223372036854775807 := fun i hi => by
    rw [List.getElem?_eq_getElem hi, Option.getD_some]; exact hl _ (List.getElem_mem hi)
  have hs : ∀ j, j < l.length → dsum (diffs l) j = l[j]?.getD 0 := by
    intro j
    induction j with
    | zero =>
      intro hj
      have h := hv 0 hj
      show (diffs l)[0]?.getD 0 = _
      rw [hg 0 hj]
      show RowKit.wrap64 (l[0]?.getD 0 - 0) = _
      unfold RowKit.wrap64
      omega
    | succ m ih =>
      intro hj
      have h := hv (m + 1) hj
      have h2 := hv m (by omega)
      show RowKit.wrap64 ((diffs l)[m + 1]?.getD 0 + dsum (diffs l) m) = _
      rw [hg (m + 1) hj, ih (by omega)]
      show RowKit.wrap64 (RowKit.wrap64 (l[m + 1]?.getD 0 - l[m]?.getD 0) + l[m]?.getD 0) = _
      unfold RowKit.wrap64
      omega
  apply same_end (by simp [dsums, hlen])
  intro j hj
  have hj' : j < l.length := by simpa [dsums, hlen] using hj
  rw [show (dsums (diffs l))[j]?.getD 0 = dsum (diffs l) j by simp [dsums, hlen, hj'], hs j hj']
theorem runs_many {α : Type} [DecidableEq α] (l : List α) (p : α × Nat) (hp : p ∈ runs l) : p.2 ≤ l.length := by
  have h : ∀ rs : List (α × Nat), p ∈ rs → p.2 ≤ (flat rs).length := by
    intro rs
    induction rs with
    | nil => intro h; cases h
    | cons q r ih =>
      intro h
      have hcons : (flat (q :: r)).length = q.2 + (flat r).length := by simp [flat]
      rw [hcons]
      rcases List.mem_cons.1 h with rfl | h
      · omega
      · have := ih h; omega
  have := h (runs l) hp
  rwa [(good_runs l).2] at this
theorem uintB_two (n : Nat) (h : n < 16384) : (uintB n).length ≤ 2 ∧ 1 ≤ (uintB n).length := by
  rw [uintB]
  split
  · simp
  · rw [uintB, if_pos (by omega)]
    simp
theorem laidI_short (l : List Int) (hl : ∀ x ∈ l, -9223372036854775808 ≤ x ∧ x ≤ 9223372036854775807) (hn : l.length ≤ 255) : ∀ rs : List (Int × Nat), (∀ p ∈ rs, p ∈ runs l) → (laidI rs).length ≤ 12 * rs.length
  | [], _ => by simp [laidI]
  | p :: rs, h => by
    have ih := laidI_short l hl hn rs (fun q hq => h q (by simp [hq]))
    have hp := h p (by simp)
    have h1 := runs_many l p hp
    have h2 := hl _ (runs_mem l p hp)
    have h3 := uintB_two p.2 (by omega)
    have h4 := intB_len10 p.1 h2.1 h2.2
    have e : (laidI (p :: rs)).length = (uintB p.2).length + (intB p.1).length + (laidI rs).length := by simp [laidI]; omega
    rw [e, List.length_cons]
    omega
/-- The numbers that rise by one step. -/
def fr (f s : Int) : Nat → Int
  | 0 => f
  | k + 1 => RowKit.wrap64 (fr f s k + s)
def evs (f s : Int) (n : Nat) : List Int := (List.range n).map (fr f s)
theorem fr_int (f s : Int) (hf : -9223372036854775808 ≤ f ∧ f ≤ 9223372036854775807) (k : Nat) : -9223372036854775808 ≤ fr f s k ∧ fr f s k ≤ 9223372036854775807 := by
  cases k with
  | zero => exact hf
  | succ m => unfold fr RowKit.wrap64; omega
theorem evs_int (f s : Int) (hf : -9223372036854775808 ≤ f ∧ f ≤ 9223372036854775807) (n : Nat) : ∀ x ∈ evs f s n, -9223372036854775808 ≤ x ∧ x ≤ 9223372036854775807 := by
  intro x hx
  obtain ⟨k, _, rfl⟩ := List.mem_map.1 hx
  exact fr_int f s hf k
theorem evs_len (f s : Int) (n : Nat) : (evs f s n).length = n := by simp [evs]
theorem evs_next (f s : Int) (n : Nat) : evs f s (n + 1) = evs f s n ++ [fr f s n] := by simp [evs, List.range_succ]
theorem diffs_evs (f s : Int) (hf : -9223372036854775808 ≤ f ∧ f ≤ 9223372036854775807) (hs : -9223372036854775808 ≤ s ∧ s ≤ 9223372036854775807) (n : Nat) : diffs (evs f s (n + 1)) = f :: List.replicate n s := by
  apply same_end (by simp [diffs_len, evs_len])
  intro j hj
  rw [diffs_len, evs_len] at hj
  have hg : ∀ i, i < n + 1 → (evs f s (n + 1))[i]?.getD 0 = fr f s i := fun i hi => by simp [evs, hi]
  have e : (diffs (evs f s (n + 1)))[j]?.getD 0 = dif (evs f s (n + 1)) j := by
    unfold diffs
    rw [List.getElem?_map, List.getElem?_range (by rw [evs_len]; exact hj)]
    rfl
  rw [e]
  unfold dif
  rw [hg j hj]
  cases j with
  | zero =>
    show RowKit.wrap64 (f - 0) = f
    unfold RowKit.wrap64
    omega
  | succ m =>
    have hm := fr_int f s hf m
    show RowKit.wrap64 (fr f s (m + 1) - (evs f s (n + 1))[m]?.getD 0) = _
    rw [hg m (by omega), List.getElem?_cons_succ, List.getElem?_replicate, if_pos (by omega), Option.getD_some]
    show RowKit.wrap64 (RowKit.wrap64 (fr f s m + s) - fr f s m) = s
    unfold RowKit.wrap64
    omega
theorem runs_two (f s : Int) (n : Nat) : (runs (f :: List.replicate n s)).length ≤ 2 := by
  cases n with
  | zero => simp [runs]
  | succ m =>
    rw [runs, runs_rep]
    simp only
    split <;> simp
theorem even_len (f s : Int) (hf : -9223372036854775808 ≤ f ∧ f ≤ 9223372036854775807) (hs : -9223372036854775808 ≤ s ∧ s ≤ 9223372036854775807) (n : Nat) (hn : n ≤ 255) : 1 ≤ (runsB (diffs (evs f s n))).length ∧ (runsB (diffs (evs f s n))).length ≤ 25 := by
  have hsh := laidI_short (diffs (evs f s n)) (diffs_int _) (by rw [diffs_len, evs_len]; exact hn) (runs (diffs (evs f s n))) (fun p hp => hp)
  have h2 : (runs (diffs (evs f s n))).length ≤ 2 := by
    cases n with
    | zero => simp [evs, diffs, runs]
    | succ m => rw [diffs_evs f s hf hs m]; exact runs_two f s m
  have hu : (uintB (runs (diffs (evs f s n))).length).length = 1 := by rw [uintB, if_pos (by omega)]; rfl
  unfold runsB
  rw [List.length_append, hu]
  omega
end Go.Proofs.Ytpplnomomcdemaa
