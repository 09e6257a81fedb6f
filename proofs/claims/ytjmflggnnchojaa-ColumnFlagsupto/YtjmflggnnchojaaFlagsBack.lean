/-
  TRUTHS THAT ARE LAID ARE TAKEN OFF AS THEY WERE.
-/
import Derived.Test.YtjmflggnnchojaaPutKit
namespace Go.Proofs.Ytjmflggnnchojaa
open Go.RowKit Leb
/-- Stretches of false and true in turn, the first one being number i. -/
def alt : Nat → List Nat → List Bool
  | _, [] => []
  | i, n :: r => List.replicate n ((i : Int) % 2 == 1) ++ alt (i + 1) r
theorem odd_next (i : Nat) : (((i + 1 : Nat) : Int) % 2 == 1) = !((i : Int) % 2 == 1) := by
  rcases (by omega : (i : Int) % 2 = 0 ∧ ((i + 1 : Nat) : Int) % 2 = 1 ∨ (i : Int) % 2 = 1 ∧ ((i + 1 : Nat) : Int) % 2 = 0) with ⟨a, b⟩ | ⟨a, b⟩ <;> rw [a, b] <;> decide
theorem alt_flat : ∀ (rs : List (Bool × Nat)) (i : Nat), good rs → (∀ p, rs.head? = some p → p.1 = ((i : Int) % 2 == 1)) → alt i (rs.map (·.2)) = flat rs
  | [], _, _, _ => rfl
  | (x, v) :: rs, i, hg, hh => by
    obtain ⟨_, h2, h3⟩ := hg
    have hx : x = ((i : Int) % 2 == 1) := hh _ rfl
    have e : flat ((x, v) :: rs) = List.replicate v x ++ flat rs := by simp [flat]
    rw [e, List.map_cons, alt, alt_flat rs (i + 1) h3 (fun p hp => ?_), hx]
    have := h2 p hp
    rw [odd_next, ← hx]
    simp only at this
    cases hq : p.1 <;> cases x <;> simp_all
theorem runs_head (l : List Bool) (p : Bool × Nat) (h : (runs l).head? = some p) : l.head? = some p.1 := by
  obtain ⟨hg, hf⟩ := good_runs l
  cases hr : runs l with
  | nil => rw [hr] at h; simp at h
  | cons q r =>
    rw [hr] at h hg hf
    simp only [List.head?_cons, Option.some.injEq] at h
    subst h
    rw [← hf]
    obtain ⟨n, hn⟩ : ∃ n, q.2 = n + 1 := ⟨q.2 - 1, by have := hg.1; omega⟩
    simp [flat, hn, List.replicate_succ]
theorem alt_flagLens (l : List Bool) : alt 0 (flagLens l) = l := by
  obtain ⟨hg, hf⟩ := good_runs l
  unfold flagLens
  by_cases h : l.head? = some true
  · rw [if_pos h, List.singleton_append, alt, List.replicate_zero, List.nil_append, alt_flat _ 1 hg, hf]
    intro p hp
    have := runs_head l p hp
    rw [h] at this
    rw [← Option.some.inj this]
    rfl
  · rw [if_neg h, List.nil_append, alt_flat _ 0 hg, hf]
    intro p hp
    have := runs_head l p hp
    cases hq : p.1
    · rfl
    · rw [hq] at this; exact absurd this h
theorem least_flagLens (l : List Bool) : ∀ (j n : Nat), (flagLens l)[j]? = some n → leastOf (flagLens l).length (0 + j) ≤ n := by
  intro j n hj
  have h1 : ∀ n ∈ (runs l).map (·.2), 1 ≤ n := by
    have : ∀ rs : List (Bool × Nat), good rs → ∀ n ∈ rs.map (·.2), 1 ≤ n := by
      intro rs
      induction rs with
      | nil => intro _ n h; cases h
      | cons p r ih =>
        intro hg n h
        rcases List.mem_cons.1 h with rfl | h
        · exact hg.1
        · exact ih hg.2.2 n h
    exact this _ (good_runs l).1
  have hle : ∀ N i, leastOf N i ≤ 1 := fun N i => by unfold leastOf; split <;> omega
  unfold flagLens at hj ⊢
  by_cases h : l.head? = some true
  · rw [if_pos h, List.singleton_append] at hj ⊢
    cases j with
    | zero =>
      have : runs l ≠ [] := by intro hr; have := (runs_nil_iff l).1 hr; subst this; simp at h
      have := List.length_pos_iff.2 this
      unfold leastOf
      rw [if_pos (by simp; omega)]
      omega
    | succ m =>
      have := h1 n (List.mem_of_getElem? (i := m) (by simpa using hj))
      exact Nat.le_trans (hle _ _) this
  · rw [if_neg h, List.nil_append] at hj ⊢
    exact Nat.le_trans (hle _ _) (h1 n (List.mem_of_getElem? hj))
theorem alt_len : ∀ (ns : List Nat) (i : Nat), (alt i ns).length = ns.sum
  | [], _ => rfl
  | n :: r, i => by rw [alt, List.length_append, List.length_replicate, alt_len r, List.sum_cons]
theorem rf_back (n M N : Nat) (t : List UInt8) : ∀ (ns : List Nat) (i : Nat) (acc : List Bool), (∀ x ∈ ns, x ≤ 1048576) → (∀ j x, ns[j]? = some x → leastOf N (i + j) ≤ x) → acc.length + ns.sum ≤ M →
    finB n (rf M N ns.length i (laidU ns ++ t) acc) = (acc ++ alt i ns, n - t.length, 0)
  | [], i, acc, _, _, _ => by simp [rf, finB, alt, laidU]
  | v :: ns, i, acc, hb, hl, hs => by
    rw [List.sum_cons] at hs
    have hv := hb v (by simp)
    have e : laidU (v :: ns) ++ t = uintB v ++ (laidU ns ++ t) := by simp [laidU]
    have hu := gu_back v (laidU ns ++ t) (by omega)
    rw [← e] at hu
    rw [List.length_cons, finB_next hu.1 hu.2.2 hu.2.1 (by omega) (by simpa using hl 0 v rfl) rfl, e, List.drop_left,
      rf_back n M N t ns (i + 1) (acc ++ List.replicate v ((i : Int) % 2 == 1)) (fun x hx => hb x (by simp [hx])) (fun j x hj => by have := hl (j + 1) x (by simpa using hj); rwa [show i + 1 + j = i + (j + 1) by omega]) (by simp; omega)]
    simp [alt]
theorem rf_long (n M N : Nat) (t : List UInt8) : ∀ (ns : List Nat) (i : Nat) (acc : List Bool), (∀ x ∈ ns, x ≤ 1048576) → (∀ j x, ns[j]? = some x → leastOf N (i + j) ≤ x) → acc.length ≤ M → M < acc.length + ns.sum →
    finB n (rf M N ns.length i (laidU ns ++ t) acc) = ([], 0, 5)
  | [], i, acc, _, _, h1, h2 => by simp at h2; omega
  | v :: ns, i, acc, hb, hl, h1, hs => by
    rw [List.sum_cons] at hs
    have hv := hb v (by simp)
    have e : laidU (v :: ns) ++ t = uintB v ++ (laidU ns ++ t) := by simp [laidU]
    have hu := gu_back v (laidU ns ++ t) (by omega)
    rw [← e] at hu
    by_cases hr : M - acc.length < v
    · rw [List.length_cons]
      exact finB_5 hu.1 hu.2.2 hr
    · rw [List.length_cons, finB_next hu.1 hu.2.2 hu.2.1 (by omega) (by simpa using hl 0 v rfl) rfl, e, List.drop_left]
      exact rf_long n M N t ns (i + 1) (acc ++ List.replicate v ((i : Int) % 2 == 1)) (fun x hx => hb x (by simp [hx])) (fun j x hj => by have := hl (j + 1) x (by simpa using hj); rwa [show i + 1 + j = i + (j + 1) by omega]) (by simp; omega) (by simp; omega)
/-- What Flags lays is taken off by GetFlags, whatever stands behind. -/
theorem getF_back (l : List Bool) (t : List UInt8) (most : Int) (hn : l.length ≤ clampM most) : getF (flagsB l ++ t) most = (l, (flagsB l).length, 0) := by
  have hM := clampM_le most
  have hle := flagLens_le _ l rfl
  have hs : (flagLens l).sum = l.length := by rw [← alt_len _ 0, alt_flagLens]
  have e : flagsB l ++ t = uintB (flagLens l).length ++ (laidU (flagLens l) ++ t) := by simp [flagsB]
  have hu := gu_back (flagLens l).length (laidU (flagLens l) ++ t) (by omega)
  rw [← e] at hu
  have hd : (flagsB l ++ t).drop (uintB (flagLens l).length).length = laidU (flagLens l) ++ t := by rw [e, List.drop_left]
  rw [getF_0 hu.1 hu.2.2 hu.2.1 (by omega), hd, rf_back _ (clampM most) _ t (flagLens l) 0 [] (fun x hx => by have := flagLens_mem l x hx; omega) (least_flagLens l) (by rw [hs]; simpa using hn), alt_flagLens]
  simp
/-- What Flags lays of more than may be is told to be too long. -/
theorem getF_long (l : List Bool) (t : List UInt8) (most : Int) (hn : clampM most < l.length) (hb : l.length ≤ 1048576) : getF (flagsB l ++ t) most = ([], 0, 5) := by
  have hM := clampM_le most
  have hle := flagLens_le _ l rfl
  have hs : (flagLens l).sum = l.length := by rw [← alt_len _ 0, alt_flagLens]
  have e : flagsB l ++ t = uintB (flagLens l).length ++ (laidU (flagLens l) ++ t) := by simp [flagsB]
  have hu := gu_back (flagLens l).length (laidU (flagLens l) ++ t) (by omega)
  rw [← e] at hu
  by_cases h : clampM most + 1 < (flagLens l).length
  · exact getF_5 hu.1 hu.2.2 h
  · have hd : (flagsB l ++ t).drop (uintB (flagLens l).length).length = laidU (flagLens l) ++ t := by rw [e, List.drop_left]
    rw [getF_0 hu.1 hu.2.2 hu.2.1 (by omega), hd]
    exact rf_long _ (clampM most) _ t (flagLens l) 0 [] (fun x hx => by have := flagLens_mem l x hx; omega) (least_flagLens l) (by simp) (by rw [hs]; simpa using hn)
end Go.Proofs.Ytjmflggnnchojaa
