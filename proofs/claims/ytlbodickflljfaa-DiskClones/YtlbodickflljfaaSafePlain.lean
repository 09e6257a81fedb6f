/-
  WHAT A START KEEPS: the safe bytes, and of the others each or nought; and a file's way through remove, create, append, sync, append, start.
-/
import Derived.Test.YtlbodickflljfaaWhole
namespace Go.Proofs.Ytlbodickflljfaa
open Go.RowKit Go.Maps Dsk
theorem cutLen_get (i s n : Nat) (d : List UInt8) (h1 : i + s ≤ n) (h2 : n ≤ d.length) (j : Nat) : (j < i + s → (cutLen i s n d)[j]? = d[j]?) ∧ ((cutLen i s n d)[j]? = d[j]? ∨ (cutLen i s n d)[j]? = some 0) := by
  unfold cutLen
  have ht : (d.take (i + s)).length = i + s := by simp; omega
  by_cases ha : j < i + s
  · have : (d.take (i + s) ++ List.replicate (n - (i + s)) 0 ++ d.drop n)[j]? = d[j]? := by
      rw [List.append_assoc, List.getElem?_append_left (by omega), List.getElem?_take, if_pos ha]
    exact ⟨fun _ => this, Or.inl this⟩
  · refine ⟨fun h => absurd h ha, ?_⟩
    by_cases hb : j < n
    · right
      rw [List.append_assoc, List.getElem?_append_right (by omega), List.getElem?_append_left (by simp; omega), ht, List.getElem?_replicate, if_pos (by omega)]
    · left
      rw [List.getElem?_append_right (by simp; omega), List.getElem?_drop]
      congr 1
      simp; omega
theorem surv_keeps : ∀ (fuel i e : Nat) (d k : List UInt8), i ≤ d.length → e ≤ i → e ≤ (surv fuel i e d k).1 ∧ ∀ j, (j < i → (surv fuel i e d k).2.1[j]? = d[j]?) ∧ ((surv fuel i e d k).2.1[j]? = d[j]? ∨ (surv fuel i e d k).2.1[j]? = some 0)
  | 0, i, e, d, k, h, he => by simp [surv]
  | fuel + 1, i, e, d, k, h, he => by
    by_cases hi : i < d.length
    · obtain ⟨g1, g2⟩ := nextAt_gt hi
      obtain ⟨nx, hnx⟩ : ∃ nx, nextAt i d.length = nx := ⟨_, rfl⟩
      rw [hnx] at g1 g2
      obtain ⟨s, hs⟩ : ∃ s, stays k (nx - i) = s := ⟨_, rfl⟩
      have hsl : s ≤ nx - i := by rw [← hs]; exact stays_le _ _
      rw [surv_step _ _ _ _ _ hi hnx hs]
      have hl := cutLen_len i s nx d (by omega) g2
      obtain ⟨r1, r2⟩ := surv_keeps fuel nx (if 0 < s then i + s else e) (cutLen i s nx d) (k.drop 1) (by omega) (by split <;> omega)
      refine ⟨by revert r1; split <;> omega, fun j => ?_⟩
      obtain ⟨c1, c2⟩ := cutLen_get i s nx d (by omega) g2 j
      obtain ⟨q1, q2⟩ := r2 j
      refine ⟨fun hj => by rw [q1 (by omega), c1 (by omega)], ?_⟩
      rcases q2 with q2 | q2
      · rw [q2]; exact c2
      · exact Or.inr q2
    · rw [surv_end _ _ _ _ _ hi]
      exact ⟨Nat.le_refl _, fun j => ⟨fun _ => rfl, Or.inl rfl⟩⟩
/-- The bytes a file has behind a Start: a, then some of b, some of them nought. -/
theorem survF_two (a b k : List UInt8) : ∃ r : List UInt8, (survF ⟨a ++ b, a.length⟩ k).data = a ++ r ∧ r.length ≤ b.length ∧ ∀ j, j < r.length → r.getD j 0 = 0 ∨ r.getD j 0 = b.getD j 0 := by
  have hle : a.length ≤ (a ++ b).length := by simp
  obtain ⟨h1, h2⟩ := surv_keeps (a ++ b).length a.length a.length (a ++ b) k hle (Nat.le_refl _)
  obtain ⟨h3, h4⟩ := surv_le (a ++ b).length a.length a.length (a ++ b) k hle (Nat.le_refl _)
  unfold survF
  simp only
  obtain ⟨e, d, k', hr⟩ : ∃ e d k', surv (a ++ b).length a.length a.length (a ++ b) k = (e, d, k') := ⟨_, _, _, rfl⟩
  rw [hr] at h1 h2 h3 h4 ⊢
  simp only at h1 h2 h3 h4 ⊢
  have hp : d.take a.length = a := by
    apply List.ext_getElem?
    intro j
    by_cases hj : j < a.length
    · rw [List.getElem?_take, if_pos hj, (h2 j).1 hj, List.getElem?_append_left hj]
    · rw [List.getElem?_eq_none (by simp; omega), List.getElem?_eq_none (by omega)]
  refine ⟨(d.take e).drop a.length, ?_, by simp at h3 ⊢; omega, fun j hj => ?_⟩
  · have := List.take_append_drop a.length (d.take e)
    rw [List.take_take, Nat.min_eq_left h1, hp] at this
    exact this.symm
  · have hje : a.length + j < e := by simp at hj; omega
    have hd : ((d.take e).drop a.length)[j]? = d[a.length + j]? := by
      rw [List.getElem?_drop, List.getElem?_take, if_pos hje]
    rw [List.getD_eq_getElem?_getD, hd]
    rcases (h2 (a.length + j)).2 with h | h
    · right
      rw [h, List.getElem?_append_right (by omega), show a.length + j - a.length = j by omega, List.getD_eq_getElem?_getD]
    · left; rw [h]; rfl
theorem fget_surv : ∀ (l : List (Nm × Fl)) (k : List UInt8) (nm : Nm) (f : Fl), fget nm l = some f → ∃ k', fget nm (survAll l k) = some (survF f k')
  | [], _, _, _, h => by simp [fget] at h
  | p :: r, k, nm, f, h => by
    by_cases hp : p.1 = nm
    · simp only [fget, List.find?_cons, hp, beq_self_eq_true, Option.map_some, Option.some.injEq] at h
      exact ⟨k, by simp [survAll, fget, hp, h]⟩
    · have hb : (p.1 == nm) = false := by simpa using hp
      have : fget nm r = some f := by simpa [fget, List.find?_cons, hb] using h
      obtain ⟨k', hk⟩ := fget_surv r (survK p.2 k) nm f this
      exact ⟨k', by simpa [survAll, fget, List.find?_cons, hb] using hk⟩
/-- Power is on, none is to fail, and there is room for a mebibyte. -/
structure Up (S : Dk) : Prop where
  ok : Ok S
  down : S.down = false
  said : S.said = false
  most : S.most = 1048576
def Z : Nm := [122, 122]
theorem Z_named : named Z = true := by decide
theorem Up.now {S : Dk} (h : Up S) : now S = false := by simp [Dsk.now, h.said]
theorem Up.step {S : Dk} (h : Up S) (d : Bool) (fs : List (Nm × Fl)) : (stepS S d fs).files = fs ∧ (stepS S d fs).down = false ∧ (stepS S d fs).said = false := by
  unfold stepS; rw [h.now]; exact ⟨rfl, h.down, h.said⟩
theorem Up.stepE {S : Dk} (h : Up S) : stepE S = 0 := by unfold Dsk.stepE; rw [h.now]; rfl
theorem fhas_del (nm : Nm) (l : List (Nm × Fl)) : fhas nm (fdel nm l) = false := by
  cases e : fhas nm (fdel nm l) with
  | false => rfl
  | true =>
    obtain ⟨f, hf⟩ := fhas_some e
    exact absurd rfl ((fdel_mem nm l (nm, f)).1 (fget_mem hf)).2
theorem up_remove {S : Dk} (h : Up S) : Up (removeS S Z) ∧ fhas Z (removeS S Z).files = false := by
  have ok := Ok.remove h.ok Z
  revert ok
  unfold removeS
  by_cases hf : findE S Z = 0
  · rw [if_pos hf]
    obtain ⟨h1, h2, h3⟩ := h.step S.done (fdel Z S.files)
    exact fun ok => ⟨⟨ok, h2, h3, by rw [stepS_most]; exact h.most⟩, by rw [h1]; exact fhas_del Z S.files⟩
  · rw [if_neg hf]
    refine fun _ => ⟨h, ?_⟩
    cases e : fhas Z S.files with
    | false => rfl
    | true => exact absurd (stay_find h.ok h.down e) hf
theorem up_create {S : Dk} (h : Up S) (hn : fhas Z S.files = false) : (64 ≤ S.files.length → createE S Z = 21 ∧ createS S Z = S) ∧ (¬ 64 ≤ S.files.length → createE S Z = 0 ∧ Up (createS S Z) ∧ fget Z (createS S Z).files = some ⟨[], 0⟩) := by
  have ok := Ok.create h.ok Z
  have hr : refuse S [Z] = 0 := by simp [refuse, Z_named, h.down]
  revert ok
  unfold createE createS
  rw [if_pos hr, if_pos hr, hn]
  simp only [Bool.false_eq_true, if_false]
  intro ok
  refine ⟨fun h6 => by rw [if_pos h6, if_pos h6]; exact ⟨rfl, rfl⟩, fun h6 => ?_⟩
  rw [if_neg h6] at ok
  rw [if_neg h6, if_neg h6]
  obtain ⟨h1, h2, h3⟩ := h.step S.done (fput Z ⟨[], 0⟩ S.files)
  exact ⟨h.stepE, ⟨ok, h2, h3, by rw [stepS_most]; exact h.most⟩, by rw [h1]; exact fget_put_same Z _ h.ok.ris⟩
theorem up_find {S : Dk} (h : Up S) {f : Fl} (hf : fget Z S.files = some f) : findE S Z = 0 ∧ getF S Z = f := by
  have hh : fhas Z S.files = true := by
    cases e : fhas Z S.files with
    | true => rfl
    | false => rw [fget_none.2 e] at hf; cases hf
  exact ⟨stay_find h.ok h.down hh, by unfold getF; rw [hf]; rfl⟩
theorem up_append {S : Dk} (h : Up S) {f : Fl} (hf : fget Z S.files = some f) (p : List UInt8) : (1048576 - used S.files < p.length → appendE S Z p = 21 ∧ appendS S Z p = S) ∧ (¬ 1048576 - used S.files < p.length → appendE S Z p = 0 ∧ Up (appendS S Z p) ∧ fget Z (appendS S Z p).files = some ⟨f.data ++ p, f.safe⟩) := by
  have ok := Ok.append h.ok Z p
  obtain ⟨h0, hg⟩ := up_find h hf
  revert ok
  unfold appendE appendS
  rw [if_pos h0, if_pos h0, h.most, hg]
  intro ok
  refine ⟨fun h6 => by rw [if_pos h6, if_pos h6]; exact ⟨rfl, rfl⟩, fun h6 => ?_⟩
  rw [if_neg h6] at ok
  rw [if_neg h6, if_neg h6]
  obtain ⟨h1, h2, h3⟩ := h.step true (fput Z ⟨f.data ++ p, f.safe⟩ S.files)
  exact ⟨h.stepE, ⟨ok, h2, h3, by rw [stepS_most]; exact h.most⟩, by rw [h1]; exact fget_put_same Z _ h.ok.ris⟩
theorem up_sync {S : Dk} (h : Up S) {f : Fl} (hf : fget Z S.files = some f) : removeE S Z = 0 ∧ Up (syncS S Z) ∧ fget Z (syncS S Z).files = some ⟨f.data, f.data.length⟩ := by
  have ok := Ok.sync h.ok Z
  obtain ⟨h0, hg⟩ := up_find h hf
  revert ok
  unfold removeE syncS
  rw [if_pos h0, if_pos h0, hg]
  intro ok
  obtain ⟨h1, h2, h3⟩ := h.step false (fput Z ⟨f.data, f.data.length⟩ S.files)
  exact ⟨h.stepE, ⟨ok, h2, h3, by rw [stepS_most]; exact h.most⟩, by rw [h1]; exact fget_put_same Z _ h.ok.ris⟩
theorem up_start {S : Dk} (h : Ok S) (hm : S.most = 1048576) (k : List UInt8) : Up (startS S k) := ⟨h.start k, rfl, rfl, hm⟩
theorem up_read {S : Dk} (h : Up S) {a b : List UInt8} (hf : fget Z S.files = some ⟨a ++ b, a.length⟩) (k : List UInt8) : findE (startS S k) Z = 0 ∧ ∃ r : List UInt8, readB (startS S k) Z = a ++ r ∧ r.length ≤ b.length ∧ ∀ j, j < r.length → r.getD j 0 = 0 ∨ r.getD j 0 = b.getD j 0 := by
  obtain ⟨k', hk⟩ := fget_surv S.files k Z _ hf
  have hk2 : fget Z (startS S k).files = some (survF ⟨a ++ b, a.length⟩ k') := hk
  obtain ⟨h0, _⟩ := up_find (up_start h.ok h.most k) hk2
  obtain ⟨r, h1, h2, h3⟩ := survF_two a b k'
  exact ⟨h0, r, by unfold readB; rw [if_pos h0, hk2]; exact h1, h2, h3⟩
end Go.Proofs.Ytlbodickflljfaa
