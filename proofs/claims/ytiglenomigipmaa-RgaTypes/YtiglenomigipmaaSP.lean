/-
  What is kept of a row's shape by Remove; the order it is gone through in, too.
-/
import Derived.Test.YtiglenomigipmaaSO
namespace Go.Proofs.Ytiglenomigipmaa
open Go.RowKit Go.Shelf
section
variable {st : List Stm} {k : Nat} {s : Stm}
theorem gone_get (hs : st[k]? = some s) {i : Nat} {t : Stm} (h : (st.set k { s with gone := true })[i]? = some t) : ∃ u, st[i]? = some u ∧ t.id = u.id ∧ t.below = u.below ∧ (i ≠ k → t = u) := by
  rw [List.getElem?_set] at h
  by_cases e : k = i
  · subst e
    have hk := (List.getElem?_eq_some_iff.1 hs).1
    rw [if_pos rfl, if_pos hk] at h
    cases h
    exact ⟨s, hs, rfl, rfl, fun h => absurd rfl h⟩
  · rw [if_neg e] at h
    exact ⟨t, h, rfl, rfl, fun _ => rfl⟩
theorem gone_put (hs : st[k]? = some s) {i : Nat} {u : Stm} (h : st[i]? = some u) : ∃ t, (st.set k { s with gone := true })[i]? = some t ∧ t.id = u.id ∧ t.below = u.below ∧ (i ≠ k → t = u) := by
  rw [List.getElem?_set]
  by_cases e : k = i
  · subst e
    rw [hs] at h; cases h
    exact ⟨{ s with gone := true }, by rw [if_pos rfl, if_pos (List.getElem?_eq_some_iff.1 hs).1], rfl, rfl, fun h => absurd rfl h⟩
  · exact ⟨u, by rw [if_neg e]; exact h, rfl, rfl, fun _ => rfl⟩
theorem gone_id (hs : st[k]? = some s) (b : Nat) : idAt (st.set k { s with gone := true }) b = idAt st b := by
  cases hb : st[b]? with
  | none =>
    have : (st.set k { s with gone := true })[b]? = none := by rw [List.getElem?_eq_none_iff, List.length_set]; exact List.getElem?_eq_none_iff.1 hb
    unfold idAt; rw [this, hb]
  | some u =>
    obtain ⟨t, ht, h1, _⟩ := gone_put hs hb
    rw [idAt_of ht, idAt_of hb, h1]
theorem Wf.gone (h : Wf st) (hk : 0 < k) (hs : st[k]? = some s) : Wf (st.set k { s with gone := true }) := by
  refine ⟨?_, fun i t ht => ?_, fun i t hi ht => ?_, fun i j t u hi hj ht hu he => ?_, fun i t ht b hb => ?_, fun i j t u b ht hu hb hc => ?_, fun i t ht => ?_, fun b hb hl => ?_⟩
  · obtain ⟨r, hr, h1, h2⟩ := h.root
    obtain ⟨t, ht, _, _, h5⟩ := gone_put hs hr
    have := h5 (by omega)
    subst this
    exact ⟨t, ht, h1, h2⟩
  · obtain ⟨u, hu, h1, _⟩ := gone_get hs ht
    rw [h1]; exact h.ok i u hu
  · obtain ⟨u, hu, h1, _⟩ := gone_get hs ht
    rw [h1]; exact h.pos i u hi hu
  · obtain ⟨u1, hu1, e1, _⟩ := gone_get hs ht
    obtain ⟨u2, hu2, e2, _⟩ := gone_get hs hu
    exact h.uniq i j u1 u2 hi hj hu1 hu2 (by rw [← e1, ← e2]; exact he)
  · obtain ⟨u, hu, _, e, _⟩ := gone_get hs ht
    rw [List.length_set]
    exact h.bel i u hu b (by rw [← e]; exact hb)
  · obtain ⟨u1, hu1, _, e1, _⟩ := gone_get hs ht
    obtain ⟨u2, hu2, _, e2, _⟩ := gone_get hs hu
    exact h.par i j u1 u2 b hu1 hu2 (by rw [← e1]; exact hb) (by rw [← e2]; exact hc)
  · obtain ⟨u, hu, _, e, _⟩ := gone_get hs ht
    rw [e]
    refine (h.srt i u hu).imp (fun hab => ?_)
    rw [gone_id hs, gone_id hs]; exact hab
  · rw [List.length_set] at hl
    obtain ⟨i, u, hu, hbu⟩ := h.all b hb hl
    obtain ⟨t, ht, _, e, _⟩ := gone_put hs hu
    exact ⟨i, t, ht, by rw [e]; exact hbu⟩
end
theorem Wf.remF {st : List Stm} (h : Wf st) (x : Idn) : Wf (remF st x) := by
  unfold Go.Proofs.Ytiglenomigipmaa.remF
  cases hp : plc st x with
  | none => exact h
  | some k =>
    obtain ⟨hk, s, hs, _⟩ := plc_at hp
    show Wf (st.set k { stAt st k with gone := true })
    rw [stAt_of hs]
    exact h.gone hk hs
end Go.Proofs.Ytiglenomigipmaa
