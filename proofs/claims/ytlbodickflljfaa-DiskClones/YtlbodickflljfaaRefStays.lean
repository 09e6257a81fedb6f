/-
  WHAT STAYS OF A FILE, as the reference reckons it: the mathematics of its loop.
-/
import Derived.Test.YtlbodickflljfaaRefRename
namespace Go.Proofs.Ytlbodickflljfaa
open Go.RowKit Go.Maps Dsk
/-- The loop at place I: e the end so far, t of keep are taken, all what is written. -/
structure StyR (data keep : List UInt8) (safe I e t : Nat) (all : List UInt8) : Prop where
  ex : ∃ fuel d, surv data.length safe safe data keep = surv fuel I e d (keep.drop t) ∧ all = d.take I ∧ d.length = data.length ∧ d.drop I = data.drop I ∧ data.length - I ≤ fuel
  le : I ≤ data.length
  ee : e ≤ I
theorem StyR.start (data keep : List UInt8) (safe : Nat) (h : safe ≤ data.length) : StyR data keep safe safe safe 0 (data.take safe) :=
  ⟨⟨data.length, data, by simp, rfl, rfl, rfl, by omega⟩, h, Nat.le_refl _⟩
theorem StyR.step {data keep : List UInt8} {safe I e t : Nat} {all : List UInt8} (h : StyR data keep safe I e t all) (hI : I < data.length) {n k : Nat} (hn : n = nextAt I data.length - I) (hk : k = stays (keep.drop t) n) :
    StyR data keep safe (I + n) (if 0 < k then I + k else e) (t + 1) (all ++ ((data.drop I).take k ++ List.replicate (n - k) 0)) := by
  obtain ⟨fuel, d, h1, h2, h3, h4, h5⟩ := h.ex
  have hee := h.ee
  obtain ⟨g1, g2⟩ := nextAt_gt hI
  have hkn : k ≤ n := by rw [hk]; exact stays_le _ _
  obtain ⟨f, rfl⟩ : ∃ f, fuel = f + 1 := ⟨fuel - 1, by omega⟩
  have hnx : nextAt I d.length = I + n := by rw [h3]; omega
  have hs := surv_step f I e d (keep.drop t) (by omega) hnx (s := k) (by rw [hk]; congr 1; omega)
  have hcl : (cutLen I k (I + n) d).length = d.length := cutLen_len I k (I + n) d (by omega) (by omega)
  refine ⟨⟨f, cutLen I k (I + n) d, ?_, ?_, by rw [hcl, h3], ?_, by omega⟩, by omega, by split <;> omega⟩
  · rw [h1, hs, List.drop_drop]
  · rw [h2]
    unfold cutLen
    have e1 : d.take (I + k) = d.take I ++ (data.drop I).take k := by rw [← h4, List.take_add]
    have hl : (d.take (I + k) ++ List.replicate (I + n - (I + k)) (0 : UInt8)).length = I + n := by
      rw [List.length_append, List.length_take, List.length_replicate, h3, Nat.min_eq_left (by omega)]; omega
    rw [List.take_left' hl, e1, List.append_assoc, show I + n - (I + k) = n - k by omega]
  · unfold cutLen
    have hl : (d.take (I + k) ++ List.replicate (I + n - (I + k)) (0 : UInt8)).length = I + n := by
      rw [List.length_append, List.length_take, List.length_replicate, h3, Nat.min_eq_left (by omega)]; omega
    rw [List.drop_left' hl]
    have := congrArg (List.drop n) h4
    simpa [List.drop_drop] using this
theorem StyR.done {data keep : List UInt8} {safe I e t : Nat} {all : List UInt8} (h : StyR data keep safe I e t all) (hI : ¬ I < data.length) : survF ⟨data, safe⟩ keep = ⟨all.take e, e⟩ ∧ survK ⟨data, safe⟩ keep = keep.drop t := by
  obtain ⟨fuel, d, h1, h2, h3, h4, h5⟩ := h.ex
  have hle := h.le
  have e1 : surv data.length safe safe data keep = (e, d, keep.drop t) := by rw [h1, surv_end _ _ _ _ _ (by omega)]
  have e2 : all = d := by rw [h2, List.take_of_length_le (by omega)]
  unfold survF survK
  simp only [e1, e2, and_self]
end Go.Proofs.Ytlbodickflljfaa
