/-
  WHAT IS LAID IS READ BACK, a byte more or less is none: mathematics.
-/
import Derived.Test.YtpplnomomcdemaaAwake
namespace Go.Proofs.Ytpplnomomcdemaa
open Go.RowKit Leb
theorem getM_some {bs : List UInt8} {l : List Opn} (hb : bs.length ≤ maxLen) (h : getM bs = some l) : readM bs = some l ∧ layB l = bs ∧ Good l := by
  unfold getM at h
  cases hr : readM bs with
  | none => rw [hr] at h; cases h
  | some m =>
    rw [hr] at h
    have h2 : (if putE m = 0 ∧ layB m = bs then some m else none) = some l := h
    split at h2
    · rename_i hc
      cases h2
      exact ⟨rfl, hc.2, (good_iff (readM_ok hb hr)).1 hc.1⟩
    · cases h2
theorem back_more {l : List Opn} (h : Good l) (hb : (layB l).length + 1 ≤ maxLen) (z : UInt8) : getM (layB l ++ [z]) = none := by
  cases hg : getM (layB l ++ [z]) with
  | none => rfl
  | some m =>
    obtain ⟨h1, h2, _⟩ := getM_some (by rw [List.length_append]; simpa using hb) hg
    rw [read_back h [z]] at h1
    cases h1
    have := congrArg List.length h2
    rw [List.length_append] at this
    simp at this
theorem back_less {l : List Opn} (h : Good l) {k : Nat} (hk : (layB l).length = k + 1) (hb : k + 1 ≤ maxLen) : getM ((layB l).take k) = none := by
  cases hg : getM ((layB l).take k) with
  | none => rfl
  | some m =>
    obtain ⟨_, h2, h3⟩ := getM_some (by rw [List.length_take]; omega) hg
    have e : layB l = layB m ++ (layB l).drop k := by rw [h2, List.take_append_drop]
    have h4 := read_back h3 ((layB l).drop k)
    have h5 := read_back h []
    rw [List.append_nil] at h5
    rw [← e, h5] at h4
    cases h4
    have := congrArg List.length h2
    rw [List.length_take] at this
    omega
theorem layB_pos (l : List Opn) : 1 ≤ (layB l).length := by
  have h1 : 1 ≤ (uintB (runs (l.map (·.kind))).length).length := by rw [uintB]; split <;> simp
  have h2 : (uintB (runs (l.map (·.kind))).length).length ≤ (runsB (l.map (·.kind))).length := by simp [runsB]
  unfold layB
  rw [List.length_append, List.length_append, List.length_append, List.length_append]
  omega
theorem layB_len {l : List Opn} (h : Good l) : (layB l).length ≤ 200000000 := by
  have hn := h.few
  have h1 := runsB_len (l.map (·.kind)) (fun z hz => by obtain ⟨x, hx, rfl⟩ := List.mem_map.1 hz; exact ⟨(h.ok x hx).k0, (h.ok x hx).k1⟩) (by rw [List.length_map]; omega)
  have h2 := layNB_len l hn (fun x hx => by have := h.name hx; omega)
  have h3 := runsB_len (diffs (l.map (·.pos))) (diffs_int _) (by rw [diffs_len, List.length_map]; omega)
  have h4 := runsB_len (l.map (·.by_)) (fun z hz => by obtain ⟨x, hx, rfl⟩ := List.mem_map.1 hz; exact ⟨(h.ok x hx).b0, (h.ok x hx).b1⟩) (by rw [List.length_map]; omega)
  have h5 := textsB_len l (fun x hx => by have := h.text hx; omega)
  unfold layB
  rw [List.length_append, List.length_append, List.length_append, List.length_append]
  omega
end Go.Proofs.Ytpplnomomcdemaa
