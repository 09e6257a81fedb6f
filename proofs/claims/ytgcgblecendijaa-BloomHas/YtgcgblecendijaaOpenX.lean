/-
  WHAT CAME IN AS A HASH BY VALUE.
-/
import Derived.Test.YtgcgblecendijaaOpenH
namespace Go.Proofs.Ytgcgblecendijaa
open Go.RowKit
theorem okWide_arr {P : Program} {w : World} {r : Reach} {base : Nat} {t : TypeId} {v : Value} {n : Nat} {e : TypeId} (ht : P.underlying t = some (.array n e)) (h : Value.okWide P w r base t v) : ∃ cs, v = .agg cs ∧ cs.size = P.cellsOf t := by
  simp only [Value.okWide, ht] at h
  obtain ⟨cs, h1, h2, _⟩ := h
  exact ⟨cs, h1, h2⟩
set_option maxRecDepth 100000 in
/-- What came in as a hash by value. -/
theorem open_hash {H : Type} {enc : TypeId × Value → H} {W : World} {base : Nat} {v : Value} {d : DataW H} {p : List MemPlace}
    (hv' : Value.okWide Try.prog W .any base 29 v) (h : DataW.Trod enc Try.prog W 0 (fun _ => true) true 29 v d p) : ∃ q : Hs, q.length = 32 ∧ v = .agg (c8 q).toArray := by
  obtain ⟨cs, rfl, hsz⟩ := okWide_arr Try.underlying29 hv'
  rw [show Try.prog.cellsOf 29 = 32 by kernel_rfl] at hsz
  obtain ⟨fuel, hf⟩ := h
  simp only [Value.cells] at hf
  obtain ⟨q, hq, e⟩ := open_cells24 (by simpa using hsz) hf
  exact ⟨q, hq, by rw [← e]⟩
end Go.Proofs.Ytgcgblecendijaa
