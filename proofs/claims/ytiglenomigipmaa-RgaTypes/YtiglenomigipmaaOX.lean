/-
  WHAT CAME IN AS TWO HASHES BY VALUE.
-/
import Derived.Test.YtiglenomigipmaaRM
namespace Go.Proofs.Ytiglenomigipmaa
open Go.ChangeShapes Go.WideShapes Go.ChangeAt Go.RowKit
theorem okWide_arr {P : Program} {w : World} {r : Reach} {base : Nat} {t : TypeId} {v : Value} {n : Nat} {e : TypeId} (ht : P.underlying t = some (.array n e)) (h : Value.okWide P w r base t v) : ∃ cs, v = .agg cs ∧ cs.size = P.cellsOf t := by
  simp only [Value.okWide, ht] at h
  obtain ⟨cs, h1, h2, _⟩ := h
  exact ⟨cs, h1, h2⟩
/-- Thirty-two cells that read as an array of bytes. -/
theorem open_cells24 {H : Type} {enc : TypeId × Value → H} {W : World} {n : Nat} {cs : List Value} {x : DataW H × List MemPlace} (hl : cs.length = 32)
    (h : DataW.trod enc Try.prog W 0 (fun _ => true) true n 35 cs = some x) : ∃ q : List UInt8, q.length = 32 ∧ cs = c8 q := by
  obtain ⟨xs, m, _, _, _, _, hi⟩ := DataW.trod_array Try.underlying35 h
  have each : ∀ j, j < 32 → ∃ b : UInt8, cs[j]? = some (.int .u8 (b.toNat : Int)) := fun j hj => by
    have h1 := hi j hj
    rw [cells5, Nat.mul_one] at h1
    have e : (cs.drop j).take 1 = [cs[j]] := by
      rw [List.drop_eq_getElem_cons (show j < cs.length by omega)]; rfl
    rw [e] at h1
    cases hx : xs[j]? with
    | none => rw [hx] at h1; have := List.getElem?_eq_none_iff.1 hx; omega
    | some y =>
      rw [hx] at h1
      obtain ⟨z, hz, _, hw⟩ := DataW.trod_int Try.underlying5 h1
      obtain ⟨b, hb⟩ := byte_of hw
      refine ⟨b, ?_⟩
      simp at hz
      rw [List.getElem?_eq_getElem (by omega), hz, hb]
  obtain ⟨q, hq⟩ := Deep.choose_lt each
  refine ⟨(List.range 32).map q, by simp, ?_⟩
  apply List.ext_getElem?
  intro i
  by_cases hi : i < 32
  · rw [hq i hi, c8_get _ i (by simpa using hi)]; simp [List.getD, hi]
  · rw [List.getElem?_eq_none (by omega), List.getElem?_eq_none (by simp [c8_len]; omega)]
set_option maxRecDepth 100000 in
theorem open_two {H : Type} {enc : TypeId × Value → H} {W : World} {base : Nat} {v : Value} {d : DataW H} {p : List MemPlace}
    (hv' : Value.okWide Try.prog W .any base 46 v) (h : DataW.Trod enc Try.prog W 0 (fun _ => true) true 46 v d p) : ∃ q r : List UInt8, q.length = 32 ∧ r.length = 32 ∧ v = .agg (c8 q ++ c8 r).toArray := by
  obtain ⟨cs, rfl, hsz⟩ := okWide_arr Try.underlying46 hv'
  rw [show Try.prog.cellsOf 46 = 64 by kernel_rfl] at hsz
  obtain ⟨fuel, hf⟩ := h
  simp only [Value.cells] at hf
  obtain ⟨xs, m, _, _, _, hl, hel⟩ := DataW.trod_array Try.underlying46 hf
  match xs, hl with
  | [y0, y1], _ =>
  have hy0 := hel 0 (by omega)
  have hy1 := hel 1 (by omega)
  rw [show ([y0, y1] : List _)[0]? = some y0 from rfl, show Try.prog.cellsOf 35 = 32 by kernel_rfl] at hy0
  rw [show ([y0, y1] : List _)[1]? = some y1 from rfl, show Try.prog.cellsOf 35 = 32 by kernel_rfl] at hy1
  have hsz' : cs.toList.length = 64 := by simpa using hsz
  obtain ⟨q, hq, e0⟩ := open_cells24 (by simp; omega) hy0
  obtain ⟨r, hr, e1⟩ := open_cells24 (by simp; omega) hy1
  refine ⟨q, r, hq, hr, ?_⟩
  have e2 : cs.toList = c8 q ++ c8 r := by
    rw [← e0, ← e1]
    simp only [Nat.zero_mul, Nat.one_mul, List.drop_zero]
    have e3 : (cs.toList.drop 32).take 32 = cs.toList.drop 32 := List.take_of_length_le (by simp; omega)
    rw [e3, List.take_append_drop]
  rw [← e2]
end Go.Proofs.Ytiglenomigipmaa
