/-
  LISTS OF HASHES THAT CAME IN, opened.
-/
import Derived.Test.YtgcgblecendijaaOpen
import Derived.Test.YtgcgblecendijaaKeys
import Derived.Deep.Slices
namespace Go.Proofs.Ytgcgblecendijaa
open Go.ChangeShapes Go.WideShapes Go.ChangeAt Go.RowKit
/-- Thirty-two cells that read as an array of bytes. -/
theorem open_cells24 {H : Type} {enc : TypeId × Value → H} {W : World} {n : Nat} {cs : List Value} {x : DataW H × List MemPlace} (hl : cs.length = 32)
    (h : DataW.trod enc Try.prog W 0 (fun _ => true) true n 29 cs = some x) : ∃ q : Hs, q.length = 32 ∧ cs = c8 q := by
  obtain ⟨xs, m, _, _, _, _, hi⟩ := DataW.trod_array Try.underlying29 h
  have each : ∀ j, j < 32 → ∃ b : UInt8, cs[j]? = some (.int .u8 (b.toNat : Int)) := fun j hj => by
    have h1 := hi j hj
    rw [cells5, Nat.mul_one] at h1
    have e : (cs.drop j).take 1 = [cs[j]] := by
      rw [List.drop_eq_getElem_cons (show j < cs.length by omega)]; rfl
    rw [e] at h1
    cases hx : xs[j]? with
    | none => rw [hx] at h1; have := List.getElem?_eq_none_iff.1 hx; omega
    | some y =>
      rw [hx] at h1
      obtain ⟨z, hz, _, hw⟩ := DataW.trod_int Try.underlying5 h1
      obtain ⟨b, hb⟩ := byte_of hw
      refine ⟨b, ?_⟩
      simp at hz
      rw [List.getElem?_eq_getElem (by omega), hz, hb]
  obtain ⟨q, hq⟩ := Deep.choose_lt each
  refine ⟨(List.range 32).map q, by simp, ?_⟩
  apply List.ext_getElem?
  intro i
  by_cases hi : i < 32
  · rw [hq i hi, c8_get _ i (by simpa using hi)]; simp [List.getD, hi]
  · rw [List.getElem?_eq_none (by omega), List.getElem?_eq_none (by simp [c8_len]; omega)]
set_option maxRecDepth 100000 in
/-- What came in as a slice of hashes. -/
theorem open_hashes {H : Type} {enc : TypeId × Value → H} {W : World} {base : Nat} {a : Option Addr} {len cap : Nat} {d : DataW H} {p : List MemPlace}
    (hv : Value.okWide Try.prog W .any base 22 (.slice a len cap))
    (h : DataW.Trod enc Try.prog W 0 (fun _ => true) true 22 (.slice a len cap) d p) (hw : ∀ m ∈ d.weights Try.prog 22, m ≤ reachBytes) :
    ∃ l : List Hs, l.length = len ∧ len ≤ cap ∧ len * 32 + 4096 ≤ 140737488355328 ∧ All32 l ∧ HsAt W a l := by
  obtain ⟨fuel, hf⟩ := h
  rcases Deep.open_slice Try.underlying22 hf with ⟨hcs, _⟩ | ⟨x, l, c, m, n, D, Pl, hcs, _, hl, hm, hmm, hx, hall⟩
  · simp [Value.cells] at hcs
    obtain ⟨rfl, rfl, rfl⟩ := hcs
    exact ⟨[], rfl, Nat.le_refl _, by omega, All32.nil, fun h => absurd rfl h⟩
  · simp [Value.cells] at hcs
    obtain ⟨rfl, rfl, rfl⟩ := hcs
    simp only [if_true] at hmm
    subst hmm
    have hs : x.spot = none := by
      simp only [Value.okWide, Try.underlying22, Cell.okWide, Cell.ok] at hv
      obtain ⟨_, _, _, hs, _⟩ := hv
      exact hs
    simp only [Prod.mk.injEq] at hx
    have hd := hx.1
    have hlen : len * 32 + 4096 ≤ 140737488355328 := by
      have := hw ((len + (m - len)) * Try.prog.bytesOf 29) (by rw [hd]; simp [DataW.weights, Try.underlying22])
      rw [show Try.prog.bytesOf 29 = 32 by kernel_rfl] at this
      simp only [reachBytes] at this
      omega
    obtain ⟨b, off, spot⟩ := x
    simp only at hs
    subst hs
    have each : ∀ i, i < len → ∃ q : Hs, q.length = 32 ∧ W.rangeAt b (off + i * 32) (c8 q) := by
      intro i hi
      obtain ⟨cs', h1, h2⟩ := hall i (by omega)
      rw [cells24] at h1
      obtain ⟨_, hcl, hce⟩ := World.cells?_some h1
      obtain ⟨q, hq, rfl⟩ := open_cells24 hcl h2
      refine ⟨q, hq, fun j v hj => ?_⟩
      have hj32 : j < 32 := by have := (List.getElem?_eq_some_iff.1 hj).1; rwa [hcl] at this
      have := hce j hj32
      rw [Addr.add_mid, Addr.add_mid, hj] at this
      exact this
    obtain ⟨q, hq⟩ := Deep.choose_lt each
    have h32 : All32 ((List.range len).map q) := fun y hy => by
      obtain ⟨i, hi, rfl⟩ := List.mem_map.1 hy
      exact (hq i (by simpa using hi)).1
    refine ⟨(List.range len).map q, by simp, hl, hlen, h32, fun _ => ⟨b, off, rfl, fun j hj => ?_⟩⟩
    rw [flat_len h32, List.length_map, List.length_range] at hj
    have hj1 : j / 32 < len := by omega
    have hj2 : j % 32 < 32 := Nat.mod_lt _ (by omega)
    have hje : j = j / 32 * 32 + j % 32 := by omega
    have hfl := flat_at h32 (j := j / 32) (h := q (j / 32)) (by simp [hj1]) (j % 32) hj2
    rw [← hje] at hfl
    have := (hq _ hj1).2 (j % 32) _ (c8_get (q (j / 32)) (j % 32) (by rw [(hq _ hj1).1]; exact hj2))
    rw [hfl, ← this]
    congr 2; omega
end Go.Proofs.Ytgcgblecendijaa
