/-
  TWO SLICES OF BYTES THAT CAME IN BY VALUE, opened.
-/
import Derived.Test.YtlbodickflljfaaActs
import Derived.OpenShut
namespace Go.Proofs.Ytlbodickflljfaa
open Go.ChangeShapes Go.WideShapes Go.ChangeAt Go.RowKit Dsk
theorem okWide_arr {P : Program} {w : World} {r : Reach} {base : Nat} {t : TypeId} {v : Value} {n : Nat} {e : TypeId} (ht : P.underlying t = some (.array n e)) (h : Value.okWide P w r base t v) : ∃ cs, v = .agg cs ∧ cs.size = P.cellsOf t := by
  simp only [Value.okWide, ht] at h
  obtain ⟨cs, h1, h2, _⟩ := h
  exact ⟨cs, h1, h2⟩
theorem open_cell31 {H : Type} {enc : TypeId × Value → H} {W : World} {m : Nat} {v : Value} {y : DataW H × List MemPlace} (g : DataW.trod enc Try.prog W 0 (fun _ => true) true m 31 [v] = some y) (hw : ∀ m ∈ y.1.weights Try.prog 31, m ≤ reachBytes) :
    ∃ (bs : List UInt8) (a : Option Addr) (c : Nat), v = .slice a bs.length c ∧ bs.length ≤ c ∧ c ≤ 140737488351232 ∧ BytesAt W a bs := by
  have hsl : ∃ a l c, v = .slice a l c := by
    rcases open_ints Try.underlying31 Try.underlying5 cells5 g with ⟨hcs, _⟩ | ⟨x, l, c, zs, hcs, _⟩
    · simp only [List.cons.injEq, and_true] at hcs; exact ⟨_, _, _, hcs⟩
    · simp only [List.cons.injEq, and_true] at hcs; exact ⟨_, _, _, hcs⟩
  obtain ⟨a3, l3, c3, e3⟩ := hsl
  rw [e3] at g
  obtain ⟨bs, h1, h2, h3, h4⟩ := open_bytes (enc := enc) (W := W) (a := a3) (len := l3) (cap := c3) (d := y.1) (p := y.2) ⟨m, g⟩ (fun elems spare he => by
    refine hw _ ?_
    rw [he]
    simp [DataW.weights, Try.underlying31])
  exact ⟨bs, a3, c3, by rw [e3, h1], by omega, h3, h4⟩
set_option maxRecDepth 100000 in
theorem open_pair {H : Type} {enc : TypeId × Value → H} {W : World} {base : Nat} {v : Value} {d : DataW H} {p : List MemPlace}
    (hv : Value.okWide Try.prog W .any base 47 v) (h : DataW.Trod enc Try.prog W 0 (fun _ => true) true 47 v d p) (hw : ∀ m ∈ d.weights Try.prog 47, m ≤ reachBytes) :
    ∃ (a b : List UInt8) (aa ba : Option Addr) (ac bc : Nat), v = .agg #[.slice aa a.length ac, .slice ba b.length bc] ∧ a.length ≤ 140737488355328 ∧ b.length ≤ 140737488355328 ∧ BytesAt W aa a ∧ BytesAt W ba b := by
  obtain ⟨cs, rfl, hsz⟩ := okWide_arr Try.underlying47 hv
  rw [show Try.prog.cellsOf 47 = 2 by kernel_rfl] at hsz
  obtain ⟨l⟩ := cs
  match l, hsz with
  | [c0, c1], _ =>
  obtain ⟨fuel, hf⟩ := h
  obtain ⟨xs, m, _, hx, _, hl, hel⟩ := DataW.trod_array Try.underlying47 hf
  match xs, hl with
  | [y0, y1], _ =>
  have hy0 := hel 0 (by omega)
  have hy1 := hel 1 (by omega)
  rw [show ([y0, y1] : List _)[0]? = some y0 from rfl] at hy0
  rw [show ([y0, y1] : List _)[1]? = some y1 from rfl] at hy1
  simp only [Prod.mk.injEq] at hx
  have q0 : DataW.trod enc Try.prog W 0 (fun _ => true) true m 31 [c0] = some y0 := by simpa [Value.cells, show Try.prog.cellsOf 31 = 1 by kernel_rfl] using hy0
  have q1 : DataW.trod enc Try.prog W 0 (fun _ => true) true m 31 [c1] = some y1 := by simpa [Value.cells, show Try.prog.cellsOf 31 = 1 by kernel_rfl] using hy1
  obtain ⟨a, aa, ac, e0, l0, k0, b0⟩ := open_cell31 q0 (fun m' hm' => hw m' (by
    rw [hx.1]; simp only [DataW.weights, Try.underlying47]; exact weightsAll_mem (by simp) hm'))
  obtain ⟨b, ba, bc, e1, l1, k1, b1⟩ := open_cell31 q1 (fun m' hm' => hw m' (by
    rw [hx.1]; simp only [DataW.weights, Try.underlying47]; exact weightsAll_mem (by simp) hm'))
  exact ⟨a, b, aa, ba, ac, bc, by rw [e0, e1], by omega, by omega, b0, b1⟩
end Go.Proofs.Ytlbodickflljfaa
