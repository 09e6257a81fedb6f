/-
  OPERATIONS THAT CAME IN, opened.
-/
import Derived.Test.YtpplnomomcdemaaOpen
import Derived.Deep.Slices
namespace Go.Proofs.Ytpplnomomcdemaa
open Go.ChangeShapes Go.WideShapes Go.ChangeAt Go.RowKit Leb
theorem cells23 : Try.prog.cellsOf 23 = 5 := by kernel_rfl
instance : Inhabited Opn := ⟨⟨0, [], 0, 0, []⟩⟩
theorem five {w : World} {base : Nat} {a : Addr} {cs : List Value} (h : w.cells? base a 5 = some cs) : ∃ v0 v1 v2 v3 v4, cs = [v0, v1, v2, v3, v4] ∧ w.cell? (a.add 0) = some v0 ∧ w.cell? (a.add 1) = some v1 ∧ w.cell? (a.add 2) = some v2 ∧ w.cell? (a.add 3) = some v3 ∧ w.cell? (a.add 4) = some v4 := by
  unfold World.cells? at h
  split at h
  · simp only [show List.range 5 = [0, 1, 2, 3, 4] from rfl, List.mapM_cons, List.mapM_nil, Option.bind_eq_bind, Option.bind_eq_some_iff, Option.pure_def, Option.some.injEq] at h
    obtain ⟨v0, h0, _, ⟨v1, h1, _, ⟨v2, h2, _, ⟨v3, h3, _, ⟨v4, h4, _, rfl, rfl⟩, rfl⟩, rfl⟩, rfl⟩, rfl⟩ := h
    exact ⟨v0, v1, v2, v3, v4, rfl, h0, h1, h2, h3, h4⟩
  · cases h
theorem one_cell {t : TypeId} (h : Try.prog.cellsOf t = 1) (cs : List Value) (k : Nat) (v : Value) (hk : cs[k]? = some v) : (cs.drop k).take (Try.prog.cellsOf t) = [v] := by
  rw [h]
  obtain ⟨hlt, e⟩ := List.getElem?_eq_some_iff.1 hk
  rw [List.drop_eq_getElem_cons hlt, e]
  rfl
/-- One operation, of five cells. -/
theorem open_op {H : Type} {enc : TypeId × Value → H} {W : World} {n : Nat} {v0 v1 v2 v3 v4 : Value} {x : DataW H × List MemPlace}
    (h : DataW.trod enc Try.prog W 0 (fun _ => true) true n 23 [v0, v1, v2, v3, v4] = some x) : ∃ a : Opn, [v0, v1, v2, v3, v4] = oc a ∧ a.Ok := by
  obtain ⟨xs, m, _, hx, _, hlen, hf⟩ := DataW.trod_struct Try.underlying23 h
  match xs, hlen with
  | [y0, y1, y2, y3, y4], _ =>
  have g0 : DataW.trod enc Try.prog W 0 (fun _ => true) true m 3 (([v0, v1, v2, v3, v4].drop 0).take (Try.prog.cellsOf 3)) = some y0 := hf 0 _ rfl
  rw [one_cell (t := 3) (by kernel_rfl) [v0, v1, v2, v3, v4] 0 v0 rfl] at g0
  have g1 : DataW.trod enc Try.prog W 0 (fun _ => true) true m 9 (([v0, v1, v2, v3, v4].drop 1).take (Try.prog.cellsOf 9)) = some y1 := hf 1 _ rfl
  rw [one_cell (t := 9) (by kernel_rfl) [v0, v1, v2, v3, v4] 1 v1 rfl] at g1
  have g2 : DataW.trod enc Try.prog W 0 (fun _ => true) true m 3 (([v0, v1, v2, v3, v4].drop 2).take (Try.prog.cellsOf 3)) = some y2 := hf 2 _ rfl
  rw [one_cell (t := 3) (by kernel_rfl) [v0, v1, v2, v3, v4] 2 v2 rfl] at g2
  have g3 : DataW.trod enc Try.prog W 0 (fun _ => true) true m 3 (([v0, v1, v2, v3, v4].drop 3).take (Try.prog.cellsOf 3)) = some y3 := hf 3 _ rfl
  rw [one_cell (t := 3) (by kernel_rfl) [v0, v1, v2, v3, v4] 3 v3 rfl] at g3
  have g4 : DataW.trod enc Try.prog W 0 (fun _ => true) true m 9 (([v0, v1, v2, v3, v4].drop 4).take (Try.prog.cellsOf 9)) = some y4 := hf 4 _ rfl
  rw [one_cell (t := 9) (by kernel_rfl) [v0, v1, v2, v3, v4] 4 v4 rfl] at g4
  obtain ⟨n0, e0, _, w0⟩ := DataW.trod_int Try.underlying3 g0
  obtain ⟨s1, e1, _, w1⟩ := DataW.trod_string Try.underlying9 g1
  obtain ⟨n2, e2, _, w2⟩ := DataW.trod_int Try.underlying3 g2
  obtain ⟨n3, e3, _, w3⟩ := DataW.trod_int Try.underlying3 g3
  obtain ⟨s4, e4, _, w4⟩ := DataW.trod_string Try.underlying9 g4
  simp only [List.cons.injEq, and_true] at e0 e1 e2 e3 e4
  have hb0 := bounds_i64 w0
  have hb2 := bounds_i64 w2
  have hb3 := bounds_i64 w3
  have hs1 : s1 = strOf s1.data.toList := by simp [strOf]
  have hs4 : s4 = strOf s4.data.toList := by simp [strOf]
  refine ⟨⟨n0, s1.data.toList, n2, n3, s4.data.toList⟩, ?_, ⟨by simp only; omega, by simp only; omega, by simp only; omega, by simp only; omega, by simp only; omega, by simp only; omega, by simpa using w1, by simpa using w4⟩⟩
  rw [e0, e1, e2, e3, e4]
  simp only [oc]
  rw [← hs1, ← hs4]
set_option maxRecDepth 100000 in
/-- What came in as a slice of operations. -/
theorem open_ops {H : Type} {enc : TypeId × Value → H} {W : World} {base : Nat} {a : Option Addr} {len cap : Nat} {d : DataW H} {p : List MemPlace}
    (hv : Value.okWide Try.prog W .any base 29 (.slice a len cap))
    (h : DataW.Trod enc Try.prog W 0 (fun _ => true) true 29 (.slice a len cap) d p) (hw : ∀ m ∈ d.weights Try.prog 29, m ≤ reachBytes) :
    ∃ l : List Opn, l.length = len ∧ len ≤ 140737488355328 ∧ OpsAt W a l ∧ ∀ x ∈ l, x.Ok := by
  obtain ⟨fuel, hf⟩ := h
  rcases Deep.open_slice Try.underlying29 hf with ⟨hcs, _⟩ | ⟨x, l, c, m, n, D, Pl, hcs, _, hl, hm, hmm, hx, hall⟩
  · simp [Value.cells] at hcs
    obtain ⟨rfl, rfl, rfl⟩ := hcs
    exact ⟨[], rfl, by omega, fun h => absurd rfl h, fun x hx => by simp at hx⟩
  · simp [Value.cells] at hcs
    obtain ⟨rfl, rfl, rfl⟩ := hcs
    simp only [if_true] at hmm
    subst hmm
    have hs : x.spot = none := by
      simp only [Value.okWide, Try.underlying29, Cell.okWide, Cell.ok] at hv
      obtain ⟨_, _, _, hs, _⟩ := hv
      exact hs
    simp only [Prod.mk.injEq] at hx
    have hd := hx.1
    have hlen : len ≤ 140737488355328 := by
      have := hw ((len + (m - len)) * Try.prog.bytesOf 23) (by rw [hd]; simp [DataW.weights, Try.underlying29])
      rw [show Try.prog.bytesOf 23 = 56 by kernel_rfl] at this
      simp only [reachBytes] at this
      omega
    have each : ∀ i, i < len → ∃ q : Opn, W.rangeAt x.block (x.off + i * 5) (oc q) ∧ q.Ok := by
      intro i hi
      obtain ⟨cs', h1, h2⟩ := hall i (by omega)
      rw [cells23] at h1
      obtain ⟨v0, v1, v2, v3, v4, rfl, k0, k1, k2, k3, k4⟩ := five h1
      obtain ⟨q, e, hq⟩ := open_op h2
      obtain ⟨b, off, spot⟩ := x
      simp only at hs
      subst hs
      simp only [Addr.add_mid] at k0 k1 k2 k3 k4
      refine ⟨q, fun j v hj => ?_, hq⟩
      rw [← e] at hj
      match j, hj with
      | 0, hj => cases hj; exact k0
      | 1, hj => cases hj; exact k1
      | 2, hj => cases hj; exact k2
      | 3, hj => cases hj; exact k3
      | 4, hj => cases hj; exact k4
    obtain ⟨q, hq⟩ := Deep.choose_lt each
    refine ⟨(List.range len).map q, by simp, hlen, fun _ => ?_, fun y hy => ?_⟩
    · obtain ⟨b, off, spot⟩ := x
      obtain rfl : spot = none := hs
      refine ⟨b, off, rfl, fun j p hj => ?_⟩
      have hjl : j < len := by have := (List.getElem?_eq_some_iff.1 hj).1; simpa using this
      have hpj : q j = p := by simpa [hjl] using hj
      subst hpj
      exact (hq j hjl).1
    · obtain ⟨j, hj, rfl⟩ := List.mem_map.1 hy
      exact (hq j (by simpa using hj)).2
end Go.Proofs.Ytpplnomomcdemaa
