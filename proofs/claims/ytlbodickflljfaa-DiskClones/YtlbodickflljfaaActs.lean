/-
  CALLS THAT CAME IN: a slice of Acts, opened.
-/
import Derived.Test.YtlbodickflljfaaPlayed
import Derived.Test.YtlbodickflljfaaOpen
import Derived.Deep.Slices
namespace Go.Proofs.Ytlbodickflljfaa
open Go.ChangeShapes Go.WideShapes Go.ChangeAt Go.RowKit Dsk
theorem cells33 : Try.prog.cellsOf 33 = 6 := by kernel_rfl
instance : Inhabited Act5 := ⟨⟨0, [], [], none, 0, 0, [], 0, false⟩⟩
theorem weightsAll_mem {H : Type} {P : Program} {e : TypeId} {d : DataW H} {m : Nat} : ∀ {l : List (DataW H)}, d ∈ l → m ∈ d.weights P e → m ∈ DataW.weightsAll P e l
  | x :: r, h, hm => by
    simp only [DataW.weightsAll, List.mem_append]
    rcases List.mem_cons.1 h with rfl | h
    · exact Or.inl hm
    · exact Or.inr (weightsAll_mem h hm)
theorem six {w : World} {base : Nat} {a : Addr} {cs : List Value} (h : w.cells? base a 6 = some cs) : ∃ v0 v1 v2 v3 v4 v5, cs = [v0, v1, v2, v3, v4, v5] ∧ w.cell? (a.add 0) = some v0 ∧ w.cell? (a.add 1) = some v1 ∧ w.cell? (a.add 2) = some v2 ∧ w.cell? (a.add 3) = some v3 ∧ w.cell? (a.add 4) = some v4 ∧ w.cell? (a.add 5) = some v5 := by
  unfold World.cells? at h
  split at h
  · simp only [show List.range 6 = [0, 1, 2, 3, 4, 5] from rfl, List.mapM_cons, List.mapM_nil, Option.bind_eq_bind, Option.bind_eq_some_iff, Option.pure_def, Option.some.injEq] at h
    obtain ⟨v0, h0, _, ⟨v1, h1, _, ⟨v2, h2, _, ⟨v3, h3, _, ⟨v4, h4, _, ⟨v5, h5, _, rfl, rfl⟩, rfl⟩, rfl⟩, rfl⟩, rfl⟩, rfl⟩ := h
    exact ⟨v0, v1, v2, v3, v4, v5, rfl, h0, h1, h2, h3, h4, h5⟩
  · cases h
theorem one_cell {t : TypeId} (h : Try.prog.cellsOf t = 1) (cs : List Value) (k : Nat) (v : Value) (hk : cs[k]? = some v) : (cs.drop k).take (Try.prog.cellsOf t) = [v] := by
  rw [h]
  obtain ⟨hlt, e⟩ := List.getElem?_eq_some_iff.1 hk
  rw [List.drop_eq_getElem_cons hlt, e]
  rfl
/-- One Act, of six cells. -/
theorem open_act {H : Type} {enc : TypeId × Value → H} {W : World} {n : Nat} {v0 v1 v2 v3 v4 v5 : Value} {x : DataW H × List MemPlace}
    (h : DataW.trod enc Try.prog W 0 (fun _ => true) true n 33 [v0, v1, v2, v3, v4, v5] = some x) (hw : ∀ m ∈ x.1.weights Try.prog 33, m ≤ reachBytes) :
    ∃ a : Act5, v0 = .int .u8 (a.kind.toNat : Int) ∧ v1 = .string (strOf a.name) ∧ v2 = .string (strOf a.now) ∧ v3 = .slice a.pa a.pn a.pc ∧ v4 = .int .i64 a.n ∧ v5 = .bool a.done ∧
      a.name.length ≤ maxLen ∧ a.now.length ≤ maxLen ∧ a.data.length = a.pn ∧ a.pn ≤ a.pc ∧ BytesAt W a.pa a.data ∧ a.n < 9223372036854775808 ∧ a.pc ≤ 140737488351232 := by
  obtain ⟨xs, m, _, hx, _, hlen, hf⟩ := DataW.trod_struct Try.underlying33 h
  match xs, hlen with
  | [y0, y1, y2, y3, y4, y5], _ =>
  have g0 : DataW.trod enc Try.prog W 0 (fun _ => true) true m 5 (([v0, v1, v2, v3, v4, v5].drop 0).take (Try.prog.cellsOf 5)) = some y0 := hf 0 _ rfl
  rw [one_cell (t := 5) (by kernel_rfl) [v0, v1, v2, v3, v4, v5] 0 v0 rfl] at g0
  have g1 : DataW.trod enc Try.prog W 0 (fun _ => true) true m 9 (([v0, v1, v2, v3, v4, v5].drop 1).take (Try.prog.cellsOf 9)) = some y1 := hf 1 _ rfl
  rw [one_cell (t := 9) (by kernel_rfl) [v0, v1, v2, v3, v4, v5] 1 v1 rfl] at g1
  have g2 : DataW.trod enc Try.prog W 0 (fun _ => true) true m 9 (([v0, v1, v2, v3, v4, v5].drop 2).take (Try.prog.cellsOf 9)) = some y2 := hf 2 _ rfl
  rw [one_cell (t := 9) (by kernel_rfl) [v0, v1, v2, v3, v4, v5] 2 v2 rfl] at g2
  have g3 : DataW.trod enc Try.prog W 0 (fun _ => true) true m 31 (([v0, v1, v2, v3, v4, v5].drop 3).take (Try.prog.cellsOf 31)) = some y3 := hf 3 _ rfl
  rw [one_cell (t := 31) (by kernel_rfl) [v0, v1, v2, v3, v4, v5] 3 v3 rfl] at g3
  have g4 : DataW.trod enc Try.prog W 0 (fun _ => true) true m 3 (([v0, v1, v2, v3, v4, v5].drop 4).take (Try.prog.cellsOf 3)) = some y4 := hf 4 _ rfl
  rw [one_cell (t := 3) (by kernel_rfl) [v0, v1, v2, v3, v4, v5] 4 v4 rfl] at g4
  have g5 : DataW.trod enc Try.prog W 0 (fun _ => true) true m 4 (([v0, v1, v2, v3, v4, v5].drop 5).take (Try.prog.cellsOf 4)) = some y5 := hf 5 _ rfl
  rw [one_cell (t := 4) (by kernel_rfl) [v0, v1, v2, v3, v4, v5] 5 v5 rfl] at g5
  obtain ⟨n0, e0, _, w0⟩ := DataW.trod_int Try.underlying5 g0
  obtain ⟨s1, e1, _, w1⟩ := DataW.trod_string Try.underlying9 g1
  obtain ⟨s2, e2, _, w2⟩ := DataW.trod_string Try.underlying9 g2
  obtain ⟨n4, e4, _, w4⟩ := DataW.trod_int Try.underlying3 g4
  obtain ⟨b5, e5, _⟩ := DataW.trod_bool Try.underlying4 g5
  simp only [List.cons.injEq, and_true] at e0 e1 e2 e4 e5
  obtain ⟨b, rfl⟩ := byte_of w0
  have hb4 := bounds_i64 w4
  have hsl : ∃ a l c, v3 = .slice a l c := by
    rcases open_ints Try.underlying31 Try.underlying5 cells5 g3 with ⟨hcs, _⟩ | ⟨x, l, c, zs, hcs, _⟩
    · simp only [List.cons.injEq, and_true] at hcs; exact ⟨_, _, _, hcs⟩
    · simp only [List.cons.injEq, and_true] at hcs; exact ⟨_, _, _, hcs⟩
  obtain ⟨a3, l3, c3, e3⟩ := hsl
  rw [e3] at g3
  obtain ⟨bs, h1, h2, h3, h4⟩ := open_bytes (enc := enc) (W := W) (a := a3) (len := l3) (cap := c3) (d := y3.1) (p := y3.2) ⟨m, g3⟩ (fun elems spare he => by
    refine hw _ ?_
    rw [hx]
    simp only [List.map_cons, List.map_nil, DataW.weights, Try.underlying33, DataW.weightsEach, List.mem_append]
    right; right; right; left
    rw [he]
    simp [DataW.weights, Try.underlying31])
  have hs1 : s1 = strOf s1.data.toList := by simp [strOf]
  have hs2 : s2 = strOf s2.data.toList := by simp [strOf]
  exact ⟨⟨b, s1.data.toList, s2.data.toList, a3, l3, c3, bs, n4, b5⟩, e0, by rw [e1]; exact congrArg Value.string hs1, by rw [e2]; exact congrArg Value.string hs2, e3, e4, e5, by simpa using w1, by simpa using w2, h1, h2, h4, by simp only; omega, h3⟩
set_option maxRecDepth 100000 in
/-- What came in as a slice of Acts. -/
theorem open_acts {H : Type} {enc : TypeId × Value → H} {W : World} {base : Nat} {a : Option Addr} {len cap : Nat} {d : DataW H} {p : List MemPlace}
    (hv : Value.okWide Try.prog W .any base 22 (.slice a len cap))
    (h : DataW.Trod enc Try.prog W 0 (fun _ => true) true 22 (.slice a len cap) d p) (hw : ∀ m ∈ d.weights Try.prog 22, m ≤ reachBytes) :
    ∃ l : List Act5, l.length = len ∧ len ≤ 140737488355328 ∧ ActsAt W a l := by
  obtain ⟨fuel, hf⟩ := h
  rcases Deep.open_slice Try.underlying22 hf with ⟨hcs, _⟩ | ⟨x, l, c, m, n, D, Pl, hcs, _, hl, hm, hmm, hx, hall⟩
  · simp [Value.cells] at hcs
    obtain ⟨rfl, rfl, rfl⟩ := hcs
    exact ⟨[], rfl, by omega, fun h => absurd rfl h⟩
  · simp [Value.cells] at hcs
    obtain ⟨rfl, rfl, rfl⟩ := hcs
    simp only [if_true] at hmm
    subst hmm
    have hs : x.spot = none := by
      simp only [Value.okWide, Try.underlying22, Cell.okWide, Cell.ok] at hv
      obtain ⟨_, _, _, hs, _⟩ := hv
      exact hs
    simp only [Prod.mk.injEq] at hx
    have hd := hx.1
    have hlen : len ≤ 140737488355328 := by
      have := hw ((len + (m - len)) * Try.prog.bytesOf 33) (by rw [hd]; simp [DataW.weights, Try.underlying22])
      rw [show Try.prog.bytesOf 33 = 80 by kernel_rfl] at this
      simp only [reachBytes] at this
      omega
    have each : ∀ i, i < len → ∃ q : Act5, ActIs W x.block (x.off + i * 6) q := by
      intro i hi
      obtain ⟨cs', h1, h2⟩ := hall i (by omega)
      rw [cells33] at h1
      obtain ⟨v0, v1, v2, v3, v4, v5, rfl, k0, k1, k2, k3, k4, k5⟩ := six h1
      obtain ⟨q, e0, e1, e2, e3, e4, e5, r1, r2, r3, r4, r5, r6, r7⟩ := open_act h2 (fun m' hm' => hw m' (by
        rw [hd]
        simp only [DataW.weights, Try.underlying22, List.mem_cons, List.mem_append]
        right; left
        exact weightsAll_mem (List.mem_map.2 ⟨i, List.mem_range.2 hi, rfl⟩) hm'))
      obtain ⟨b, off, spot⟩ := x
      simp only at hs
      subst hs
      simp only [Addr.add_mid] at k0 k1 k2 k3 k4 k5
      exact ⟨q, ⟨by rw [← e0]; simpa using k0, by rw [← e1]; exact k1, by rw [← e2]; exact k2, by rw [← e3]; exact k3, by rw [← e4]; exact k4, by rw [← e5]; exact k5, r1, r2, r3, r4, r5, r6, r7⟩⟩
    obtain ⟨q, hq⟩ := Deep.choose_lt each
    refine ⟨(List.range len).map q, by simp, hlen, fun _ => ?_⟩
    obtain ⟨b, off, spot⟩ := x
    obtain rfl : spot = none := hs
    refine ⟨b, off, rfl, fun j p hj => ?_⟩
    have hjl : j < len := by have := (List.getElem?_eq_some_iff.1 hj).1; simpa using this
    have hpj : q j = p := by simpa [hjl] using hj
    subst hpj
    exact hq j hjl
end Go.Proofs.Ytlbodickflljfaa
