/-
  Puts that came in: a slice of them, opened; what a put leaves.
-/
import Derived.Test.YtiglenomigipmaaSV
import Derived.Test.YtiglenomigipmaaSW
import Derived.Test.YtiglenomigipmaaOX
import Derived.Deep.Slices
namespace Go.Proofs.Ytiglenomigipmaa
open Go.ChangeShapes Go.WideShapes Go.ChangeAt Go.RowKit
theorem cells33 : Try.prog.cellsOf 33 = 8 := by kernel_rfl
instance : Inhabited Put := ⟨⟨0, 0, 0, 0, false, false, 0, 0⟩⟩
def PutsIn (W : World) (a : Option Addr) (ps : List Put) : Prop := ps ≠ [] → ∃ b o, a = some ⟨b, o, none⟩ ∧ ∀ (j : Nat) (p : Put), ps[j]? = some p → W.rangeAt b (o + j * 8) (pcell p)
theorem PutsIn.after {W W' : World} {a : Option Addr} {ps : List Put} (h : PutsIn W a ps) (ha : After W W') : PutsIn W' a ps := fun hn => by
  obtain ⟨b, o, e, hr⟩ := h hn
  exact ⟨b, o, e, fun j p hj => range_after (hr j p hj) ha⟩
theorem eight {w : World} {base : Nat} {a : Addr} {cs : List Value} (h : w.cells? base a 8 = some cs) : ∃ v0 v1 v2 v3 v4 v5 v6 v7, cs = [v0, v1, v2, v3, v4, v5, v6, v7] ∧ w.cell? (a.add 0) = some v0 ∧ w.cell? (a.add 1) = some v1 ∧ w.cell? (a.add 2) = some v2 ∧ w.cell? (a.add 3) = some v3 ∧ w.cell? (a.add 4) = some v4 ∧ w.cell? (a.add 5) = some v5 ∧ w.cell? (a.add 6) = some v6 ∧ w.cell? (a.add 7) = some v7 := by
  unfold World.cells? at h
  split at h
  · simp only [show List.range 8 = [0, 1, 2, 3, 4, 5, 6, 7] from rfl, List.mapM_cons, List.mapM_nil, Option.bind_eq_bind, Option.bind_eq_some_iff, Option.pure_def, Option.some.injEq] at h
    obtain ⟨v0, h0, _, ⟨v1, h1, _, ⟨v2, h2, _, ⟨v3, h3, _, ⟨v4, h4, _, ⟨v5, h5, _, ⟨v6, h6, _, ⟨v7, h7, _, rfl, rfl⟩, rfl⟩, rfl⟩, rfl⟩, rfl⟩, rfl⟩, rfl⟩, rfl⟩ := h
    exact ⟨v0, v1, v2, v3, v4, v5, v6, v7, rfl, h0, h1, h2, h3, h4, h5, h6, h7⟩
  · cases h
theorem one_cell {t : TypeId} (h : Try.prog.cellsOf t = 1) (cs : List Value) (k : Nat) (v : Value) (hk : cs[k]? = some v) : (cs.drop k).take (Try.prog.cellsOf t) = [v] := by
  rw [h]
  obtain ⟨hlt, e⟩ := List.getElem?_eq_some_iff.1 hk
  rw [List.drop_eq_getElem_cons hlt, e]
  rfl
theorem open_put {H : Type} {enc : TypeId × Value → H} {W : World} {n : Nat} {v0 v1 v2 v3 v4 v5 v6 v7 : Value} {x : DataW H × List MemPlace}
    (h : DataW.trod enc Try.prog W 0 (fun _ => true) true n 33 [v0, v1, v2, v3, v4, v5, v6, v7] = some x) :
    ∃ p : Put, p.Ok ∧ [v0, v1, v2, v3, v4, v5, v6, v7] = pcell p := by
  obtain ⟨xs, m, _, hx, _, hlen, hf⟩ := DataW.trod_struct Try.underlying33 h
  match xs, hlen with
  | [y0, y1, y2, y3, y4, y5, y6, y7], _ =>
  have g0 : DataW.trod enc Try.prog W 0 (fun _ => true) true m 5 (([v0, v1, v2, v3, v4, v5, v6, v7].drop 0).take (Try.prog.cellsOf 5)) = some y0 := hf 0 _ rfl
  rw [one_cell (t := 5) (by kernel_rfl) [v0, v1, v2, v3, v4, v5, v6, v7] 0 v0 rfl] at g0
  have g1 : DataW.trod enc Try.prog W 0 (fun _ => true) true m 5 (([v0, v1, v2, v3, v4, v5, v6, v7].drop 1).take (Try.prog.cellsOf 5)) = some y1 := hf 1 _ rfl
  rw [one_cell (t := 5) (by kernel_rfl) [v0, v1, v2, v3, v4, v5, v6, v7] 1 v1 rfl] at g1
  have g2 : DataW.trod enc Try.prog W 0 (fun _ => true) true m 5 (([v0, v1, v2, v3, v4, v5, v6, v7].drop 2).take (Try.prog.cellsOf 5)) = some y2 := hf 2 _ rfl
  rw [one_cell (t := 5) (by kernel_rfl) [v0, v1, v2, v3, v4, v5, v6, v7] 2 v2 rfl] at g2
  have g3 : DataW.trod enc Try.prog W 0 (fun _ => true) true m 5 (([v0, v1, v2, v3, v4, v5, v6, v7].drop 3).take (Try.prog.cellsOf 5)) = some y3 := hf 3 _ rfl
  rw [one_cell (t := 5) (by kernel_rfl) [v0, v1, v2, v3, v4, v5, v6, v7] 3 v3 rfl] at g3
  have g4 : DataW.trod enc Try.prog W 0 (fun _ => true) true m 4 (([v0, v1, v2, v3, v4, v5, v6, v7].drop 4).take (Try.prog.cellsOf 4)) = some y4 := hf 4 _ rfl
  rw [one_cell (t := 4) (by kernel_rfl) [v0, v1, v2, v3, v4, v5, v6, v7] 4 v4 rfl] at g4
  have g5 : DataW.trod enc Try.prog W 0 (fun _ => true) true m 4 (([v0, v1, v2, v3, v4, v5, v6, v7].drop 5).take (Try.prog.cellsOf 4)) = some y5 := hf 5 _ rfl
  rw [one_cell (t := 4) (by kernel_rfl) [v0, v1, v2, v3, v4, v5, v6, v7] 5 v5 rfl] at g5
  have g6 : DataW.trod enc Try.prog W 0 (fun _ => true) true m 3 (([v0, v1, v2, v3, v4, v5, v6, v7].drop 6).take (Try.prog.cellsOf 3)) = some y6 := hf 6 _ rfl
  rw [one_cell (t := 3) (by kernel_rfl) [v0, v1, v2, v3, v4, v5, v6, v7] 6 v6 rfl] at g6
  have g7 : DataW.trod enc Try.prog W 0 (fun _ => true) true m 3 (([v0, v1, v2, v3, v4, v5, v6, v7].drop 7).take (Try.prog.cellsOf 3)) = some y7 := hf 7 _ rfl
  rw [one_cell (t := 3) (by kernel_rfl) [v0, v1, v2, v3, v4, v5, v6, v7] 7 v7 rfl] at g7
  obtain ⟨n0, e0, _, w0⟩ := DataW.trod_int Try.underlying5 g0
  obtain ⟨n1, e1, _, w1⟩ := DataW.trod_int Try.underlying5 g1
  obtain ⟨n2, e2, _, w2⟩ := DataW.trod_int Try.underlying5 g2
  obtain ⟨n3, e3, _, w3⟩ := DataW.trod_int Try.underlying5 g3
  obtain ⟨b4, e4, _⟩ := DataW.trod_bool Try.underlying4 g4
  obtain ⟨b5, e5, _⟩ := DataW.trod_bool Try.underlying4 g5
  obtain ⟨n6, e6, _, w6⟩ := DataW.trod_int Try.underlying3 g6
  obtain ⟨n7, e7, _, w7⟩ := DataW.trod_int Try.underlying3 g7
  simp only [List.cons.injEq, and_true] at e0 e1 e2 e3 e4 e5 e6 e7
  obtain ⟨c0, rfl⟩ := byte_of w0
  obtain ⟨c1, rfl⟩ := byte_of w1
  obtain ⟨c2, rfl⟩ := byte_of w2
  obtain ⟨c3, rfl⟩ := byte_of w3
  have hb6 := bounds_i64 w6
  have hb7 := bounds_i64 w7
  refine ⟨⟨c0, c1, c2, c3, b4, b5, n6, n7⟩, ⟨by show _ ≤ n6; omega, by show n6 ≤ _; omega, by show _ ≤ n7; omega, by show n7 ≤ _; omega⟩, ?_⟩
  subst e0 e1 e2 e3 e4 e5 e6 e7
  rfl
set_option maxRecDepth 100000 in
theorem open_puts {H : Type} {enc : TypeId × Value → H} {W : World} {base : Nat} {a : Option Addr} {len cap : Nat} {d : DataW H} {p : List MemPlace}
    (hv : Value.okWide Try.prog W .any base 22 (.slice a len cap))
    (h : DataW.Trod enc Try.prog W 0 (fun _ => true) true 22 (.slice a len cap) d p) :
    ∃ l : List Put, l.length = len ∧ (∀ q ∈ l, q.Ok) ∧ PutsIn W a l := by
  obtain ⟨fuel, hf⟩ := h
  rcases Deep.open_slice Try.underlying22 hf with ⟨hcs, _⟩ | ⟨x, l, c, m, n, D, Pl, hcs, _, hl, hm, hmm, hx, hall⟩
  · simp [Value.cells] at hcs
    obtain ⟨rfl, rfl, rfl⟩ := hcs
    exact ⟨[], rfl, (fun q hq => by simp at hq), fun h => absurd rfl h⟩
  · simp [Value.cells] at hcs
    obtain ⟨rfl, rfl, rfl⟩ := hcs
    simp only [if_true] at hmm
    subst hmm
    have hs : x.spot = none := by
      simp only [Value.okWide, Try.underlying22, Cell.okWide, Cell.ok] at hv
      obtain ⟨_, _, _, hs, _⟩ := hv
      exact hs
    have each : ∀ i, i < len → ∃ q : Put, q.Ok ∧ W.rangeAt x.block (x.off + i * 8) (pcell q) := by
      intro i hi
      obtain ⟨cs', h1, h2⟩ := hall i (by omega)
      rw [cells33] at h1
      obtain ⟨v0, v1, v2, v3, v4, v5, v6, v7, rfl, k0, k1, k2, k3, k4, k5, k6, k7⟩ := eight h1
      obtain ⟨q, hq, e⟩ := open_put h2
      obtain ⟨b, off, spot⟩ := x
      simp only at hs
      subst hs
      simp only [Addr.add_mid] at k0 k1 k2 k3 k4 k5 k6 k7
      refine ⟨q, hq, fun j u hu => ?_⟩
      rw [← e] at hu
      match j, hu with
      | 0, hu => simp at hu; subst hu; exact k0
      | 1, hu => simp at hu; subst hu; exact k1
      | 2, hu => simp at hu; subst hu; exact k2
      | 3, hu => simp at hu; subst hu; exact k3
      | 4, hu => simp at hu; subst hu; exact k4
      | 5, hu => simp at hu; subst hu; exact k5
      | 6, hu => simp at hu; subst hu; exact k6
      | 7, hu => simp at hu; subst hu; exact k7
      | j + 8, hu => simp at hu
    obtain ⟨q, hq⟩ := Deep.choose_lt each
    refine ⟨(List.range len).map q, by simp, fun y hy => ?_, fun _ => ?_⟩
    · obtain ⟨i, hi, rfl⟩ := List.mem_map.1 hy
      exact (hq i (List.mem_range.1 hi)).1
    · obtain ⟨b, off, spot⟩ := x
      obtain rfl : spot = none := hs
      refine ⟨b, off, rfl, fun j p hj => ?_⟩
      have hjl : j < len := by have := (List.getElem?_eq_some_iff.1 hj).1; simpa using this
      have hpj : q j = p := by simpa [hjl] using hj
      subst hpj
      exact (hq j hjl).2
theorem remF_len (st : List Stm) (x : Idn) : (remF st x).length = st.length := by
  unfold remF
  split
  · rw [List.length_set]
  · rfl
theorem Alike.next {st : List Stm} {l : List RC} (h : Alike st l) (hl : ∀ c ∈ l, c.Ok) {p : Put} (hp : p.Ok) : Alike (stN st l p) (rlN l p) ∧ (stN st l p).length ≤ st.length + 1 := by
  unfold stN rlN
  cases p.cut with
  | true => exact ⟨⟨h.wf.remF _, h.lnk.rem _, h.kid.rem h.lnk _⟩, by show (remF st (pAf l p)).length ≤ _; rw [remF_len]; omega⟩
  | false => exact ⟨⟨h.wf.insF (pId_ok hl hp) _, h.lnk.ins h.wf _ _ _, h.kid.ins h.lnk h.wf _ _ _⟩, insF_len⟩
end Go.Proofs.Ytiglenomigipmaa
