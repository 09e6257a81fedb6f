/-
  RECORDS THAT CAME IN, opened.
-/
import Derived.Test.YtcmcapcagblafaaXC
import Derived.Test.YtcmcapcagblafaaPO
namespace Go.Proofs.Ytcmcapcagblafaa
open Go.ChangeShapes Go.WideShapes Go.ChangeAt Go.RowKit
instance : Inhabited Rx := ⟨⟨[], none, 0, [], none, 0, []⟩⟩
theorem cells41 : Try.prog.cellsOf 41 = 3 := by kernel_rfl
set_option maxRecDepth 100000 in
theorem open_brs {H' : Type} {enc : TypeId × Value → H'} {W : World} {n : Nat} {v : Value} {d : DataW H'} {p : List MemPlace}
    (hf : DataW.trod enc Try.prog W 0 (fun _ => true) true n 38 [v] = some (d, p)) (hw : ∀ m ∈ d.weights Try.prog 38, m ≤ reachBytes) :
    ∃ (a : Option Addr) (c : Nat) (X : List Bx), v = .slice a X.length c ∧ BsAt W a X ∧ (∀ x ∈ X, x.nm.length ≤ maxLen) ∧ X.length * 40 ≤ 140737488355328 ∧ (a = none → c = 0) := by
  rcases Deep.open_slice Try.underlying38 hf with ⟨hcs, _⟩ | ⟨x, l, c, m, n', D, Pl, hcs, _, hl, hm, hmm, hx, hall⟩
  · simp only [List.cons.injEq, and_true] at hcs
    exact ⟨none, 0, [], hcs, BsAt.nil _ _, fun _ h => by simp at h, by simp, fun _ => rfl⟩
  · simp only [List.cons.injEq, and_true] at hcs
    simp only [if_true] at hmm
    subst hmm
    simp only [Prod.mk.injEq] at hx
    have hd := hx.1
    have hlen : l * 40 ≤ 140737488355328 := by
      have := hw ((l + (m - l)) * Try.prog.bytesOf 65) (by rw [hd]; simp [DataW.weights, Try.underlying38])
      rw [show Try.prog.bytesOf 65 = 40 by kernel_rfl] at this
      simp only [reachBytes] at this
      omega
    have each : ∀ i, i < l → ∃ q : Bx, (∀ j, j < 2 → W.cell? ((x.add (i * 2)).add j) = (brc q)[j]?) ∧ BxAt W q ∧ q.nm.length ≤ maxLen := fun i hi => by
      obtain ⟨cs', h1, h2⟩ := hall i (by omega)
      rw [cells48] at h1
      obtain ⟨_, hcl, hce⟩ := World.cells?_some h1
      obtain ⟨v0, v1, rfl⟩ := two_of h1
      obtain ⟨q, e, hq⟩ := open_branch h2 (fun m' hm' => hw m' (by
        rw [hd]
        simp only [DataW.weights, Try.underlying38]
        exact List.mem_cons_of_mem _ (List.mem_append_left _ (mem_all hm' (List.mem_map.2 ⟨i, List.mem_range.2 hi, rfl⟩)))))
      exact ⟨q, fun j hj => by rw [← e]; exact hce j hj, hq⟩
    obtain ⟨q, hq⟩ := Deep.choose_lt each
    refine ⟨some x, m, (List.range l).map q, by rw [hcs]; simp, ⟨⟨uni_bs _, fun hne => ?_⟩, fun y hy => ?_⟩, fun y hy => ?_, by simpa using hlen, fun h => by cases h⟩
    · have hl0 : 0 < l := by
        rcases Nat.eq_zero_or_pos l with h | h
        · subst h; exact absurd rfl hne
        · exact h
      obtain ⟨b, off, spot⟩ := x
      have hs : spot = none := by
        have h0 := (hq 0 hl0).1 0 (by omega)
        have := World.cell?_spot (h0.trans (show (brc (q 0))[0]? = some (.string (strOf (q 0).nm)) from rfl))
        simpa [Addr.add] using this
      subst hs
      refine ⟨b, off, rfl, fun j v hv => ?_⟩
      obtain ⟨i, y, k, hy1, hy2, hy3⟩ := fl_of (uni_bs _) hv
      have hil : i < l := by have := (List.getElem?_eq_some_iff.1 hy1).1; simpa [bsL] using this
      have hye : y = brc (q i) := by
        unfold bsL at hy1
        rw [List.map_map, List.getElem?_map, List.getElem?_range hil] at hy1
        exact (Option.some.inj hy1).symm
      subst hye
      have hk : k < 2 := by have := (List.getElem?_eq_some_iff.1 hy2).1; simpa [brc] using this
      have := (hq i hil).1 k hk
      rw [Addr.add_mid, Addr.add_mid, hy2] at this
      rw [hy3, ← Nat.add_assoc]
      exact this
    · obtain ⟨i, hi, rfl⟩ := List.mem_map.1 hy; exact (hq i (by simpa using hi)).2.1
    · obtain ⟨i, hi, rfl⟩ := List.mem_map.1 hy; exact (hq i (by simpa using hi)).2.2
set_option maxRecDepth 100000 in
theorem open_record {H' : Type} {enc : TypeId × Value → H'} {W : World} {n : Nat} {v0 v1 v2 : Value} {d : DataW H'} {p : List MemPlace}
    (h : DataW.trod enc Try.prog W 0 (fun _ => true) true n 41 [v0, v1, v2] = some (d, p)) (hw : ∀ m ∈ d.weights Try.prog 41, m ≤ reachBytes) : ∃ x : Rx, [v0, v1, v2] = rxc x ∧ RxAt W x := by
  obtain ⟨xs, m, _, hx', _, hlen, hf⟩ := DataW.trod_struct Try.underlying41 h
  match xs, hlen with
  | [y0, y1, y2], _ =>
  have hx : d = .agg ([y0, y1, y2].map (·.1)) := congrArg Prod.fst hx'
  have g0 : DataW.trod enc Try.prog W 0 (fun _ => true) true m 9 (([v0, v1, v2].drop 0).take (Try.prog.cellsOf 9)) = some y0 := hf 0 _ rfl
  rw [one_cell (t := 9) (by kernel_rfl) [v0, v1, v2] 0 v0 rfl] at g0
  have g1 : DataW.trod enc Try.prog W 0 (fun _ => true) true m 38 (([v0, v1, v2].drop 1).take (Try.prog.cellsOf 38)) = some y1 := hf 1 _ rfl
  rw [one_cell (t := 38) (by kernel_rfl) [v0, v1, v2] 1 v1 rfl] at g1
  have g2 : DataW.trod enc Try.prog W 0 (fun _ => true) true m 39 (([v0, v1, v2].drop 2).take (Try.prog.cellsOf 39)) = some y2 := hf 2 _ rfl
  rw [one_cell (t := 39) (by kernel_rfl) [v0, v1, v2] 2 v2 rfl] at g2
  obtain ⟨s1, e1, _, w1⟩ := DataW.trod_string Try.underlying9 g0
  simp only [List.cons.injEq, and_true] at e1
  obtain ⟨ba, bc, X, e2, hbs, hbn, hbb, hbz⟩ := open_brs (d := y1.1) (p := y1.2) g1 (fun m' hm' => by
    refine hw _ ?_
    rw [hx]
    simp only [List.map_cons, List.map_nil, DataW.weights, Try.underlying41, DataW.weightsEach, List.mem_append]
    right; left; exact hm')
  obtain ⟨fa, fc, fl, e3, hfs, h32, hfb, hfz⟩ := open_hs (d := y2.1) (p := y2.2) g2 (fun m' hm' => by
    refine hw _ ?_
    rw [hx]
    simp only [List.map_cons, List.map_nil, DataW.weights, Try.underlying41, DataW.weightsEach, List.mem_append]
    right; right; left; exact hm')
  have hs1 : s1 = strOf s1.data.toList := by simp [strOf]
  refine ⟨⟨s1.data.toList, ba, bc, X, fa, fc, fl⟩, ?_, ⟨hbs, hfs, h32, by simpa using w1, hbn, hbb, hfb, hbz, hfz⟩⟩
  rw [e1, e2, e3]
  simp only [rxc]
  rw [← hs1]
set_option maxRecDepth 100000 in
theorem open_records {H' : Type} {enc : TypeId × Value → H'} {W : World} {base : Nat} {a : Option Addr} {len cap : Nat} {d : DataW H'} {p : List MemPlace}
    (hv : Value.okWide Try.prog W .any base 22 (.slice a len cap))
    (h : DataW.Trod enc Try.prog W 0 (fun _ => true) true 22 (.slice a len cap) d p) (hw : ∀ m ∈ d.weights Try.prog 22, m ≤ reachBytes) :
    ∃ l : List Rx, l.length = len ∧ len * 64 ≤ 140737488355328 ∧ RsAt W a l ∧ (a = none → cap = 0) := by
  obtain ⟨fuel, hf⟩ := h
  rcases Deep.open_slice Try.underlying22 hf with ⟨hcs, _⟩ | ⟨x, l, c, m, n, D, Pl, hcs, _, hl, hm, hmm, hx, hall⟩
  · simp [Value.cells] at hcs
    obtain ⟨rfl, rfl, rfl⟩ := hcs
    exact ⟨[], rfl, by omega, ⟨SlAt.nil _ _ _, fun _ h => by simp at h⟩, fun _ => rfl⟩
  · simp [Value.cells] at hcs
    obtain ⟨rfl, rfl, rfl⟩ := hcs
    simp only [if_true] at hmm
    subst hmm
    have hs : x.spot = none := by
      simp only [Value.okWide, Try.underlying22, Cell.okWide, Cell.ok] at hv
      obtain ⟨_, _, _, hs, _⟩ := hv
      exact hs
    simp only [Prod.mk.injEq] at hx
    have hd := hx.1
    have hlen : len * 64 ≤ 140737488355328 := by
      have := hw ((len + (m - len)) * Try.prog.bytesOf 41) (by rw [hd]; simp [DataW.weights, Try.underlying22])
      rw [show Try.prog.bytesOf 41 = 64 by kernel_rfl] at this
      simp only [reachBytes] at this
      omega
    obtain ⟨b, off, spot⟩ := x
    simp only at hs
    subst hs
    have each : ∀ i, i < len → ∃ q : Rx, W.rangeAt b (off + i * 3) (rxc q) ∧ RxAt W q := fun i hi => by
      obtain ⟨cs', h1, h2⟩ := hall i (by omega)
      rw [cells41] at h1
      obtain ⟨_, hcl, hce⟩ := World.cells?_some h1
      obtain ⟨v0, v1, v2, rfl⟩ := three_of h1
      obtain ⟨q, e, hq⟩ := open_record h2 (fun m' hm' => hw m' (by
        rw [hd]
        simp only [DataW.weights, Try.underlying22]
        exact List.mem_cons_of_mem _ (List.mem_append_left _ (mem_all hm' (List.mem_map.2 ⟨i, List.mem_range.2 hi, rfl⟩)))))
      refine ⟨q, fun j v hj => ?_, hq⟩
      rw [← e] at hj
      have hj9 : j < 3 := by have := (List.getElem?_eq_some_iff.1 hj).1; simpa using this
      have := hce j hj9
      rw [Addr.add_mid, Addr.add_mid, hj] at this
      exact this
    obtain ⟨q, hq⟩ := Deep.choose_lt each
    have hU : Uni 3 ((List.range len).map fun i => rxc (q i)) := fun y hy => by obtain ⟨z, _, rfl⟩ := List.mem_map.1 hy; rfl
    have hS : SlAt W 3 (some ⟨b, off, none⟩) ((List.range len).map fun i => rxc (q i)) := ⟨hU, fun _ => ⟨b, off, rfl, fun j v hv => by
      obtain ⟨i, y, k, hy1, hy2, hy3⟩ := fl_of hU hv
      have hil : i < len := by have := (List.getElem?_eq_some_iff.1 hy1).1; simpa using this
      have hye : y = rxc (q i) := by
        rw [List.getElem?_map, List.getElem?_range hil] at hy1
        exact (Option.some.inj hy1).symm
      subst hye
      rw [hy3, ← Nat.add_assoc]
      exact (hq i hil).1 k v hy2⟩⟩
    refine ⟨(List.range len).map q, by simp, hlen, ⟨by unfold rsL; rw [List.map_map]; exact hS, fun y hy => by obtain ⟨i, hi, rfl⟩ := List.mem_map.1 hy; exact (hq i (by simpa using hi)).2⟩, fun e => by cases e⟩
end Go.Proofs.Ytcmcapcagblafaa
