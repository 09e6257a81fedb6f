/-
  A CHANGE THAT CAME IN, WITH THE BYTES THAT ITS ROWS TAKE.
-/
import Derived.Test.YtgmdolpjkaajfaaGreatDoorCL
namespace Go.Proofs.YtgmdolpjkaajfaaGreatDoor
open Go.ChangeShapes Go.WideShapes Go.ChangeAt Go.RowKit Leb
theorem ops_bytes {H : Type} {enc : TypeId × Value → H} {W : World} {a : Option Addr} {len cap : Nat} {d : DataW H} {p : List MemPlace}
    (h : DataW.Trod enc Tryz.prog W 0 (fun _ => true) true 23 (.slice a len cap) d p) (hw : ∀ m ∈ d.weights Tryz.prog 23, m ≤ reachBytes) : len * 56 ≤ 140737488355328 := by
  obtain ⟨fuel, hf⟩ := h
  rcases Deep.open_slice Tryz.underlying23 hf with ⟨hcs, _⟩ | ⟨x, l, c, m, n, D, Pl, hcs, _, hl, hm, hmm, hx, hall⟩
  · simp [Value.cells] at hcs
    obtain ⟨rfl, rfl, rfl⟩ := hcs
    omega
  · simp [Value.cells] at hcs
    obtain ⟨rfl, rfl, rfl⟩ := hcs
    simp only [if_true] at hmm
    subst hmm
    simp only [Prod.mk.injEq] at hx
    have hd := hx.1
    have := hw ((len + (m - len)) * Tryz.prog.bytesOf 46) (by rw [hd]; simp [DataW.weights, Tryz.underlying23])
    rw [show Tryz.prog.bytesOf 46 = 56 by kernel_rfl] at this
    simp only [reachBytes] at this
    omega

set_option maxRecDepth 100000 in
theorem open_change_b {H : Type} {enc : TypeId × Value → H} {W : World} {base : Nat} {v : Value} {d : DataW H} {p : List MemPlace}
    (hv : Value.okWide Tryz.prog W .any base 25 v) (h : DataW.Trod enc Tryz.prog W 0 (fun _ => true) true 25 v d p) (hw : ∀ m ∈ d.weights Tryz.prog 25, m ≤ reachBytes) :
    ∃ (x : Chg) (ds ps : Sl), v = cV x ds ps ∧ ChAt W x ds ps ∧ ds.n * 32 ≤ 140737488355328 ∧ ps.n * 56 ≤ 140737488355328 := by
  have hv' := hv
  simp only [Value.okWide, Tryz.underlying25] at hv'
  obtain ⟨cs, rfl, hsz, ts, hts, _, hcell⟩ := hv'
  rw [show Tryz.prog.cellTypes Tryz.prog.depth 25 = some [9, 3, 3, 22, 9, 23] by kernel_rfl] at hts
  obtain rfl := Option.some.inj hts
  rw [cells25] at hsz
  obtain ⟨l⟩ := cs
  match l, hsz with
  | [v0, v1, v2, v3, v4, v5], _ =>
  have q3 : Value.okWide Tryz.prog W .any base 22 v3 := by
    obtain ⟨u, hu, hc⟩ := hcell 3 v3 rfl
    obtain rfl : 22 = u := Option.some.inj hu
    simpa only [Value.okWide, Tryz.underlying22] using hc
  have q5 : Value.okWide Tryz.prog W .any base 23 v5 := by
    obtain ⟨u, hu, hc⟩ := hcell 5 v5 rfl
    obtain rfl : 23 = u := Option.some.inj hu
    simpa only [Value.okWide, Tryz.underlying23] using hc
  obtain ⟨a3, l3, c3, rfl⟩ := okWide_slice Tryz.underlying22 q3
  obtain ⟨a5, l5, c5, rfl⟩ := okWide_slice Tryz.underlying23 q5
  obtain ⟨fuel, hf0⟩ := h
  have hf0 : DataW.trod enc Tryz.prog W 0 (fun _ => true) true fuel 25 [v0, v1, v2, .slice a3 l3 c3, v4, .slice a5 l5 c5] = some (d, p) := hf0
  obtain ⟨xs, m, _, hx', _, hlen, hf⟩ := DataW.trod_struct Tryz.underlying25 hf0
  match xs, hlen with
  | [y0, y1, y2, y3, y4, y5], _ =>
  have hx : d = .agg ([y0, y1, y2, y3, y4, y5].map (·.1)) := congrArg Prod.fst hx'
  have g0 : DataW.trod enc Tryz.prog W 0 (fun _ => true) true m 9 (([v0, v1, v2, .slice a3 l3 c3, v4, .slice a5 l5 c5].drop 0).take (Tryz.prog.cellsOf 9)) = some y0 := hf 0 _ rfl
  rw [one_cell (t := 9) (by kernel_rfl) [v0, v1, v2, .slice a3 l3 c3, v4, .slice a5 l5 c5] 0 v0 rfl] at g0
  have g1 : DataW.trod enc Tryz.prog W 0 (fun _ => true) true m 3 (([v0, v1, v2, .slice a3 l3 c3, v4, .slice a5 l5 c5].drop 1).take (Tryz.prog.cellsOf 3)) = some y1 := hf 1 _ rfl
  rw [one_cell (t := 3) (by kernel_rfl) [v0, v1, v2, .slice a3 l3 c3, v4, .slice a5 l5 c5] 1 v1 rfl] at g1
  have g2 : DataW.trod enc Tryz.prog W 0 (fun _ => true) true m 3 (([v0, v1, v2, .slice a3 l3 c3, v4, .slice a5 l5 c5].drop 2).take (Tryz.prog.cellsOf 3)) = some y2 := hf 2 _ rfl
  rw [one_cell (t := 3) (by kernel_rfl) [v0, v1, v2, .slice a3 l3 c3, v4, .slice a5 l5 c5] 2 v2 rfl] at g2
  have g3 : DataW.trod enc Tryz.prog W 0 (fun _ => true) true m 22 (([v0, v1, v2, .slice a3 l3 c3, v4, .slice a5 l5 c5].drop 3).take (Tryz.prog.cellsOf 22)) = some y3 := hf 3 _ rfl
  rw [one_cell (t := 22) (by kernel_rfl) [v0, v1, v2, .slice a3 l3 c3, v4, .slice a5 l5 c5] 3 (.slice a3 l3 c3) rfl] at g3
  have g4 : DataW.trod enc Tryz.prog W 0 (fun _ => true) true m 9 (([v0, v1, v2, .slice a3 l3 c3, v4, .slice a5 l5 c5].drop 4).take (Tryz.prog.cellsOf 9)) = some y4 := hf 4 _ rfl
  rw [one_cell (t := 9) (by kernel_rfl) [v0, v1, v2, .slice a3 l3 c3, v4, .slice a5 l5 c5] 4 v4 rfl] at g4
  have g5 : DataW.trod enc Tryz.prog W 0 (fun _ => true) true m 23 (([v0, v1, v2, .slice a3 l3 c3, v4, .slice a5 l5 c5].drop 5).take (Tryz.prog.cellsOf 23)) = some y5 := hf 5 _ rfl
  rw [one_cell (t := 23) (by kernel_rfl) [v0, v1, v2, .slice a3 l3 c3, v4, .slice a5 l5 c5] 5 (.slice a5 l5 c5) rfl] at g5
  obtain ⟨s0, e0, _, w0⟩ := DataW.trod_string Tryz.underlying9 g0
  obtain ⟨n1, e1, _, w1⟩ := DataW.trod_int Tryz.underlying3 g1
  obtain ⟨n2, e2, _, w2⟩ := DataW.trod_int Tryz.underlying3 g2
  obtain ⟨s4, e4, _, w4⟩ := DataW.trod_string Tryz.underlying9 g4
  simp only [List.cons.injEq, and_true] at e0 e1 e2 e4
  have hb1 := bounds_i64 w1
  have hb2 := bounds_i64 w2
  obtain ⟨hl, hln, _, hlb, h32, hat⟩ := open_hashes (d := y3.1) (p := y3.2) q3 ⟨m, g3⟩ (fun m' hm' => by
    refine hw _ ?_
    rw [hx]
    simp only [List.map_cons, List.map_nil, DataW.weights, Tryz.underlying25, DataW.weightsEach, List.mem_append]
    right; right; right; left; exact hm')
  obtain ⟨ol, oln, olb, oat, ook⟩ := open_ops (d := y5.1) (p := y5.2) q5 ⟨m, g5⟩ (fun m' hm' => by
    refine hw _ ?_
    rw [hx]
    simp only [List.map_cons, List.map_nil, DataW.weights, Tryz.underlying25, DataW.weightsEach, List.mem_append]
    right; right; right; right; right; left; exact hm')
  have obb := ops_bytes (d := y5.1) (p := y5.2) ⟨m, g5⟩ (fun m' hm' => by
    refine hw _ ?_
    rw [hx]
    simp only [List.map_cons, List.map_nil, DataW.weights, Tryz.underlying25, DataW.weightsEach, List.mem_append]
    right; right; right; right; right; left; exact hm')
  have hs0 : s0 = strOf s0.data.toList := by simp [strOf]
  have hs4 : s4 = strOf s4.data.toList := by simp [strOf]
  refine ⟨⟨s0.data.toList, n1, n2, hl, s4.data.toList, ol⟩, ⟨a3, l3, c3⟩, ⟨a5, l5, c5⟩, ?_, ⟨hat, oat, hln, oln, h32, ook, by simp only; omega, by simp only; omega, by simp only; omega, by simp only; omega, by simpa using w0, by simpa using w4, by simp only; omega, by simp only; omega⟩, by simp only; omega, by simp only; omega⟩
  subst e0 e1 e2 e4
  simp only [cV]
  rw [← hs0, ← hs4]
end Go.Proofs.YtgmdolpjkaajfaaGreatDoor
