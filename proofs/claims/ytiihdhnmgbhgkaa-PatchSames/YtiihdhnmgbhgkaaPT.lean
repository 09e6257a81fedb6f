/-
  PATCHES THAT CAME IN, opened.
-/
import Derived.Test.YtiihdhnmgbhgkaaOP
import Derived.Test.YtiihdhnmgbhgkaaPF
import Derived.Deep.Slices
namespace Go.Proofs.Ytiihdhnmgbhgkaa
open Go.ChangeShapes Go.WideShapes Go.ChangeAt Go.RowKit
theorem one_cell {t : TypeId} (h : Try.prog.cellsOf t = 1) (cs : List Value) (k : Nat) (v : Value) (hk : cs[k]? = some v) : (cs.drop k).take (Try.prog.cellsOf t) = [v] := by
  rw [h]
  obtain ⟨hlt, e⟩ := List.getElem?_eq_some_iff.1 hk
  rw [List.drop_eq_getElem_cons hlt, e]
  rfl
theorem mem_all {H : Type} {e : TypeId} {d : DataW H} {m : Nat} (hm : m ∈ d.weights Try.prog e) : ∀ {l : List (DataW H)}, d ∈ l → m ∈ DataW.weightsAll Try.prog e l
  | [], h => by simp at h
  | x :: l, h => by
    unfold DataW.weightsAll
    rcases List.mem_cons.1 h with h | h
    · subst h; exact List.mem_append_left _ hm
    · exact List.mem_append_right _ (mem_all hm h)
theorem open_strs {H : Type} {enc : TypeId × Value → H} {W : World} {n : Nat} {v : Value} {d : DataW H} {p : List MemPlace}
    (hf : DataW.trod enc Try.prog W 0 (fun _ => true) true n 38 [v] = some (d, p)) (hw : ∀ m ∈ d.weights Try.prog 38, m ≤ reachBytes) :
    ∃ (a : Option Addr) (c : Nat) (l : List Nm), v = .slice a l.length c ∧ SlAt W 1 a (stL l) ∧ l.length * 16 ≤ 140737488355328 ∧ (a = none → c = 0) := by
  rcases Deep.open_slice1 Try.underlying38 (by kernel_rfl) hf with ⟨hcs, _⟩ | ⟨x, l, c, m, n', V, D, Pl, hcs, _, hl, hm, hmm, hx, hall⟩
  · simp only [List.cons.injEq, and_true] at hcs
    exact ⟨none, 0, [], hcs, SlAt.nil _ _ _, by simp, fun _ => rfl⟩
  · simp only [List.cons.injEq, and_true] at hcs
    simp only [if_true] at hmm
    subst hmm
    simp only [Prod.mk.injEq] at hx
    have hd := hx.1
    have hlen : l * 16 ≤ 140737488355328 := by
      have := hw ((l + (m - l)) * Try.prog.bytesOf 9) (by rw [hd]; simp [DataW.weights, Try.underlying38])
      rw [show Try.prog.bytesOf 9 = 16 by kernel_rfl] at this
      simp only [reachBytes] at this
      omega
    have each : ∀ i, i < l → ∃ q : Nm, W.cell? (x.add i) = some (.string (strOf q)) := fun i hi => by
      obtain ⟨h0, h1⟩ := hall i (by omega)
      obtain ⟨s, es, _, _⟩ := DataW.trod_string Try.underlying9 h1
      simp only [List.cons.injEq, and_true] at es
      refine ⟨s.data.toList, ?_⟩
      rw [h0, es]
      congr 2
    obtain ⟨q, hq⟩ := Deep.choose_lt each
    refine ⟨some x, m, (List.range l).map q, by rw [hcs]; simp, ⟨uni_st _, fun hne => ?_⟩, by simpa using hlen, fun h => by cases h⟩
    have hl0 : 0 < l := by
      rcases Nat.eq_zero_or_pos l with h | h
      · subst h; exact absurd rfl hne
      · exact h
    obtain ⟨b, off, spot⟩ := x
    have hs : spot = none := by have := World.cell?_spot (hq 0 hl0); simpa [Addr.add] using this
    subst hs
    refine ⟨b, off, rfl, fun j v hv => ?_⟩
    obtain ⟨i, y, k, hy1, hy2, hy3⟩ := fl_of (uni_st _) hv
    have hil : i < l := by have := (List.getElem?_eq_some_iff.1 hy1).1; simpa [stL] using this
    have hye : y = [.string (strOf (q i))] := by
      unfold stL at hy1
      rw [List.map_map, List.getElem?_map, List.getElem?_range hil] at hy1
      exact (Option.some.inj hy1).symm
    subst hye
    have hk : k = 0 := by have := (List.getElem?_eq_some_iff.1 hy2).1; simp at this; omega
    subst hk
    have : v = .string (strOf (q i)) := by simpa using hy2.symm
    subst this
    have := hq i hil
    rw [Addr.add_mid] at this
    rw [hy3]
    simpa using this
theorem cells95 : Try.prog.cellsOf 95 = 32 := by kernel_rfl
theorem cells46 : Try.prog.cellsOf 46 = 9 := by kernel_rfl
theorem open_cells95 {H' : Type} {enc : TypeId × Value → H'} {W : World} {n : Nat} {cs : List Value} {x : DataW H' × List MemPlace} (hl : cs.length = 32)
    (h : DataW.trod enc Try.prog W 0 (fun _ => true) true n 95 cs = some x) : ∃ q : H, q.length = 32 ∧ cs = c8 q := by
  obtain ⟨xs, m, _, _, _, _, hi⟩ := DataW.trod_array Try.underlying95 h
  have each : ∀ j, j < 32 → ∃ b : UInt8, cs[j]? = some (.int .u8 (b.toNat : Int)) := fun j hj => by
    have h1 := hi j hj
    rw [cells5, Nat.mul_one] at h1
    have e : (cs.drop j).take 1 = [cs[j]] := by
      rw [List.drop_eq_getElem_cons (show j < cs.length by omega)]; rfl
    rw [e] at h1
    cases hx : xs[j]? with
    | none => rw [hx] at h1; have := List.getElem?_eq_none_iff.1 hx; omega
    | some y =>
      rw [hx] at h1
      obtain ⟨z, hz, _, hw⟩ := DataW.trod_int Try.underlying5 h1
      obtain ⟨b, hb⟩ := byte_of hw
      refine ⟨b, ?_⟩
      simp at hz
      rw [List.getElem?_eq_getElem (by omega), hz, hb]
  obtain ⟨q, hq⟩ := Deep.choose_lt each
  refine ⟨(List.range 32).map q, by simp, ?_⟩
  apply List.ext_getElem?
  intro i
  by_cases hi : i < 32
  · rw [hq i hi]
    unfold c8
    rw [List.map_map, List.getElem?_map, List.getElem?_range hi]
    rfl
  · rw [List.getElem?_eq_none (by omega), List.getElem?_eq_none (by simp [c8]; omega)]
theorem open_hs {H' : Type} {enc : TypeId × Value → H'} {W : World} {n : Nat} {v : Value} {d : DataW H'} {p : List MemPlace}
    (hf : DataW.trod enc Try.prog W 0 (fun _ => true) true n 44 [v] = some (d, p)) (hw : ∀ m ∈ d.weights Try.prog 44, m ≤ reachBytes) :
    ∃ (a : Option Addr) (c : Nat) (l : List H), v = .slice a l.length c ∧ SlAt W 32 a (hsL l) ∧ All32 l ∧ l.length * 32 ≤ 140737488355328 ∧ (a = none → c = 0) := by
  rcases Deep.open_slice Try.underlying44 hf with ⟨hcs, _⟩ | ⟨x, l, c, m, n', D, Pl, hcs, _, hl, hm, hmm, hx, hall⟩
  · simp only [List.cons.injEq, and_true] at hcs
    exact ⟨none, 0, [], hcs, SlAt.nil _ _ _, fun _ h => by simp at h, by simp, fun _ => rfl⟩
  · simp only [List.cons.injEq, and_true] at hcs
    simp only [if_true] at hmm
    subst hmm
    simp only [Prod.mk.injEq] at hx
    have hd := hx.1
    have hlen : l * 32 ≤ 140737488355328 := by
      have := hw ((l + (m - l)) * Try.prog.bytesOf 95) (by rw [hd]; simp [DataW.weights, Try.underlying44])
      rw [show Try.prog.bytesOf 95 = 32 by kernel_rfl] at this
      simp only [reachBytes] at this
      omega
    have each : ∀ i, i < l → ∃ q : H, q.length = 32 ∧ ∀ j, j < 32 → W.cell? ((x.add (i * 32)).add j) = (c8 q)[j]? := fun i hi => by
      obtain ⟨cs', h1, h2⟩ := hall i (by omega)
      rw [cells95] at h1
      obtain ⟨_, hcl, hce⟩ := World.cells?_some h1
      obtain ⟨q, hq, rfl⟩ := open_cells95 hcl h2
      exact ⟨q, hq, fun j hj => hce j hj⟩
    obtain ⟨q, hq⟩ := Deep.choose_lt each
    have h32 : All32 ((List.range l).map q) := fun y hy => by
      obtain ⟨i, hi, rfl⟩ := List.mem_map.1 hy
      exact (hq i (by simpa using hi)).1
    refine ⟨some x, m, (List.range l).map q, by rw [hcs]; simp, ⟨uni_hs h32, fun hne => ?_⟩, h32, by simpa using hlen, fun h => by cases h⟩
    have hl0 : 0 < l := by
      rcases Nat.eq_zero_or_pos l with h | h
      · subst h; exact absurd rfl hne
      · exact h
    obtain ⟨b, off, spot⟩ := x
    have hs : spot = none := by
      have h0 := (hq 0 hl0).2 0 (by omega)
      have hlt : 0 < (c8 (q 0)).length := by rw [c8_len, (hq 0 hl0).1]; omega
      obtain ⟨u, hu⟩ : ∃ u, (c8 (q 0))[0]? = some u := ⟨_, List.getElem?_eq_getElem hlt⟩
      rw [hu] at h0
      have := World.cell?_spot h0
      simpa [Addr.add] using this
    subst hs
    refine ⟨b, off, rfl, fun j v hv => ?_⟩
    obtain ⟨i, y, k, hy1, hy2, hy3⟩ := fl_of (uni_hs h32) hv
    have hil : i < l := by have := (List.getElem?_eq_some_iff.1 hy1).1; simpa [hsL] using this
    have hye : y = c8 (q i) := by
      unfold hsL at hy1
      rw [List.map_map, List.getElem?_map, List.getElem?_range hil] at hy1
      exact (Option.some.inj hy1).symm
    subst hye
    have hk : k < 32 := by have := (List.getElem?_eq_some_iff.1 hy2).1; rw [c8_len, (hq i hil).1] at this; exact this
    have := (hq i hil).2 k hk
    rw [Addr.add_mid, Addr.add_mid, hy2] at this
    rw [hy3, ← Nat.add_assoc]
    exact this
set_option maxRecDepth 100000 in
theorem open_patch {H' : Type} {enc : TypeId × Value → H'} {W : World} {n : Nat} {v0 v1 v2 v3 v4 v5 v6 v7 v8 : Value} {d : DataW H'} {p : List MemPlace}
    (h : DataW.trod enc Try.prog W 0 (fun _ => true) true n 46 [v0, v1, v2, v3, v4, v5, v6, v7, v8] = some (d, p)) (hw : ∀ m ∈ d.weights Try.prog 46, m ≤ reachBytes) : ∃ x : Px, [v0, v1, v2, v3, v4, v5, v6, v7, v8] = pxc x ∧ PxAt W x ∧ (x.va = none → x.vc = 0) ∧ (x.fa = none → x.fc = 0) := by
  obtain ⟨xs, m, _, hx', _, hlen, hf⟩ := DataW.trod_struct Try.underlying46 h
  match xs, hlen with
  | [y0, y1, y2, y3, y4, y5, y6, y7, y8], _ =>
  have hx : d = .agg ([y0, y1, y2, y3, y4, y5, y6, y7, y8].map (·.1)) := congrArg Prod.fst hx'
  have g0 : DataW.trod enc Try.prog W 0 (fun _ => true) true m 3 (([v0, v1, v2, v3, v4, v5, v6, v7, v8].drop 0).take (Try.prog.cellsOf 3)) = some y0 := hf 0 _ rfl
  rw [one_cell (t := 3) (by kernel_rfl) [v0, v1, v2, v3, v4, v5, v6, v7, v8] 0 v0 rfl] at g0
  have g1 : DataW.trod enc Try.prog W 0 (fun _ => true) true m 9 (([v0, v1, v2, v3, v4, v5, v6, v7, v8].drop 1).take (Try.prog.cellsOf 9)) = some y1 := hf 1 _ rfl
  rw [one_cell (t := 9) (by kernel_rfl) [v0, v1, v2, v3, v4, v5, v6, v7, v8] 1 v1 rfl] at g1
  have g2 : DataW.trod enc Try.prog W 0 (fun _ => true) true m 38 (([v0, v1, v2, v3, v4, v5, v6, v7, v8].drop 2).take (Try.prog.cellsOf 38)) = some y2 := hf 2 _ rfl
  rw [one_cell (t := 38) (by kernel_rfl) [v0, v1, v2, v3, v4, v5, v6, v7, v8] 2 v2 rfl] at g2
  have g3 : DataW.trod enc Try.prog W 0 (fun _ => true) true m 3 (([v0, v1, v2, v3, v4, v5, v6, v7, v8].drop 3).take (Try.prog.cellsOf 3)) = some y3 := hf 3 _ rfl
  rw [one_cell (t := 3) (by kernel_rfl) [v0, v1, v2, v3, v4, v5, v6, v7, v8] 3 v3 rfl] at g3
  have g4 : DataW.trod enc Try.prog W 0 (fun _ => true) true m 4 (([v0, v1, v2, v3, v4, v5, v6, v7, v8].drop 4).take (Try.prog.cellsOf 4)) = some y4 := hf 4 _ rfl
  rw [one_cell (t := 4) (by kernel_rfl) [v0, v1, v2, v3, v4, v5, v6, v7, v8] 4 v4 rfl] at g4
  have g5 : DataW.trod enc Try.prog W 0 (fun _ => true) true m 3 (([v0, v1, v2, v3, v4, v5, v6, v7, v8].drop 5).take (Try.prog.cellsOf 3)) = some y5 := hf 5 _ rfl
  rw [one_cell (t := 3) (by kernel_rfl) [v0, v1, v2, v3, v4, v5, v6, v7, v8] 5 v5 rfl] at g5
  have g6 : DataW.trod enc Try.prog W 0 (fun _ => true) true m 3 (([v0, v1, v2, v3, v4, v5, v6, v7, v8].drop 6).take (Try.prog.cellsOf 3)) = some y6 := hf 6 _ rfl
  rw [one_cell (t := 3) (by kernel_rfl) [v0, v1, v2, v3, v4, v5, v6, v7, v8] 6 v6 rfl] at g6
  have g7 : DataW.trod enc Try.prog W 0 (fun _ => true) true m 9 (([v0, v1, v2, v3, v4, v5, v6, v7, v8].drop 7).take (Try.prog.cellsOf 9)) = some y7 := hf 7 _ rfl
  rw [one_cell (t := 9) (by kernel_rfl) [v0, v1, v2, v3, v4, v5, v6, v7, v8] 7 v7 rfl] at g7
  have g8 : DataW.trod enc Try.prog W 0 (fun _ => true) true m 44 (([v0, v1, v2, v3, v4, v5, v6, v7, v8].drop 8).take (Try.prog.cellsOf 44)) = some y8 := hf 8 _ rfl
  rw [one_cell (t := 44) (by kernel_rfl) [v0, v1, v2, v3, v4, v5, v6, v7, v8] 8 v8 rfl] at g8
  obtain ⟨n0, e0, _, _⟩ := DataW.trod_int Try.underlying3 g0
  obtain ⟨s1, e1, _, _⟩ := DataW.trod_string Try.underlying9 g1
  obtain ⟨n3, e3, _, _⟩ := DataW.trod_int Try.underlying3 g3
  obtain ⟨b4, e4, _⟩ := DataW.trod_bool Try.underlying4 g4
  obtain ⟨n5, e5, _, _⟩ := DataW.trod_int Try.underlying3 g5
  obtain ⟨n6, e6, _, _⟩ := DataW.trod_int Try.underlying3 g6
  obtain ⟨s7, e7, _, _⟩ := DataW.trod_string Try.underlying9 g7
  simp only [List.cons.injEq, and_true] at e0 e1 e3 e4 e5 e6 e7
  obtain ⟨va, vc, vl, e2, hvs, hvb, hvz⟩ := open_strs (d := y2.1) (p := y2.2) g2 (fun m' hm' => by
    refine hw _ ?_
    rw [hx]
    simp only [List.map_cons, List.map_nil, DataW.weights, Try.underlying46, DataW.weightsEach, List.mem_append]
    right; right; left; exact hm')
  obtain ⟨fa, fc, fl, e8, hfs, h32, hfb, hfz⟩ := open_hs (d := y8.1) (p := y8.2) g8 (fun m' hm' => by
    refine hw _ ?_
    rw [hx]
    simp only [List.map_cons, List.map_nil, DataW.weights, Try.underlying46, DataW.weightsEach, List.mem_append]
    right; right; right; right; right; right; right; right; left; exact hm')
  have hs1 : s1 = strOf s1.data.toList := by simp [strOf]
  have hs7 : s7 = strOf s7.data.toList := by simp [strOf]
  refine ⟨⟨⟨n0, s1.data.toList, vl, n3, b4, n5, n6, s7.data.toList, fl⟩, va, vc, fa, fc⟩, ?_, ⟨hvs, hfs, h32, hvb, hfb⟩, hvz, hfz⟩
  rw [e0, e1, e2, e3, e4, e5, e6, e7, e8]
  simp only [pxc]
  rw [← hs1, ← hs7]
set_option maxRecDepth 100000 in
theorem nine {w : World} {base : Nat} {a : Addr} {cs : List Value} (h : w.cells? base a 9 = some cs) : ∃ v0 v1 v2 v3 v4 v5 v6 v7 v8, cs = [v0, v1, v2, v3, v4, v5, v6, v7, v8] := by
  obtain ⟨_, hl, _⟩ := World.cells?_some h
  match cs, hl with
  | [v0, v1, v2, v3, v4, v5, v6, v7, v8], _ => exact ⟨v0, v1, v2, v3, v4, v5, v6, v7, v8, rfl⟩
instance : Inhabited Px := ⟨zpx⟩
set_option maxRecDepth 100000 in
theorem open_patches {H' : Type} {enc : TypeId × Value → H'} {W : World} {base : Nat} {a : Option Addr} {len cap : Nat} {d : DataW H'} {p : List MemPlace}
    (hv : Value.okWide Try.prog W .any base 27 (.slice a len cap))
    (h : DataW.Trod enc Try.prog W 0 (fun _ => true) true 27 (.slice a len cap) d p) (hw : ∀ m ∈ d.weights Try.prog 27, m ≤ reachBytes) :
    ∃ l : List Px, l.length = len ∧ len * 120 ≤ 140737488355328 ∧ PsAt W a l ∧ ∀ x ∈ l, (x.va = none → x.vc = 0) ∧ (x.fa = none → x.fc = 0) := by
  obtain ⟨fuel, hf⟩ := h
  rcases Deep.open_slice Try.underlying27 hf with ⟨hcs, _⟩ | ⟨x, l, c, m, n, D, Pl, hcs, _, hl, hm, hmm, hx, hall⟩
  · simp [Value.cells] at hcs
    obtain ⟨rfl, rfl, rfl⟩ := hcs
    exact ⟨[], rfl, by omega, ⟨SlAt.nil _ _ _, fun _ h => by simp at h⟩, fun x hx => by simp at hx⟩
  · simp [Value.cells] at hcs
    obtain ⟨rfl, rfl, rfl⟩ := hcs
    simp only [if_true] at hmm
    subst hmm
    have hs : x.spot = none := by
      simp only [Value.okWide, Try.underlying27, Cell.okWide, Cell.ok] at hv
      obtain ⟨_, _, _, hs, _⟩ := hv
      exact hs
    simp only [Prod.mk.injEq] at hx
    have hd := hx.1
    have hlen : len * 120 ≤ 140737488355328 := by
      have := hw ((len + (m - len)) * Try.prog.bytesOf 46) (by rw [hd]; simp [DataW.weights, Try.underlying27])
      rw [show Try.prog.bytesOf 46 = 120 by kernel_rfl] at this
      simp only [reachBytes] at this
      omega
    obtain ⟨b, off, spot⟩ := x
    simp only at hs
    subst hs
    have each : ∀ i, i < len → ∃ q : Px, W.rangeAt b (off + i * 9) (pxc q) ∧ PxAt W q ∧ (q.va = none → q.vc = 0) ∧ (q.fa = none → q.fc = 0) := fun i hi => by
      obtain ⟨cs', h1, h2⟩ := hall i (by omega)
      rw [cells46] at h1
      obtain ⟨_, hcl, hce⟩ := World.cells?_some h1
      obtain ⟨v0, v1, v2, v3, v4, v5, v6, v7, v8, rfl⟩ := nine h1
      obtain ⟨q, e, hq, hz⟩ := open_patch h2 (fun m' hm' => hw m' (by
        rw [hd]
        simp only [DataW.weights, Try.underlying27]
        exact List.mem_cons_of_mem _ (List.mem_append_left _ (mem_all hm' (List.mem_map.2 ⟨i, List.mem_range.2 hi, rfl⟩)))))
      refine ⟨q, fun j v hj => ?_, hq, hz⟩
      rw [← e] at hj
      have hj9 : j < 9 := by have := (List.getElem?_eq_some_iff.1 hj).1; simpa using this
      have := hce j hj9
      rw [Addr.add_mid, Addr.add_mid, hj] at this
      exact this
    obtain ⟨q, hq⟩ := Deep.choose_lt each
    refine ⟨(List.range len).map q, by simp, hlen, ⟨⟨fun y hy => by obtain ⟨z, _, rfl⟩ := List.mem_map.1 hy; rfl, fun _ => ⟨b, off, rfl, fun j v hv => ?_⟩⟩, fun y hy => ?_⟩, fun y hy => ?_⟩
    · obtain ⟨i, y, k, hy1, hy2, hy3⟩ := fl_of (k := 9) (fun y hy => by obtain ⟨z, _, rfl⟩ := List.mem_map.1 hy; rfl) hv
      have hil : i < len := by have := (List.getElem?_eq_some_iff.1 hy1).1; simpa using this
      have hye : y = pxc (q i) := by
        rw [List.map_map, List.getElem?_map, List.getElem?_range hil] at hy1
        exact (Option.some.inj hy1).symm
      subst hye
      rw [hy3, ← Nat.add_assoc]
      exact (hq i hil).1 k v hy2
    · obtain ⟨i, hi, rfl⟩ := List.mem_map.1 hy
      exact (hq i (by simpa using hi)).2.1
    · obtain ⟨i, hi, rfl⟩ := List.mem_map.1 hy
      exact (hq i (by simpa using hi)).2.2
end Go.Proofs.Ytiihdhnmgbhgkaa
