/-
  CALLS AND BRANCHES THAT CAME IN, opened.
-/
import Derived.Test.YtcmcapcagblafaaOP
import Derived.Test.YtcmcapcagblafaaBO
import Derived.Deep.Slices
namespace Go.Proofs.Ytcmcapcagblafaa
open Go.ChangeShapes Go.WideShapes Go.ChangeAt Go.RowKit
theorem one_cell {t : TypeId} (h : Try.prog.cellsOf t = 1) (cs : List Value) (k : Nat) (v : Value) (hk : cs[k]? = some v) : (cs.drop k).take (Try.prog.cellsOf t) = [v] := by
  rw [h]
  obtain ⟨hlt, e⟩ := List.getElem?_eq_some_iff.1 hk
  rw [List.drop_eq_getElem_cons hlt, e]
  rfl
theorem mem_all {H : Type} {e : TypeId} {d : DataW H} {m : Nat} (hm : m ∈ d.weights Try.prog e) : ∀ {l : List (DataW H)}, d ∈ l → m ∈ DataW.weightsAll Try.prog e l
  | [], h => by simp at h
  | x :: l, h => by
    unfold DataW.weightsAll
    rcases List.mem_cons.1 h with h | h
    · subst h; exact List.mem_append_left _ hm
    · exact List.mem_append_right _ (mem_all hm h)
theorem cells95 : Try.prog.cellsOf 43 = 32 := by kernel_rfl
theorem open_cells95 {H' : Type} {enc : TypeId × Value → H'} {W : World} {n : Nat} {cs : List Value} {x : DataW H' × List MemPlace} (hl : cs.length = 32)
    (h : DataW.trod enc Try.prog W 0 (fun _ => true) true n 43 cs = some x) : ∃ q : H, q.length = 32 ∧ cs = c8 q := by
  obtain ⟨xs, m, _, _, _, _, hi⟩ := DataW.trod_array Try.underlying43 h
  have each : ∀ j, j < 32 → ∃ b : UInt8, cs[j]? = some (.int .u8 (b.toNat : Int)) := fun j hj => by
    have h1 := hi j hj
    rw [cells5, Nat.mul_one] at h1
    have e : (cs.drop j).take 1 = [cs[j]] := by
      rw [List.drop_eq_getElem_cons (show j < cs.length by omega)]; rfl
    rw [e] at h1
    cases hx : xs[j]? with
    | none => rw [hx] at h1; have := List.getElem?_eq_none_iff.1 hx; omega
    | some y =>
      rw [hx] at h1
      obtain ⟨z, hz, _, hw⟩ := DataW.trod_int Try.underlying5 h1
      obtain ⟨b, hb⟩ := byte_of hw
      refine ⟨b, ?_⟩
      simp at hz
      rw [List.getElem?_eq_getElem (by omega), hz, hb]
  obtain ⟨q, hq⟩ := Deep.choose_lt each
  refine ⟨(List.range 32).map q, by simp, ?_⟩
  apply List.ext_getElem?
  intro i
  by_cases hi : i < 32
  · rw [hq i hi]
    unfold c8
    rw [List.map_map, List.getElem?_map, List.getElem?_range hi]
    rfl
  · rw [List.getElem?_eq_none (by omega), List.getElem?_eq_none (by simp [c8]; omega)]
theorem open_hs {H' : Type} {enc : TypeId × Value → H'} {W : World} {n : Nat} {v : Value} {d : DataW H'} {p : List MemPlace}
    (hf : DataW.trod enc Try.prog W 0 (fun _ => true) true n 39 [v] = some (d, p)) (hw : ∀ m ∈ d.weights Try.prog 39, m ≤ reachBytes) :
    ∃ (a : Option Addr) (c : Nat) (l : List H), v = .slice a l.length c ∧ SlAt W 32 a (hsL l) ∧ All32 l ∧ l.length * 32 ≤ 140737488355328 ∧ (a = none → c = 0) := by
  rcases Deep.open_slice Try.underlying39 hf with ⟨hcs, _⟩ | ⟨x, l, c, m, n', D, Pl, hcs, _, hl, hm, hmm, hx, hall⟩
  · simp only [List.cons.injEq, and_true] at hcs
    exact ⟨none, 0, [], hcs, SlAt.nil _ _ _, fun _ h => by simp at h, by simp, fun _ => rfl⟩
  · simp only [List.cons.injEq, and_true] at hcs
    simp only [if_true] at hmm
    subst hmm
    simp only [Prod.mk.injEq] at hx
    have hd := hx.1
    have hlen : l * 32 ≤ 140737488355328 := by
      have := hw ((l + (m - l)) * Try.prog.bytesOf 43) (by rw [hd]; simp [DataW.weights, Try.underlying39])
      rw [show Try.prog.bytesOf 43 = 32 by kernel_rfl] at this
      simp only [reachBytes] at this
      omega
    have each : ∀ i, i < l → ∃ q : H, q.length = 32 ∧ ∀ j, j < 32 → W.cell? ((x.add (i * 32)).add j) = (c8 q)[j]? := fun i hi => by
      obtain ⟨cs', h1, h2⟩ := hall i (by omega)
      rw [cells95] at h1
      obtain ⟨_, hcl, hce⟩ := World.cells?_some h1
      obtain ⟨q, hq, rfl⟩ := open_cells95 hcl h2
      exact ⟨q, hq, fun j hj => hce j hj⟩
    obtain ⟨q, hq⟩ := Deep.choose_lt each
    have h32 : All32 ((List.range l).map q) := fun y hy => by
      obtain ⟨i, hi, rfl⟩ := List.mem_map.1 hy
      exact (hq i (by simpa using hi)).1
    refine ⟨some x, m, (List.range l).map q, by rw [hcs]; simp, ⟨uni_hs h32, fun hne => ?_⟩, h32, by simpa using hlen, fun h => by cases h⟩
    have hl0 : 0 < l := by
      rcases Nat.eq_zero_or_pos l with h | h
      · subst h; exact absurd rfl hne
      · exact h
    obtain ⟨b, off, spot⟩ := x
    have hs : spot = none := by
      have h0 := (hq 0 hl0).2 0 (by omega)
      have hlt : 0 < (c8 (q 0)).length := by rw [c8_len, (hq 0 hl0).1]; omega
      obtain ⟨u, hu⟩ : ∃ u, (c8 (q 0))[0]? = some u := ⟨_, List.getElem?_eq_getElem hlt⟩
      rw [hu] at h0
      have := World.cell?_spot h0
      simpa [Addr.add] using this
    subst hs
    refine ⟨b, off, rfl, fun j v hv => ?_⟩
    obtain ⟨i, y, k, hy1, hy2, hy3⟩ := fl_of (uni_hs h32) hv
    have hil : i < l := by have := (List.getElem?_eq_some_iff.1 hy1).1; simpa [hsL] using this
    have hye : y = c8 (q i) := by
      unfold hsL at hy1
      rw [List.map_map, List.getElem?_map, List.getElem?_range hil] at hy1
      exact (Option.some.inj hy1).symm
    subst hye
    have hk : k < 32 := by have := (List.getElem?_eq_some_iff.1 hy2).1; rw [c8_len, (hq i hil).1] at this; exact this
    have := (hq i hil).2 k hk
    rw [Addr.add_mid, Addr.add_mid, hy2] at this
    rw [hy3, ← Nat.add_assoc]
    exact this
set_option maxRecDepth 100000 in
def AcsAt (W : World) (a : Option Addr) (L : List Ac) : Prop := SlAt W 3 a (L.map acv) ∧ ∀ x ∈ L, AcAt W x
instance : Inhabited Ac := ⟨⟨0, [], none, 0, []⟩⟩
instance : Inhabited Bx := ⟨⟨[], none, 0, []⟩⟩
set_option maxRecDepth 100000 in
theorem open_branch {H' : Type} {enc : TypeId × Value → H'} {W : World} {n : Nat} {v0 v1 : Value} {d : DataW H'} {p : List MemPlace}
    (h : DataW.trod enc Try.prog W 0 (fun _ => true) true n 65 [v0, v1] = some (d, p)) (hw : ∀ m ∈ d.weights Try.prog 65, m ≤ reachBytes) : ∃ x : Bx, [v0, v1] = brc x ∧ BxAt W x ∧ x.nm.length ≤ maxLen := by
  obtain ⟨xs, m, _, hx', _, hlen, hf⟩ := DataW.trod_struct Try.underlying65 h
  match xs, hlen with
  | [y0, y1], _ =>
  have hx : d = .agg ([y0, y1].map (·.1)) := congrArg Prod.fst hx'
  have g0 : DataW.trod enc Try.prog W 0 (fun _ => true) true m 9 (([v0, v1].drop 0).take (Try.prog.cellsOf 9)) = some y0 := hf 0 _ rfl
  rw [one_cell (t := 9) (by kernel_rfl) [v0, v1] 0 v0 rfl] at g0
  have g1 : DataW.trod enc Try.prog W 0 (fun _ => true) true m 39 (([v0, v1].drop 1).take (Try.prog.cellsOf 39)) = some y1 := hf 1 _ rfl
  rw [one_cell (t := 39) (by kernel_rfl) [v0, v1] 1 v1 rfl] at g1
  obtain ⟨s1, e1, _, w1⟩ := DataW.trod_string Try.underlying9 g0
  simp only [List.cons.injEq, and_true] at e1
  obtain ⟨fa, fc, fl, e2, hfs, h32, hfb, hfz⟩ := open_hs (d := y1.1) (p := y1.2) g1 (fun m' hm' => by
    refine hw _ ?_
    rw [hx]
    simp only [List.map_cons, List.map_nil, DataW.weights, Try.underlying65, DataW.weightsEach, List.mem_append]
    right; left; exact hm')
  have hs1 : s1 = strOf s1.data.toList := by simp [strOf]
  refine ⟨⟨s1.data.toList, fa, fc, fl⟩, ?_, ⟨hfs, h32, hfz, hfb⟩, by simpa using w1⟩
  rw [e1, e2]
  simp only [brc, Bx.v]
  rw [← hs1]
theorem cells48 : Try.prog.cellsOf 65 = 2 := by kernel_rfl
theorem three_of {w : World} {base : Nat} {a : Addr} {cs : List Value} (h : w.cells? base a 3 = some cs) : ∃ v0 v1 v2, cs = [v0, v1, v2] := by
  obtain ⟨_, hl, _⟩ := World.cells?_some h
  match cs, hl with
  | [v0, v1, v2], _ => exact ⟨v0, v1, v2, rfl⟩
theorem two_of {w : World} {base : Nat} {a : Addr} {cs : List Value} (h : w.cells? base a 2 = some cs) : ∃ v0 v1, cs = [v0, v1] := by
  obtain ⟨_, hl, _⟩ := World.cells?_some h
  match cs, hl with
  | [v0, v1], _ => exact ⟨v0, v1, rfl⟩
set_option maxRecDepth 100000 in
theorem open_branches {H' : Type} {enc : TypeId × Value → H'} {W : World} {base : Nat} {a : Option Addr} {len cap : Nat} {d : DataW H'} {p : List MemPlace}
    (hv : Value.okWide Try.prog W .any base 38 (.slice a len cap))
    (h : DataW.Trod enc Try.prog W 0 (fun _ => true) true 38 (.slice a len cap) d p) (hw : ∀ m ∈ d.weights Try.prog 38, m ≤ reachBytes) :
    ∃ l : List Bx, l.length = len ∧ len * 40 ≤ 140737488355328 ∧ BsAt W a l ∧ (∀ x ∈ l, x.nm.length ≤ maxLen) ∧ (a = none → cap = 0) := by
  obtain ⟨fuel, hf⟩ := h
  rcases Deep.open_slice Try.underlying38 hf with ⟨hcs, _⟩ | ⟨x, l, c, m, n, D, Pl, hcs, _, hl, hm, hmm, hx, hall⟩
  · simp [Value.cells] at hcs
    obtain ⟨rfl, rfl, rfl⟩ := hcs
    exact ⟨[], rfl, by omega, BsAt.nil _ _, fun _ h => by simp at h, fun _ => rfl⟩
  · simp [Value.cells] at hcs
    obtain ⟨rfl, rfl, rfl⟩ := hcs
    simp only [if_true] at hmm
    subst hmm
    have hs : x.spot = none := by
      simp only [Value.okWide, Try.underlying38, Cell.okWide, Cell.ok] at hv
      obtain ⟨_, _, _, hs, _⟩ := hv
      exact hs
    simp only [Prod.mk.injEq] at hx
    have hd := hx.1
    have hlen : len * 40 ≤ 140737488355328 := by
      have := hw ((len + (m - len)) * Try.prog.bytesOf 65) (by rw [hd]; simp [DataW.weights, Try.underlying38])
      rw [show Try.prog.bytesOf 65 = 40 by kernel_rfl] at this
      simp only [reachBytes] at this
      omega
    obtain ⟨b, off, spot⟩ := x
    simp only at hs
    subst hs
    have each : ∀ i, i < len → ∃ q : Bx, W.rangeAt b (off + i * 2) (brc q) ∧ BxAt W q ∧ q.nm.length ≤ maxLen := fun i hi => by
      obtain ⟨cs', h1, h2⟩ := hall i (by omega)
      rw [cells48] at h1
      obtain ⟨_, hcl, hce⟩ := World.cells?_some h1
      obtain ⟨v0, v1, rfl⟩ := two_of h1
      obtain ⟨q, e, hq⟩ := open_branch h2 (fun m' hm' => hw m' (by
        rw [hd]
        simp only [DataW.weights, Try.underlying38]
        exact List.mem_cons_of_mem _ (List.mem_append_left _ (mem_all hm' (List.mem_map.2 ⟨i, List.mem_range.2 hi, rfl⟩)))))
      refine ⟨q, fun j v hj => ?_, hq⟩
      rw [← e] at hj
      have hj9 : j < 2 := by have := (List.getElem?_eq_some_iff.1 hj).1; simpa using this
      have := hce j hj9
      rw [Addr.add_mid, Addr.add_mid, hj] at this
      exact this
    obtain ⟨q, hq⟩ := Deep.choose_lt each
    have hU : Uni 2 ((List.range len).map fun i => brc (q i)) := fun y hy => by obtain ⟨z, _, rfl⟩ := List.mem_map.1 hy; rfl
    have hS : SlAt W 2 (some ⟨b, off, none⟩) ((List.range len).map fun i => brc (q i)) := ⟨hU, fun _ => ⟨b, off, rfl, fun j v hv => by
      obtain ⟨i, y, k, hy1, hy2, hy3⟩ := fl_of hU hv
      have hil : i < len := by have := (List.getElem?_eq_some_iff.1 hy1).1; simpa using this
      have hye : y = brc (q i) := by
        rw [List.getElem?_map, List.getElem?_range hil] at hy1
        exact (Option.some.inj hy1).symm
      subst hye
      rw [hy3, ← Nat.add_assoc]
      exact (hq i hil).1 k v hy2⟩⟩
    refine ⟨(List.range len).map q, by simp, hlen, ⟨by unfold bsL; rw [List.map_map]; exact hS, fun y hy => by obtain ⟨i, hi, rfl⟩ := List.mem_map.1 hy; exact (hq i (by simpa using hi)).2.1⟩, fun y hy => by obtain ⟨i, hi, rfl⟩ := List.mem_map.1 hy; exact (hq i (by simpa using hi)).2.2, fun e => by cases e⟩
theorem open_hashes {H' : Type} {enc : TypeId × Value → H'} {W : World} {v : Value} {d : DataW H'} {p : List MemPlace}
    (h : DataW.Trod enc Try.prog W 0 (fun _ => true) true 39 v d p) (hw : ∀ m ∈ d.weights Try.prog 39, m ≤ reachBytes) (hone : v.cells = #[v]) :
    ∃ (a : Option Addr) (c : Nat) (l : List H), v = .slice a l.length c ∧ SlAt W 32 a (hsL l) ∧ All32 l ∧ l.length * 32 ≤ 140737488355328 ∧ (a = none → c = 0) := by
  obtain ⟨fuel, hf⟩ := h
  rw [hone] at hf
  exact open_hs hf hw
end Go.Proofs.Ytcmcapcagblafaa
