/-
  WHAT EACH LAW OF THE SEAT NEEDS: the table out of the row's list; a change, a slice of bytes that came in, opened.
-/
import Derived.Test.YtgmdolpjkaajfaaGreatDoorCH
import Derived.Test.YtgmdolpjkaajfaaGreatDoorCards
import Derived.Test.YtgmdolpjkaajfaaGreatDoorTie
import Derived.ProofKit
import Derived.OpenShut
import Derived.ShutString
import Derived.ChangeOld
import Derived.Deep.DeepHandedRow
import Derived.Deep.Slices
import Derived.Lib.LaidTab
import Derived.SizedLaws
namespace Go.Proofs.YtgmdolpjkaajfaaGreatDoor
open Go.ChangeShapes Go.WideShapes Go.ChangeAt Go.RowKit Leb
theorem own : ownKnob Tryz.prog.godebug = none := by kernel_rfl
theorem laidOut : laidOutB Tryz.prog = true := by kernel_rfl
theorem cells5 : Tryz.prog.cellsOf 5 = 1 := by kernel_rfl
theorem byte_of {n : Int} (h : (Lit.int .u8 n).wf = true) : ∃ b : UInt8, n = (b.toNat : Int) := by
  have h1 := bounds_u8 h
  refine ⟨UInt8.ofNat n.toNat, ?_⟩
  simp [UInt8.toNat_ofNat']
  omega
/-- Numbers that fit a byte are bytes. -/
theorem bytes_of : ∀ (zs : List Int), (∀ n ∈ zs, (Lit.int .u8 n).wf = true) → ∃ bs : List UInt8, zs = bs.map fun b => (b.toNat : Int)
  | [], _ => ⟨[], rfl⟩
  | z :: zs, h => by
    obtain ⟨b, hb⟩ := byte_of (h z (by simp))
    obtain ⟨bs, hbs⟩ := bytes_of zs (fun n hn => h n (by simp [hn]))
    exact ⟨b :: bs, by rw [hb, hbs]; rfl⟩
/-- What came in as a slice of bytes: nil, or all bytes up to its capacity. -/
theorem open_bytes {H : Type} {enc : TypeId × Value → H} {W : World} {a : Option Addr} {len cap : Nat} {d : DataW H} {p : List MemPlace}
    (h : DataW.Trod enc Tryz.prog W 0 (fun _ => true) true 32 (.slice a len cap) d p)
    (hsz : ∀ elems spare, d = .slice elems spare → (elems.length + spare.length) * Tryz.prog.bytesOf 5 ≤ reachBytes) :
    ∃ bs : List UInt8, bs.length = len ∧ len ≤ cap ∧ cap ≤ 140737488351232 ∧ BytesAt W a bs := by
  obtain ⟨fuel, hf⟩ := h
  rcases open_ints Tryz.underlying32 Tryz.underlying5 cells5 hf with ⟨hcs, _⟩ | ⟨x, l, c, zs, hcs, _, hl, hm, hz, hx, hcell, hwz⟩
  · simp [Value.cells] at hcs
    obtain ⟨rfl, rfl, rfl⟩ := hcs
    exact ⟨[], rfl, Nat.le_refl _, by omega, fun h => absurd rfl h⟩
  · simp [Value.cells] at hcs
    obtain ⟨rfl, rfl, rfl⟩ := hcs
    simp only [if_true] at hz
    obtain ⟨all, rfl⟩ := bytes_of zs hwz
    simp only [List.length_map] at hz hcell
    have hcap : cap ≤ 140737488351232 := by
      simp only [Prod.mk.injEq] at hx
      have := hsz _ _ hx.1
      rw [show Tryz.prog.bytesOf 5 = 1 by kernel_rfl] at this
      simp only [lits, List.length_map, List.length_take, List.length_drop, reachBytes] at this
      omega
    refine ⟨all.take len, by simp; omega, hl, hcap, fun hne => ?_⟩
    have hpos : 0 < all.length := by cases all with | nil => simp at hne | cons y ys => simp
    obtain ⟨b, off, rfl, hc⟩ := ints_at (w := W) (k := .u8) (zs := all.map fun b => (b.toNat : Int)) (by simpa using hcell) (by simpa using hpos)
    refine ⟨b, off, rfl, fun j hj => ?_⟩
    simp only [List.length_take] at hj
    have := hc j (by simp; omega)
    rw [this]
    have h1 : j < all.length := by omega
    have h2 : j < len := by omega
    simp [List.getD_eq_getElem?_getD, h1, h2]

theorem cells126 : Tryz.prog.cellsOf 126 = 64 := by kernel_rfl
theorem cells88 : Tryz.prog.cellsOf 88 = 1 := by kernel_rfl
theorem cells38 : Tryz.prog.cellsOf 38 = 32 := by kernel_rfl
theorem cells25 : Tryz.prog.cellsOf 25 = 6 := by kernel_rfl
theorem gTab : Tryz.prog.globalNamed (Rows.changeBackRow.named.getD 0 default) = some 0 := by kernel_rfl
theorem gTabType : (Tryz.prog.globals[0]?).map (·.type) = some 126 := by kernel_rfl
theorem laid_eq : Rows.changeBackRow.laid = [(Rows.changeBackRow.named.getD 0 default, Lib.tabData .u32 (SH.Sha.kWords.map SH.Sha.n32))] := by kernel_rfl
theorem tab_of {W : World} (h : laidMetH Tryz.prog Rows.changeBackRow.laid W) : SH.Tab W := by
  rw [laid_eq] at h
  have ht := Lib.tabIs_of_head (rest := []) gTab gTabType Tryz.underlying126 Tryz.underlying88 cells88 cells126 h
  have hc : ∀ j, j < 64 → W.cell? ⟨0, j, none⟩ = some (.int .u32 (SH.Sha.n32 (SH.Sha.kWords.getD j 0))) := fun j hj => by
    have := ht.cell gTab j (by simpa [SH.Sha.kWords] using hj)
    rw [this]
    have hk : j < SH.Sha.kWords.length := by simpa [SH.Sha.kWords] using hj
    simp [List.getD_eq_getElem?_getD, hk]
  exact ⟨block_lt_of_cell (hc 0 (by omega)), hc⟩
theorem cells46 : Tryz.prog.cellsOf 46 = 5 := by kernel_rfl
instance : Inhabited Opn := ⟨⟨0, [], 0, 0, []⟩⟩
theorem five {w : World} {base : Nat} {a : Addr} {cs : List Value} (h : w.cells? base a 5 = some cs) : ∃ v0 v1 v2 v3 v4, cs = [v0, v1, v2, v3, v4] ∧ w.cell? (a.add 0) = some v0 ∧ w.cell? (a.add 1) = some v1 ∧ w.cell? (a.add 2) = some v2 ∧ w.cell? (a.add 3) = some v3 ∧ w.cell? (a.add 4) = some v4 := by
  unfold World.cells? at h
  split at h
  · simp only [show List.range 5 = [0, 1, 2, 3, 4] from rfl, List.mapM_cons, List.mapM_nil, Option.bind_eq_bind, Option.bind_eq_some_iff, Option.pure_def, Option.some.injEq] at h
    obtain ⟨v0, h0, _, ⟨v1, h1, _, ⟨v2, h2, _, ⟨v3, h3, _, ⟨v4, h4, _, rfl, rfl⟩, rfl⟩, rfl⟩, rfl⟩, rfl⟩ := h
    exact ⟨v0, v1, v2, v3, v4, rfl, h0, h1, h2, h3, h4⟩
  · cases h
theorem one_cell {t : TypeId} (h : Tryz.prog.cellsOf t = 1) (cs : List Value) (k : Nat) (v : Value) (hk : cs[k]? = some v) : (cs.drop k).take (Tryz.prog.cellsOf t) = [v] := by
  rw [h]
  obtain ⟨hlt, e⟩ := List.getElem?_eq_some_iff.1 hk
  rw [List.drop_eq_getElem_cons hlt, e]
  rfl
/-- One operation, of five cells. -/
theorem open_op {H : Type} {enc : TypeId × Value → H} {W : World} {n : Nat} {v0 v1 v2 v3 v4 : Value} {x : DataW H × List MemPlace}
    (h : DataW.trod enc Tryz.prog W 0 (fun _ => true) true n 46 [v0, v1, v2, v3, v4] = some x) : ∃ a : Opn, [v0, v1, v2, v3, v4] = oc a ∧ a.Ok := by
  obtain ⟨xs, m, _, hx, _, hlen, hf⟩ := DataW.trod_struct Tryz.underlying46 h
  match xs, hlen with
  | [y0, y1, y2, y3, y4], _ =>
  have g0 : DataW.trod enc Tryz.prog W 0 (fun _ => true) true m 3 (([v0, v1, v2, v3, v4].drop 0).take (Tryz.prog.cellsOf 3)) = some y0 := hf 0 _ rfl
  rw [one_cell (t := 3) (by kernel_rfl) [v0, v1, v2, v3, v4] 0 v0 rfl] at g0
  have g1 : DataW.trod enc Tryz.prog W 0 (fun _ => true) true m 9 (([v0, v1, v2, v3, v4].drop 1).take (Tryz.prog.cellsOf 9)) = some y1 := hf 1 _ rfl
  rw [one_cell (t := 9) (by kernel_rfl) [v0, v1, v2, v3, v4] 1 v1 rfl] at g1
  have g2 : DataW.trod enc Tryz.prog W 0 (fun _ => true) true m 3 (([v0, v1, v2, v3, v4].drop 2).take (Tryz.prog.cellsOf 3)) = some y2 := hf 2 _ rfl
  rw [one_cell (t := 3) (by kernel_rfl) [v0, v1, v2, v3, v4] 2 v2 rfl] at g2
  have g3 : DataW.trod enc Tryz.prog W 0 (fun _ => true) true m 3 (([v0, v1, v2, v3, v4].drop 3).take (Tryz.prog.cellsOf 3)) = some y3 := hf 3 _ rfl
  rw [one_cell (t := 3) (by kernel_rfl) [v0, v1, v2, v3, v4] 3 v3 rfl] at g3
  have g4 : DataW.trod enc Tryz.prog W 0 (fun _ => true) true m 9 (([v0, v1, v2, v3, v4].drop 4).take (Tryz.prog.cellsOf 9)) = some y4 := hf 4 _ rfl
  rw [one_cell (t := 9) (by kernel_rfl) [v0, v1, v2, v3, v4] 4 v4 rfl] at g4
  obtain ⟨n0, e0, _, w0⟩ := DataW.trod_int Tryz.underlying3 g0
  obtain ⟨s1, e1, _, w1⟩ := DataW.trod_string Tryz.underlying9 g1
  obtain ⟨n2, e2, _, w2⟩ := DataW.trod_int Tryz.underlying3 g2
  obtain ⟨n3, e3, _, w3⟩ := DataW.trod_int Tryz.underlying3 g3
  obtain ⟨s4, e4, _, w4⟩ := DataW.trod_string Tryz.underlying9 g4
  simp only [List.cons.injEq, and_true] at e0 e1 e2 e3 e4
  have hb0 := bounds_i64 w0
  have hb2 := bounds_i64 w2
  have hb3 := bounds_i64 w3
  have hs1 : s1 = strOf s1.data.toList := by simp [strOf]
  have hs4 : s4 = strOf s4.data.toList := by simp [strOf]
  refine ⟨⟨n0, s1.data.toList, n2, n3, s4.data.toList⟩, ?_, ⟨by simp only; omega, by simp only; omega, by simp only; omega, by simp only; omega, by simp only; omega, by simp only; omega, by simpa using w1, by simpa using w4⟩⟩
  rw [e0, e1, e2, e3, e4]
  simp only [oc]
  rw [← hs1, ← hs4]
set_option maxRecDepth 100000 in
/-- What came in as a slice of operations. -/
theorem open_ops {H : Type} {enc : TypeId × Value → H} {W : World} {base : Nat} {a : Option Addr} {len cap : Nat} {d : DataW H} {p : List MemPlace}
    (hv : Value.okWide Tryz.prog W .any base 23 (.slice a len cap))
    (h : DataW.Trod enc Tryz.prog W 0 (fun _ => true) true 23 (.slice a len cap) d p) (hw : ∀ m ∈ d.weights Tryz.prog 23, m ≤ reachBytes) :
    ∃ l : List Opn, l.length = len ∧ len ≤ 140737488355328 ∧ OpsAt W a l ∧ ∀ x ∈ l, x.Ok := by
  obtain ⟨fuel, hf⟩ := h
  rcases Deep.open_slice Tryz.underlying23 hf with ⟨hcs, _⟩ | ⟨x, l, c, m, n, D, Pl, hcs, _, hl, hm, hmm, hx, hall⟩
  · simp [Value.cells] at hcs
    obtain ⟨rfl, rfl, rfl⟩ := hcs
    exact ⟨[], rfl, by omega, fun h => absurd rfl h, fun x hx => by simp at hx⟩
  · simp [Value.cells] at hcs
    obtain ⟨rfl, rfl, rfl⟩ := hcs
    simp only [if_true] at hmm
    subst hmm
    have hs : x.spot = none := by
      simp only [Value.okWide, Tryz.underlying23, Cell.okWide, Cell.ok] at hv
      obtain ⟨_, _, _, hs, _⟩ := hv
      exact hs
    simp only [Prod.mk.injEq] at hx
    have hd := hx.1
    have hlen : len ≤ 140737488355328 := by
      have := hw ((len + (m - len)) * Tryz.prog.bytesOf 46) (by rw [hd]; simp [DataW.weights, Tryz.underlying23])
      rw [show Tryz.prog.bytesOf 46 = 56 by kernel_rfl] at this
      simp only [reachBytes] at this
      omega
    have each : ∀ i, i < len → ∃ q : Opn, W.rangeAt x.block (x.off + i * 5) (oc q) ∧ q.Ok := by
      intro i hi
      obtain ⟨cs', h1, h2⟩ := hall i (by omega)
      rw [cells46] at h1
      obtain ⟨v0, v1, v2, v3, v4, rfl, k0, k1, k2, k3, k4⟩ := five h1
      obtain ⟨q, e, hq⟩ := open_op h2
      obtain ⟨b, off, spot⟩ := x
      simp only at hs
      subst hs
      simp only [Addr.add_mid] at k0 k1 k2 k3 k4
      refine ⟨q, fun j v hj => ?_, hq⟩
      rw [← e] at hj
      match j, hj with
      | 0, hj => cases hj; exact k0
      | 1, hj => cases hj; exact k1
      | 2, hj => cases hj; exact k2
      | 3, hj => cases hj; exact k3
      | 4, hj => cases hj; exact k4
    obtain ⟨q, hq⟩ := Deep.choose_lt each
    refine ⟨(List.range len).map q, by simp, hlen, fun _ => ?_, fun y hy => ?_⟩
    · obtain ⟨b, off, spot⟩ := x
      obtain rfl : spot = none := hs
      refine ⟨b, off, rfl, fun j p hj => ?_⟩
      have hjl : j < len := by have := (List.getElem?_eq_some_iff.1 hj).1; simpa using this
      have hpj : q j = p := by simpa [hjl] using hj
      subst hpj
      exact (hq j hjl).1
    · obtain ⟨j, hj, rfl⟩ := List.mem_map.1 hy
      exact (hq j (by simpa using hj)).2

/-- Thirty-two cells that read as an array of bytes. -/
theorem open_cells38 {H : Type} {enc : TypeId × Value → H} {W : World} {n : Nat} {cs : List Value} {x : DataW H × List MemPlace} (hl : cs.length = 32)
    (h : DataW.trod enc Tryz.prog W 0 (fun _ => true) true n 38 cs = some x) : ∃ q : HS.Hs, q.length = 32 ∧ cs = c8 q := by
  obtain ⟨xs, m, _, _, _, _, hi⟩ := DataW.trod_array Tryz.underlying38 h
  have each : ∀ j, j < 32 → ∃ b : UInt8, cs[j]? = some (.int .u8 (b.toNat : Int)) := fun j hj => by
    have h1 := hi j hj
    rw [cells5, Nat.mul_one] at h1
    have e : (cs.drop j).take 1 = [cs[j]] := by
      rw [List.drop_eq_getElem_cons (show j < cs.length by omega)]; rfl
    rw [e] at h1
    cases hx : xs[j]? with
    | none => rw [hx] at h1; have := List.getElem?_eq_none_iff.1 hx; omega
    | some y =>
      rw [hx] at h1
      obtain ⟨z, hz, _, hw⟩ := DataW.trod_int Tryz.underlying5 h1
      obtain ⟨b, hb⟩ := byte_of hw
      refine ⟨b, ?_⟩
      simp at hz
      rw [List.getElem?_eq_getElem (by omega), hz, hb]
  obtain ⟨q, hq⟩ := Deep.choose_lt each
  refine ⟨(List.range 32).map q, by simp, ?_⟩
  apply List.ext_getElem?
  intro i
  by_cases hi : i < 32
  · rw [hq i hi, c8_get _ i (by simpa using hi)]; simp [List.getD, hi]
  · rw [List.getElem?_eq_none (by omega), List.getElem?_eq_none (by simp [c8_len]; omega)]
set_option maxRecDepth 100000 in
/-- What came in as a slice of hashes. -/
theorem open_hashes {H : Type} {enc : TypeId × Value → H} {W : World} {base : Nat} {a : Option Addr} {len cap : Nat} {d : DataW H} {p : List MemPlace}
    (hv : Value.okWide Tryz.prog W .any base 22 (.slice a len cap))
    (h : DataW.Trod enc Tryz.prog W 0 (fun _ => true) true 22 (.slice a len cap) d p) (hw : ∀ m ∈ d.weights Tryz.prog 22, m ≤ reachBytes) :
    ∃ l : List HS.Hs, l.length = len ∧ len ≤ cap ∧ len * 32 + 4096 ≤ 140737488355328 ∧ HS.All32 l ∧ HS.HsAt W a l := by
  obtain ⟨fuel, hf⟩ := h
  rcases Deep.open_slice Tryz.underlying22 hf with ⟨hcs, _⟩ | ⟨x, l, c, m, n, D, Pl, hcs, _, hl, hm, hmm, hx, hall⟩
  · simp [Value.cells] at hcs
    obtain ⟨rfl, rfl, rfl⟩ := hcs
    exact ⟨[], rfl, Nat.le_refl _, by omega, HS.All32.nil, fun h => absurd rfl h⟩
  · simp [Value.cells] at hcs
    obtain ⟨rfl, rfl, rfl⟩ := hcs
    simp only [if_true] at hmm
    subst hmm
    have hs : x.spot = none := by
      simp only [Value.okWide, Tryz.underlying22, Cell.okWide, Cell.ok] at hv
      obtain ⟨_, _, _, hs, _⟩ := hv
      exact hs
    simp only [Prod.mk.injEq] at hx
    have hd := hx.1
    have hlen : len * 32 + 4096 ≤ 140737488355328 := by
      have := hw ((len + (m - len)) * Tryz.prog.bytesOf 38) (by rw [hd]; simp [DataW.weights, Tryz.underlying22])
      rw [show Tryz.prog.bytesOf 38 = 32 by kernel_rfl] at this
      simp only [reachBytes] at this
      omega
    obtain ⟨b, off, spot⟩ := x
    simp only at hs
    subst hs
    have each : ∀ i, i < len → ∃ q : HS.Hs, q.length = 32 ∧ W.rangeAt b (off + i * 32) (c8 q) := by
      intro i hi
      obtain ⟨cs', h1, h2⟩ := hall i (by omega)
      rw [cells38] at h1
      obtain ⟨_, hcl, hce⟩ := World.cells?_some h1
      obtain ⟨q, hq, rfl⟩ := open_cells38 hcl h2
      refine ⟨q, hq, fun j v hj => ?_⟩
      have hj32 : j < 32 := by have := (List.getElem?_eq_some_iff.1 hj).1; rwa [hcl] at this
      have := hce j hj32
      rw [Addr.add_mid, Addr.add_mid, hj] at this
      exact this
    obtain ⟨q, hq⟩ := Deep.choose_lt each
    have h32 : HS.All32 ((List.range len).map q) := fun y hy => by
      obtain ⟨i, hi, rfl⟩ := List.mem_map.1 hy
      exact (hq i (by simpa using hi)).1
    refine ⟨(List.range len).map q, by simp, hl, hlen, h32, fun _ => ⟨b, off, rfl, fun j hj => ?_⟩⟩
    rw [HS.flat_len h32, List.length_map, List.length_range] at hj
    have hj1 : j / 32 < len := by omega
    have hj2 : j % 32 < 32 := Nat.mod_lt _ (by omega)
    have hje : j = j / 32 * 32 + j % 32 := by omega
    have hfl := HS.flat_at h32 (j := j / 32) (h := q (j / 32)) (by simp [hj1]) (j % 32) hj2
    rw [← hje] at hfl
    have := (hq _ hj1).2 (j % 32) _ (c8_get (q (j / 32)) (j % 32) (by rw [(hq _ hj1).1]; exact hj2))
    rw [hfl, ← this]
    congr 2; omega

set_option maxRecDepth 100000 in
/-- What came in as a change. -/
theorem open_change {H : Type} {enc : TypeId × Value → H} {W : World} {base : Nat} {v : Value} {d : DataW H} {p : List MemPlace}
    (hv : Value.okWide Tryz.prog W .any base 25 v) (h : DataW.Trod enc Tryz.prog W 0 (fun _ => true) true 25 v d p) (hw : ∀ m ∈ d.weights Tryz.prog 25, m ≤ reachBytes) :
    ∃ (x : Chg) (ds ps : Sl), v = cV x ds ps ∧ ChAt W x ds ps := by
  have hv' := hv
  simp only [Value.okWide, Tryz.underlying25] at hv'
  obtain ⟨cs, rfl, hsz, ts, hts, _, hcell⟩ := hv'
  rw [show Tryz.prog.cellTypes Tryz.prog.depth 25 = some [9, 3, 3, 22, 9, 23] by kernel_rfl] at hts
  obtain rfl := Option.some.inj hts
  rw [cells25] at hsz
  obtain ⟨l⟩ := cs
  match l, hsz with
  | [v0, v1, v2, v3, v4, v5], _ =>
  have q3 : Value.okWide Tryz.prog W .any base 22 v3 := by
    obtain ⟨u, hu, hc⟩ := hcell 3 v3 rfl
    obtain rfl : 22 = u := Option.some.inj hu
    simpa only [Value.okWide, Tryz.underlying22] using hc
  have q5 : Value.okWide Tryz.prog W .any base 23 v5 := by
    obtain ⟨u, hu, hc⟩ := hcell 5 v5 rfl
    obtain rfl : 23 = u := Option.some.inj hu
    simpa only [Value.okWide, Tryz.underlying23] using hc
  obtain ⟨a3, l3, c3, rfl⟩ := okWide_slice Tryz.underlying22 q3
  obtain ⟨a5, l5, c5, rfl⟩ := okWide_slice Tryz.underlying23 q5
  obtain ⟨fuel, hf0⟩ := h
  have hf0 : DataW.trod enc Tryz.prog W 0 (fun _ => true) true fuel 25 [v0, v1, v2, .slice a3 l3 c3, v4, .slice a5 l5 c5] = some (d, p) := hf0
  obtain ⟨xs, m, _, hx', _, hlen, hf⟩ := DataW.trod_struct Tryz.underlying25 hf0
  match xs, hlen with
  | [y0, y1, y2, y3, y4, y5], _ =>
  have hx : d = .agg ([y0, y1, y2, y3, y4, y5].map (·.1)) := congrArg Prod.fst hx'
  have g0 : DataW.trod enc Tryz.prog W 0 (fun _ => true) true m 9 (([v0, v1, v2, .slice a3 l3 c3, v4, .slice a5 l5 c5].drop 0).take (Tryz.prog.cellsOf 9)) = some y0 := hf 0 _ rfl
  rw [one_cell (t := 9) (by kernel_rfl) [v0, v1, v2, .slice a3 l3 c3, v4, .slice a5 l5 c5] 0 v0 rfl] at g0
  have g1 : DataW.trod enc Tryz.prog W 0 (fun _ => true) true m 3 (([v0, v1, v2, .slice a3 l3 c3, v4, .slice a5 l5 c5].drop 1).take (Tryz.prog.cellsOf 3)) = some y1 := hf 1 _ rfl
  rw [one_cell (t := 3) (by kernel_rfl) [v0, v1, v2, .slice a3 l3 c3, v4, .slice a5 l5 c5] 1 v1 rfl] at g1
  have g2 : DataW.trod enc Tryz.prog W 0 (fun _ => true) true m 3 (([v0, v1, v2, .slice a3 l3 c3, v4, .slice a5 l5 c5].drop 2).take (Tryz.prog.cellsOf 3)) = some y2 := hf 2 _ rfl
  rw [one_cell (t := 3) (by kernel_rfl) [v0, v1, v2, .slice a3 l3 c3, v4, .slice a5 l5 c5] 2 v2 rfl] at g2
  have g3 : DataW.trod enc Tryz.prog W 0 (fun _ => true) true m 22 (([v0, v1, v2, .slice a3 l3 c3, v4, .slice a5 l5 c5].drop 3).take (Tryz.prog.cellsOf 22)) = some y3 := hf 3 _ rfl
  rw [one_cell (t := 22) (by kernel_rfl) [v0, v1, v2, .slice a3 l3 c3, v4, .slice a5 l5 c5] 3 (.slice a3 l3 c3) rfl] at g3
  have g4 : DataW.trod enc Tryz.prog W 0 (fun _ => true) true m 9 (([v0, v1, v2, .slice a3 l3 c3, v4, .slice a5 l5 c5].drop 4).take (Tryz.prog.cellsOf 9)) = some y4 := hf 4 _ rfl
  rw [one_cell (t := 9) (by kernel_rfl) [v0, v1, v2, .slice a3 l3 c3, v4, .slice a5 l5 c5] 4 v4 rfl] at g4
  have g5 : DataW.trod enc Tryz.prog W 0 (fun _ => true) true m 23 (([v0, v1, v2, .slice a3 l3 c3, v4, .slice a5 l5 c5].drop 5).take (Tryz.prog.cellsOf 23)) = some y5 := hf 5 _ rfl
  rw [one_cell (t := 23) (by kernel_rfl) [v0, v1, v2, .slice a3 l3 c3, v4, .slice a5 l5 c5] 5 (.slice a5 l5 c5) rfl] at g5
  obtain ⟨s0, e0, _, w0⟩ := DataW.trod_string Tryz.underlying9 g0
  obtain ⟨n1, e1, _, w1⟩ := DataW.trod_int Tryz.underlying3 g1
  obtain ⟨n2, e2, _, w2⟩ := DataW.trod_int Tryz.underlying3 g2
  obtain ⟨s4, e4, _, w4⟩ := DataW.trod_string Tryz.underlying9 g4
  simp only [List.cons.injEq, and_true] at e0 e1 e2 e4
  have hb1 := bounds_i64 w1
  have hb2 := bounds_i64 w2
  obtain ⟨hl, hln, _, hlb, h32, hat⟩ := open_hashes (d := y3.1) (p := y3.2) q3 ⟨m, g3⟩ (fun m' hm' => by
    refine hw _ ?_
    rw [hx]
    simp only [List.map_cons, List.map_nil, DataW.weights, Tryz.underlying25, DataW.weightsEach, List.mem_append]
    right; right; right; left; exact hm')
  obtain ⟨ol, oln, olb, oat, ook⟩ := open_ops (d := y5.1) (p := y5.2) q5 ⟨m, g5⟩ (fun m' hm' => by
    refine hw _ ?_
    rw [hx]
    simp only [List.map_cons, List.map_nil, DataW.weights, Tryz.underlying25, DataW.weightsEach, List.mem_append]
    right; right; right; right; right; left; exact hm')
  have hs0 : s0 = strOf s0.data.toList := by simp [strOf]
  have hs4 : s4 = strOf s4.data.toList := by simp [strOf]
  refine ⟨⟨s0.data.toList, n1, n2, hl, s4.data.toList, ol⟩, ⟨a3, l3, c3⟩, ⟨a5, l5, c5⟩, ?_, ⟨hat, oat, hln, oln, h32, ook, by simp only; omega, by simp only; omega, by simp only; omega, by simp only; omega, by simpa using w0, by simpa using w4, by simp only; omega, by simp only; omega⟩⟩
  subst e0 e1 e2 e4
  simp only [cV]
  rw [← hs0, ← hs4]
end Go.Proofs.YtgmdolpjkaajfaaGreatDoor
