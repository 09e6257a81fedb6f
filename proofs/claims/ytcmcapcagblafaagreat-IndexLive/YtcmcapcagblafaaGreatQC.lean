/-
  hashes: SortW SortI SortJ (of its own seat, carried over).
-/
import Derived.Test.YtcmcapcagblafaaGreatQB
import Derived.Lib.ReflectliteSwap
import Derived.Sort.Lot0
import Derived.Sort.WalkA
import Derived.Sort.LotA
namespace Go.Proofs.YtcmcapcagblafaaGreat
section
open Go.RowKit Go.Lib Go.Sort
section
variable {ops : Array Oper} {Q : Exit → Act → World → Prop} {T : World → Prop} {fuel : Nat} {listed : Array Bool} {a : Act} {w : World} {oi : Oper}
theorem tkCallS (i d : Nat) (f : FuncId) (args : Array Value) (R : Value → World → Prop) (hi : ops[i]? = some oi) (hd : oi.dst = some d) (hr : Region.ready .any ops listed = [i])
    (hw : Region.wanted oi (yielded ops a.tmps) = true) (hrun : ∀ w, (execOp a.eval oi).run Tryz.prog w = .ok (.enter f args) w)
    (hc : Calls Tryz.prog f args w fun e w' => ∃ v, e = .returned v ∧ R v w')
    (h : ∀ v w', R v w' → T w' ∧ wpAnyH Tryz.prog .any ops Q T fuel (listed.setIfInBounds i true) (a.put (some d) v) w') : wpAnyH Tryz.prog .any ops Q T (fuel + 1) listed a w :=
  wpAnyH_all hr (by simp) (fun j hj => by
    obtain rfl : j = i := by simpa using hj
    refine wpOp_step hi (fun K' hK => ?_)
    rw [if_pos hw]
    unfold Oper.wp
    rw [hrun, Oper.upon_enter]
    refine hc.mono (fun e w' ⟨v, he, hr⟩ => ?_)
    subst he
    rw [hd]
    exact hK _ _ (h v w' hr))
theorem x_ld22 {x : Operand} {g p : Nat} {v : Value} (hop : oi.op = .load 26 x) (hx : a.eval x = .pointer (some ⟨g, p, none⟩)) (hc : w.cell? ⟨g, p, none⟩ = some v) : (execOp a.eval oi).run Tryz.prog w = .ok (.value v) w := by
  unfold execOp; simp only [hop, hx]; simp [go_sem, hc]
theorem x_ld24 {x : Operand} {g p : Nat} {h : Hs} (h32 : h.length = 32) (hop : oi.op = .load 40 x) (hx : a.eval x = .pointer (some ⟨g, p, none⟩)) (hc : w.rangeAt g p (c8 h)) : (execOp a.eval oi).run Tryz.prog w = .ok (.value (hv h)) w := by
  unfold execOp
  simp only [hop, hx, Instr.loadAt, Instr.sureAddr, Sem.run_bind, Sem.run_pure, Result.andThen_ok, run_loadVar_mid w g p 40 (c8 h) _ hc Tryz.underlying40 rfl (size24' h32)]
  rfl
theorem xq_idx22 {x y : Operand} {b f n c k : Nat} (hop : oi.op = .indexAddr 26 x y) (hx : a.eval x = .slice (some ⟨b, f, none⟩) n c) (hy : a.eval y = .int .i64 (k : Int)) (hk : k < n) : (execOp a.eval oi).run Tryz.prog w = .ok (.value (.pointer (some ⟨b, f + k * 32, none⟩))) w := by
  have hk' : (k : Int) < (n : Int) := by omega
  obtain ⟨i, hi, hz⟩ := Option.map_eq_some_iff.1 size24
  unfold execOp; simp only [hop, hx, hy]; simp [go_sem, hk', hi, hz, sizeOf, typeInfo]
end
/-- A row of hashes under way: the array d, in block g; s, the closure's variable, lies in block Bs. -/
structure SW (w0 : World) (g cap Bs : Nat) (d : Array Hs) (W : World) : Prop where
  own : OwnH W g (.slice (some ⟨g, 0, none⟩) d.size cap) d.toList
  box : W.cell? ⟨Bs, 0, none⟩ = some (.slice (some ⟨g, 0, none⟩) d.size cap)
  ne : Bs ≠ g
  grow : w0.grownBy W (some g)
  a32 : All32 d.toList
theorem grown_after {w0 W W' : World} {r : Option Nat} (h : w0.grownBy W r) (ha : After W W') : w0.grownBy W' r :=
  ⟨ha.os.trans h.os, ha.tape.trans h.tape, ha.output.trans h.output, Nat.le_trans h.size ha.size, fun k hk hne => (ha.block k (Nat.lt_of_lt_of_le hk h.size)).trans (h.block k hk hne)⟩
theorem SW.after {w0 : World} {g cap Bs : Nat} {d : Array Hs} {W W' : World} (h : SW w0 g cap Bs d W) (ha : After W W') : SW w0 g cap Bs d W' :=
  ⟨h.own.after ha, (Below.cell ha (block_lt_of_cell h.box)).trans h.box, h.ne, grown_after h.grow ha, h.a32⟩
theorem get_bang (d : Array Hs) (i : Nat) (hi : i < d.size) : d.toList[i]? = some d[i]! := by
  rw [getElem!_pos d i hi]; simp [hi]
theorem ne_nil_of_size {d : Array Hs} {i : Nat} (hi : i < d.size) : d.toList ≠ [] := fun e => by
  have h2 : d.toList.length = 0 := by rw [e]; rfl
  rw [Array.length_toList] at h2; omega
theorem SW.range {w0 : World} {g cap Bs : Nat} {d : Array Hs} {W : World} (h : SW w0 g cap Bs d W) {i : Nat} (hi : i < d.size) : W.rangeAt g (i * 32) (c8 d[i]!) := by
  obtain ⟨ao, c, e, hat, _⟩ := h.own.at
  obtain ⟨b, o, e2, hr⟩ := hat.get h.a32 (ne_nil_of_size hi)
  have e3 : ao = some ⟨g, 0, none⟩ := by injection e with e1; exact e1.symm
  rw [e3] at e2
  cases e2
  have := hr i _ (get_bang d i hi)
  simpa using this
theorem SW.len {w0 : World} {g cap Bs : Nat} {d : Array Hs} {W : World} (h : SW w0 g cap Bs d W) {i : Nat} (hi : i < d.size) : (d[i]!).length = 32 := h.a32.at (get_bang d i hi)
set_option maxRecDepth 100000 in
set_option maxHeartbeats 1600000 in
/-- What the comparison, handed to sort.Slice, tells. -/
theorem less51 {w0 : World} {g cap Bs : Nat} {d : Array Hs} {w : World} (h : SW w0 g cap Bs d w) {i j : Nat} (hi : i < d.size) (hj : j < d.size) :
    Calls Tryz.prog 49 #[.int .i64 (i : Int), .int .i64 (j : Int), .pointer (some ⟨Bs, 0, none⟩)] w fun e w' => e = .returned (.bool (ltB d[i]! d[j]!)) ∧ After w w' := by
  have HS := show Hid (SW _ _ _ _ _ _) from h
  obtain ⟨n, hn⟩ : ∃ n, d.size = n := ⟨_, rfl⟩
  have HN : Hid (d.size = n) := hn
  have hin : i < n := by omega
  have hjn : j < n := by omega
  obtain ⟨x, hx⟩ : ∃ x, d[i]! = x := ⟨_, rfl⟩
  obtain ⟨y, hy⟩ : ∃ y, d[j]! = y := ⟨_, rfl⟩
  have HX : Hid (x.length = 32 ∧ w.rangeAt g (0 + i * 32) (c8 x)) := by rw [← hx, Nat.zero_add]; exact ⟨h.len hi, h.range hi⟩
  have HY : Hid (y.length = 32 ∧ w.rangeAt g (0 + j * 32) (c8 y)) := by rw [← hy, Nat.zero_add]; exact ⟨h.len hj, h.range hj⟩
  have HB : Hid (w.cell? ⟨Bs, 0, none⟩ = some (.slice (some ⟨g, 0, none⟩) n cap)) := by rw [← hn]; exact h.box
  rw [hx, hy]
  clear h hi hj hx hy hn
  go_enter Tryz.func49, Tryz.ntmps49
  go_wp2_with fail
  refine wp_region_noPanic ?_
  refine wp_region_held_drew (S := After w) (by kernel_rfl) (After.drew (After.refl w)) ?_
  intro hS0
  refine tk 0 6 (.slice (some ⟨g, 0, none⟩) n cap) (fuel := 9) rfl (by kernel_rfl) (by kernel_rfl) (by kernel_rfl) (by kernel_rfl) noPanic_false (by kernel_rfl) (fun W hW => x_ld22 (x := .tmp 2) (g := Bs) (p := 0) (by kernel_rfl) (by kernel_rfl) ((Below.cell hW (block_lt_of_cell HB.out)).trans HB.out)) hS0 ?_
  refine tk 1 7 (.int .i64 (i : Int)) (fuel := 8) rfl (by kernel_rfl) (by kernel_rfl) (by kernel_rfl) (by kernel_rfl) noPanic_false (by kernel_rfl) (fun _ _ => by kernel_rfl) hS0 ?_
  refine tk 2 8 (.pointer (some ⟨g, 0 + i * 32, none⟩)) (fuel := 7) rfl (by kernel_rfl) (by kernel_rfl) (by kernel_rfl) (by kernel_rfl) noPanic_false (by kernel_rfl) (fun W _ => xq_idx22 (n := n) (c := cap) (x := .tmp 6) (y := .tmp 7) (by kernel_rfl) (by kernel_rfl) (by kernel_rfl) hin) hS0 ?_
  refine tk 3 9 (hv x) (fuel := 6) rfl (by kernel_rfl) (by kernel_rfl) (by kernel_rfl) (by kernel_rfl) noPanic_false (by kernel_rfl) (fun W hW => x_ld24 HX.out.1 (x := .tmp 8) (g := g) (p := 0 + i * 32) (by kernel_rfl) (by kernel_rfl) (range_after HX.out.2 hW)) hS0 ?_
  refine tk 4 10 (.slice (some ⟨g, 0, none⟩) n cap) (fuel := 5) rfl (by kernel_rfl) (by kernel_rfl) (by kernel_rfl) (by kernel_rfl) noPanic_false (by kernel_rfl) (fun W hW => x_ld22 (x := .tmp 2) (g := Bs) (p := 0) (by kernel_rfl) (by kernel_rfl) ((Below.cell hW (block_lt_of_cell HB.out)).trans HB.out)) hS0 ?_
  refine tk 5 11 (.int .i64 (j : Int)) (fuel := 4) rfl (by kernel_rfl) (by kernel_rfl) (by kernel_rfl) (by kernel_rfl) noPanic_false (by kernel_rfl) (fun _ _ => by kernel_rfl) hS0 ?_
  refine tk 6 12 (.pointer (some ⟨g, 0 + j * 32, none⟩)) (fuel := 3) rfl (by kernel_rfl) (by kernel_rfl) (by kernel_rfl) (by kernel_rfl) noPanic_false (by kernel_rfl) (fun W _ => xq_idx22 (n := n) (c := cap) (x := .tmp 10) (y := .tmp 11) (by kernel_rfl) (by kernel_rfl) (by kernel_rfl) hjn) hS0 ?_
  refine tk 7 13 (hv y) (fuel := 2) rfl (by kernel_rfl) (by kernel_rfl) (by kernel_rfl) (by kernel_rfl) noPanic_false (by kernel_rfl) (fun W hW => x_ld24 HY.out.1 (x := .tmp 12) (g := g) (p := 0 + j * 32) (by kernel_rfl) (by kernel_rfl) (range_after HY.out.2 hW)) hS0 ?_
  refine tkCallS 8 14 50 #[hv x, hv y] (fun v w' => v = .bool (ltB x y) ∧ After w w') (fuel := 1) rfl (by kernel_rfl) (by kernel_rfl) (by kernel_rfl) (fun _ => by kernel_rfl) ((less_any x y HX.out.1 HY.out.1 w.drew).mono (fun e w' ⟨he, ha⟩ => ⟨_, he, rfl, After.trans hS0 ha⟩)) ?_
  intro v1 w1 ⟨hv1, hA1⟩
  subst hv1
  refine ⟨hA1, ?_⟩
  refine tk 9 5 (.bool (ltB x y)) (fuel := 0) rfl (by kernel_rfl) (by kernel_rfl) (by kernel_rfl) (by kernel_rfl) noPanic_false (by kernel_rfl) (fun _ _ => by kernel_rfl) hA1 ?_
  refine wpAnyH_done (by kernel_rfl) (NoPanic.normal ?_) _
  have HA1 : Hid (After w w1) := hA1
  clear hA1 hS0
  go_simp
  go_wp2
  go_ret
  exact ⟨rfl, HA1.out⟩
end
section
open Go.RowKit Go.Lib Go.Sort
theorem OwnH.of_cells {W : World} {g cap n : Nat} {l : List Hs} (h32 : All32 l) (hl : l.length = n) {cur : Array Value} (hg : W.heap[g]? = some (.cells cur 40 (0, 0))) (hc : cur.size = cap * 32) (hn : n ≤ cap) (hm : cap ≤ maxLen)
    (hcell : ∀ j, j < n * 32 → W.cell? ⟨g, j, none⟩ = some (.int .u8 ((l.flatten.getD j 0).toNat : Int))) : OwnH W g (.slice (some ⟨g, 0, none⟩) n cap) l := by
  subst hl
  refine ⟨by rw [c8_len, flat_len h32], .inr ⟨g, cap, cur, rfl, Nat.le_refl _, hg, hn, hm, hc, ?_⟩⟩
  apply List.ext_getElem?
  intro j
  by_cases hj : j < l.length * 32
  · rw [List.getElem?_take_of_lt hj, c8_get _ j (by rw [flat_len h32]; exact hj)]
    have := hcell j hj
    rw [cell_of_row W g j cur 40 (0, 0) hg] at this
    simpa using this
  · rw [List.getElem?_eq_none (by simp; omega), List.getElem?_eq_none (by rw [c8_len, flat_len h32]; omega)]
theorem setCells_row {W : World} {g : Nat} {cur : Array Value} {t : TypeId} (hg : W.heap[g]? = some (.cells cur t (0, 0))) (o : Nat) (vs : List Value) : ∃ cur', (W.setCells g o vs).heap[g]? = some (.cells cur' t (0, 0)) ∧ cur'.size = cur.size := by
  have hk := (World.keptBut_setCells g (may := fun _ => True) vs o W (fun _ _ => trivial)).2.2 g (Array.getElem?_eq_some_iff.1 hg).1
  rw [hg] at hk
  cases hh : (W.setCells g o vs).heap[g]? with
  | none => rw [hh] at hk; simp at hk
  | some ob =>
    rw [hh] at hk
    cases ob with
    | cells c' t' fr' =>
      simp only at hk
      obtain ⟨rfl, rfl, h3, _⟩ := hk
      exact ⟨c', rfl, h3⟩
    | _ => simp at hk
theorem OwnH.row {W : World} {g base n cap : Nat} {l : List Hs} (h : OwnH W base (.slice (some ⟨g, 0, none⟩) n cap) l) : ∃ cur, W.heap[g]? = some (.cells cur 40 (0, 0)) ∧ cur.size = cap * 32 ∧ n ≤ cap ∧ cap ≤ maxLen ∧ l.length = n := by
  rcases h.2 with ⟨e, _⟩ | ⟨g', cap', cur, e, hb, hg, hnc, hcm, hcs, ht⟩
  · cases e
  · injection e with e1 e2 e3
    injection e1 with e1
    injection e1 with e1
    subst e1; subst e3
    exact ⟨cur, hg, hcs, by omega, hcm, e2.symm⟩
theorem grown_setCellsS {w0 W : World} {g : Nat} (h : w0.grownBy W (some g)) (o : Nat) (vs : List Value) : w0.grownBy (W.setCells g o vs) (some g) := by
  have hk := World.keptBut_setCells g (may := fun _ => True) vs o W (fun _ _ => trivial)
  refine ⟨hk.1.trans h.os, ?_, hk.2.1.trans h.output, Nat.le_trans h.size hk.size, fun k hk' hne => ?_⟩
  · rw [← h.tape]
    clear hk h
    induction vs generalizing o W with
    | nil => rfl
    | cons v r ih => rw [World.setCells, ih]; rfl
  · rw [World.heap_setCells_other W g o vs (Nat.lt_of_lt_of_le hk' h.size) (fun e => hne (by rw [e]))]
    exact h.block k hk' hne
theorem swp_get (d : Array Hs) (i j k : Nat) (hi : i < d.size) (hj : j < d.size) : (swp d i j)[k]! = if k = j then d[i]! else if k = i then d[j]! else d[k]! := by
  by_cases h1 : k = j
  · subst h1; rw [if_pos rfl, swp_right d i k hj]
  · rw [if_neg h1]
    by_cases h2 : k = i
    · subst h2; rw [if_pos rfl, swp_left d k j hi h1]
    · rw [if_neg h2, swp_other d i j k h2 h1]
theorem swp_all32 {d : Array Hs} {i j : Nat} (h : All32 d.toList) (hi : i < d.size) (hj : j < d.size) : All32 (swp d i j).toList := fun x hx => by
  obtain ⟨k, hk, e⟩ := List.getElem_of_mem hx
  have hk2 : k < (swp d i j).size := by simpa using hk
  have hk3 : k < d.size := by rw [size_swp] at hk2; exact hk2
  have e2 : x = (swp d i j)[k]! := by rw [← e, getElem!_pos _ k hk2]; simp
  rw [e2, swp_get d i j k hi hj]
  split
  · exact h.at (get_bang d i hi)
  · split
    · exact h.at (get_bang d j hj)
    · exact h.at (get_bang d k hk3)
/-- The exchange of two. -/
theorem SW.swapped {w0 : World} {g cap Bs : Nat} {d : Array Hs} {W : World} (h : SW w0 g cap Bs d W) {i j : Nat} (hi : i < d.size) (hj : j < d.size) :
    SW w0 g cap Bs (swp d i j) ((W.setCells g (0 + i * 32) (c8 d[j]!)).setCells g (0 + j * 32) (c8 d[i]!)) := by
  obtain ⟨cur, hg, hcs, hnc, hcm, hln⟩ := h.own.row
  obtain ⟨c1, hg1, hs1⟩ := setCells_row hg (0 + i * 32) (c8 d[j]!)
  obtain ⟨c2, hg2, hs2⟩ := setCells_row hg1 (0 + j * 32) (c8 d[i]!)
  have h32 := swp_all32 h.a32 hi hj
  have hli := h.len hi
  have hlj := h.len hj
  have hsz := size_swp d i j
  simp only [Nat.zero_add] at hg1 hg2 ⊢
  have isS : ∀ k, k < d.size → ∀ u, u < 32 → (W.cell? ⟨g, k * 32 + u, none⟩).isSome = true := fun k hk u hu => by
    have := h.range hk u _ (c8_get d[k]! u (by rw [h.len hk]; exact hu))
    rw [this]; rfl
  refine ⟨?_, ?_, h.ne, grown_setCellsS (grown_setCellsS h.grow _ _) _ _, h32⟩
  · rw [hsz]
    refine OwnH.of_cells h32 (by rw [Array.length_toList, hsz]) hg2 (by rw [hs2, hs1, hcs]) hnc hcm (fun x hx => ?_)
    have hx1 : x / 32 < d.size := by omega
    have hx2 : x % 32 < 32 := Nat.mod_lt _ (by omega)
    have hxe : x = x / 32 * 32 + x % 32 := by omega
    have hfl := flat_at h32 (j := x / 32) (h := (swp d i j)[x / 32]!) (get_bang _ _ (by rw [hsz]; exact hx1)) (x % 32) hx2
    rw [← hxe] at hfl
    rw [hfl, swp_get d i j _ hi hj]
    have some1 : ∀ u, u < (c8 d[i]!).length → ((W.setCells g (i * 32) (c8 d[j]!)).cell? ⟨g, j * 32 + u, none⟩).isSome = true := fun u hu => World.isSome_setCells g _ _ _ _ (isS j hj u (by rw [c8_len, hli] at hu; exact hu))
    have some0 : ∀ u, u < (c8 d[j]!).length → (W.cell? ⟨g, i * 32 + u, none⟩).isSome = true := fun u hu => isS i hi u (by rw [c8_len, hlj] at hu; exact hu)
    by_cases e1 : x / 32 = j
    · rw [if_pos e1]
      have hin := World.cell?_setCells_in g (c8 d[i]!) (j * 32) (W.setCells g (i * 32) (c8 d[j]!)) some1 (x % 32) (by rw [c8_len, hli]; exact hx2)
      have e2 : (⟨g, x, none⟩ : Addr) = ⟨g, j * 32 + x % 32, none⟩ := by rw [← e1, ← hxe]
      rw [e2, hin]
      have := c8_get d[i]! (x % 32) (by rw [hli]; exact hx2)
      rw [← this, List.getElem?_eq_getElem (by rw [c8_len, hli]; exact hx2)]
    · rw [if_neg e1, World.cell?_setCells_out g _ _ _ _ (fun _ _ => by
        rw [c8_len, hli]
        rcases Nat.lt_or_gt_of_ne e1 with h | h
        · left; show x < j * 32; omega
        · right; show j * 32 + 32 ≤ x; omega)]
      by_cases e3 : x / 32 = i
      · rw [if_pos e3]
        have hin := World.cell?_setCells_in g (c8 d[j]!) (i * 32) W some0 (x % 32) (by rw [c8_len, hlj]; exact hx2)
        have e2 : (⟨g, x, none⟩ : Addr) = ⟨g, i * 32 + x % 32, none⟩ := by rw [← e3, ← hxe]
        rw [e2, hin]
        have := c8_get d[j]! (x % 32) (by rw [hlj]; exact hx2)
        rw [← this, List.getElem?_eq_getElem (by rw [c8_len, hlj]; exact hx2)]
      · rw [if_neg e3, World.cell?_setCells_out g _ _ _ _ (fun _ _ => by
          rw [c8_len, hlj]
          rcases Nat.lt_or_gt_of_ne e3 with h | h
          · left; show x < i * 32; omega
          · right; show i * 32 + 32 ≤ x; omega)]
        have := h.range hx1 (x % 32) _ (c8_get d[x / 32]! (x % 32) (by rw [h.len hx1]; exact hx2))
        rw [← hxe] at this
        exact this
  · have hne := h.ne
    rw [World.cell?_setCells_out g _ _ _ _ (fun hb _ => absurd hb hne), World.cell?_setCells_out g _ _ _ _ (fun hb _ => absurd hb hne), h.box, hsz]
/-- What the exchange, which the library makes, does. -/
theorem swap74 {w0 : World} {g cap Bs : Nat} {d : Array Hs} {W : World} (h : SW w0 g cap Bs d W) {i j : Nat} (hi : i < d.size) (hj : j < d.size) :
    (callFunc 80 #[.int .i64 (i : Int), .int .i64 (j : Int), .slice (some ⟨g, 0, none⟩) d.size cap, typeHandle Tryz.prog 40]).run Tryz.prog W = .ok (.value (.tuple #[])) ((W.setCells g (0 + i * 32) (c8 d[j]!)).setCells g (0 + j * 32) (c8 d[i]!)) := by
  obtain ⟨inf, z, hinf, _, hsz, _⟩ := info24
  obtain ⟨cur, hg, _⟩ := h.own.row
  rw [run_callFunc_extern Tryz.func80 (by kernel_rfl) (by kernel_rfl) (by kernel_rfl) (e := Extern.ReflectliteSwapper.swap false) (by kernel_rfl)]
  have fr : ∀ x, W.frozen? ⟨g, x, none⟩ = false := fun x => frozen_of_row W g x cur 40 hg
  have := run_swap_cells (P := Tryz.prog) false 40 inf hinf (fun _ => by kernel_rfl) g 0 d.size cap i j hi hj (c8 d[i]!) (c8 d[j]!) (by rw [c8_len, h.len hi, hsz]) (by rw [c8_len, h.len hj, hsz]) (c8_one _) (c8_one _) W
    (fun k v hv => by rw [hsz, Nat.zero_add]; exact h.range hi k v hv) (fun k v hv => by rw [hsz, Nat.zero_add]; exact h.range hj k v hv) (fun k _ => fr _) (fun k _ => fr _)
  rw [this, hsz]
  rfl
end
section
open Go.RowKit Go.Lib Go.Sort
theorem ltB_str : ∀ (a b : Hs), a.length = b.length → ltB a b = ltStr a b
  | [], [], _ => by decide
  | [], _ :: _, h => by simp at h
  | _ :: _, [], h => by simp at h
  | x :: xs, y :: ys, h => by
    have ih := ltB_str xs ys (by simpa using h)
    unfold ltB
    by_cases e : x = y
    · subst e
      rw [if_pos rfl, ih]
      simp [ltStr]
    · rw [if_neg e]
      simp [ltStr, List.cons_lt_cons_iff, e]
def lessV (Bs : Nat) : Value := .func (.func 49) #[] #[.pointer (some ⟨Bs, 0, none⟩)]
def swapV (th : Value) (g cap n : Nat) : Value := .func (.func 80) #[] #[.slice (some ⟨g, 0, none⟩) n cap, th]
/-- The sort's world with its own variable data in block B. -/
structure SB (w0 : World) (g cap Bs B n : Nat) (d : Array Hs) (W : World) : Prop where
  sw : SW w0 g cap Bs d W
  sz : d.size = n
  gB : g ≠ B
  row : RowIs W B 105 [lessV Bs, swapV (typeHandle Tryz.prog 40) g cap n]
theorem SB.after {w0 : World} {g cap Bs B n : Nat} {d : Array Hs} {W W' : World} (h : SB w0 g cap Bs B n d W) (ha : After W W') : SB w0 g cap Bs B n d W' :=
  ⟨h.sw.after ha, h.sz, h.gB, h.row.below ha h.row.lt⟩
theorem SB.swapped {w0 : World} {g cap Bs B n : Nat} {d : Array Hs} {W : World} (h : SB w0 g cap Bs B n d W) {i j : Nat} (hi : i < n) (hj : j < n) :
    SB w0 g cap Bs B n (swp d i j) ((W.setCells g (0 + i * 32) (c8 d[j]!)).setCells g (0 + j * 32) (c8 d[i]!)) := by
  have hlt := h.row.lt
  refine ⟨h.sw.swapped (by rw [h.sz]; exact hi) (by rw [h.sz]; exact hj), by rw [size_swp]; exact h.sz, h.gB, ?_⟩
  unfold RowIs
  have s1 := (World.keptBut_setCells g (may := fun _ => True) (c8 d[j]!) (0 + i * 32) W (fun _ _ => trivial)).size
  rw [World.heap_setCells_other _ g _ _ (by omega) (Ne.symm h.gB), World.heap_setCells_other _ g _ _ hlt (Ne.symm h.gB)]
  exact h.row
theorem SB.less {w0 : World} {g cap Bs B n : Nat} {d : Array Hs} {W : World} (h : SB w0 g cap Bs B n d W) {i j : Nat} (hi : i < n) (hj : j < n) :
    Calls Tryz.prog 49 #[.int .i64 (i : Int), .int .i64 (j : Int), .pointer (some ⟨Bs, 0, none⟩)] W fun e w' => e = .returned (.bool (ltStr d[i]! d[j]!)) ∧ SB w0 g cap Bs B n d w' :=
  (less51 h.sw (by rw [h.sz]; exact hi) (by rw [h.sz]; exact hj)).mono (fun _ _ ⟨he, ha⟩ => ⟨by rw [he, ltB_str _ _ (by rw [h.sw.len (by rw [h.sz]; exact hi), h.sw.len (by rw [h.sz]; exact hj)])], h.after ha⟩)
theorem SB.swap {w0 : World} {g cap Bs B n : Nat} {d : Array Hs} {W : World} (h : SB w0 g cap Bs B n d W) {i j : Nat} (hi : i < n) (hj : j < n) :
    ∃ W', (callFunc 80 #[.int .i64 (i : Int), .int .i64 (j : Int), .slice (some ⟨g, 0, none⟩) n cap, typeHandle Tryz.prog 40]).run Tryz.prog W = .ok (.value (.tuple #[])) W' ∧ SB w0 g cap Bs B n (swp d i j) W' := by
  have := swap74 h.sw (i := i) (j := j) (by rw [h.sz]; exact hi) (by rw [h.sz]; exact hj)
  rw [h.sz] at this
  exact ⟨_, this, h.swapped hi hj⟩
theorem SB.start {w0 : World} {g cap Bs n : Nat} {d : Array Hs} {w : World} (h : SW w0 g cap Bs d w) (hn : d.size = n) : SB w0 g cap Bs w.heap.size n d (w.alloc (.cells #[lessV Bs, swapV (typeHandle Tryz.prog 40) g cap n] 105)) :=
  ⟨h.after (after_alloc (After.refl w) _), hn, by have := (World.ownsRow.lt h.own g rfl).2; omega, RowIs.new w 105 [lessV Bs, swapV (typeHandle Tryz.prog 40) g cap n]⟩
set_option maxRecDepth 100000 in
set_option maxHeartbeats 3200000 in
theorem ins77 {w0 : World} {g cap Bs n : Nat} {d : Array Hs} {w : World} (h : SW w0 g cap Bs d w) (hn : d.size = n) (a b : Nat) (hab : a ≤ b) (hb : b ≤ n) (hsz : n < 4611686018427387904) :
    Calls Tryz.prog 83 #[.agg #[lessV Bs, swapV (typeHandle Tryz.prog 40) g cap n], .int .i64 (a : Int), .int .i64 (b : Int)] w fun e w' => e = .returned (.tuple #[]) ∧ SW w0 g cap Bs (insertionSort ltStr d a b) w' := by
  have HS0 := show Hid (SB _ _ _ _ _ _ _ _) from SB.start h hn
  obtain ⟨B, hB⟩ : ∃ B, w.heap.size = B := ⟨_, rfl⟩
  have e51 : ∀ args w, (callFunc 49 args).run Tryz.prog w = .ok (.enter 49 args) w := enters_of Tryz.func49 (by kernel_rfl) rfl
  clear h hn
  unfold lessV swapV at HS0 ⊢
  go_enter Tryz.func83, Tryz.ntmps83
  go_wp2
  rw [hB] at HS0
  obtain ⟨w1, hw1⟩ : ∃ w1, w.alloc (.cells #[.func (.func 49) #[] #[.pointer (some ⟨Bs, 0, none⟩)], .func (.func 80) #[] #[.slice (some ⟨g, 0, none⟩) n cap, typeHandle Tryz.prog 40]] 105) = w1 := ⟨_, rfl⟩
  rw [hw1] at HS0 ⊢
  clear hw1 hB
  go_loopw [6] (fun vi wr => ∃ (i : Nat) (dk : Array Hs), vi = .int .i64 (i : Int) ∧ a < i ∧ i ≤ b + 1 ∧ Hid (SB w0 g cap Bs B n dk wr ∧ insOuter ltStr a b i dk = insOuter ltStr a b (a + 1) d)) (fun vi _ => b + 1 - (intOf vi).toNat)
  case atStart => exact ⟨a + 1, d, by go_num, by omega, by omega, HS0.out, rfl⟩
  case round =>
    obtain ⟨i, dk, rfl, hai, hib, HI⟩ := hrel
    by_cases hlt : i < b
    · have hii : (i : Int) < (b : Int) := by omega
      go_wp2_with fail
      go_loopw [7] (fun vj wr => ∃ (j : Nat) (dj : Array Hs), vj = .int .i64 (j : Int) ∧ a ≤ j ∧ j ≤ i ∧ Hid (SB w0 g cap Bs B n dj wr ∧ insInner ltStr a j dj = insInner ltStr a i dk)) (fun vj _ => (intOf vj).toNat)
      case atStart => exact ⟨i, dk, rfl, by omega, Nat.le_refl _, HI.out.1, rfl⟩
      case round =>
        obtain ⟨j, dj, rfl, haj, hji, HJ⟩ := hrel
        have hr := HJ.out.1.row
        have c0 := hr.cell (j := 0) rfl
        have c1 := hr.cell (j := 1) rfl
        unfold lessV at c0
        unfold swapV at c1
        have OUT : Hid (∀ (wx : World) , SB w0 g cap Bs B n dj wx → (j ≤ a ∨ ltStr dj[j]! dj[j - 1]! = false) → SB w0 g cap Bs B n dj wx ∧ insOuter ltStr a b (i + 1) dj = insOuter ltStr a b (a + 1) d) := fun wx hx hs =>
          ⟨hx, by rw [← HI.out.2, insOuter_go _ _ _ _ _ hlt, ← HJ.out.2, insInner_stop _ _ _ _ hs]⟩
        clear hr
        by_cases hja : a < j
        · have hjai : (a : Int) < (j : Int) := by omega
          obtain ⟨p, hp⟩ : ∃ p, j - 1 = p := ⟨_, rfl⟩
          have hpi : (j : Int) - 1 = (p : Int) := by omega
          have HC := show Hid _ from HJ.out.1.less (i := j) (j := p) (by omega) (by omega)
          have HP : Hid (j - 1 = p) := hp
          have hpj : p < j := by omega
          clear hp
          cases hlv : ltStr dj[j]! dj[p]! with
          | true =>
            rw [hlv] at HC
            have HLV : Hid (ltStr dj[j]! dj[p]! = true) := hlv
            clear hlv
            go_wp2_with (go_at_fn 49; refine Calls.mono HC.out ?_; rintro e w2 ⟨rfl, h2⟩; have HS2 := show Hid (SB _ _ _ _ _ _ _ _) from h2; have hr2 := h2.row; have k1 := hr2.cell (j := 1) rfl; unfold swapV at k1; obtain ⟨w3, hsw, h3⟩ := h2.swap (i := j) (j := p) (by omega) (by omega); have HS3 := show Hid (SB _ _ _ _ _ _ _ _) from h3; clear h2 hr2 h3)
            refine ⟨⟨p, swp dj j p, rfl, by omega, by omega, HS3.out, ?_⟩, by simp [intOf]; omega⟩
            have hg := insInner_go (lt := ltStr) a j dj hja (by rw [HP.out]; exact HLV.out)
            rw [HP.out] at hg
            rw [← HJ.out.2, hg]
          | false =>
            rw [hlv] at HC
            have HLV : Hid (ltStr dj[j]! dj[j - 1]! = false) := by rw [HP.out]; exact hlv
            clear hlv
            go_wp2_with (go_at_fn 49; refine Calls.mono HC.out ?_; rintro e w2 ⟨rfl, h2⟩; have HS2 := show Hid (SB _ _ _ _ _ _ _ _) from h2; clear h2)
            go_roundw
            case rel => exact ⟨i + 1, dj, by go_num, by omega, by omega, OUT.out w2 HS2.out (Or.inr HLV.out)⟩
            case measure => simp [intOf]; omega
        · have hjai : ¬ (a : Int) < (j : Int) := by omega
          go_wp2
          go_roundw
          case rel => exact ⟨i + 1, dj, by go_num, by omega, by omega, OUT.out _ HJ.out.1 (Or.inl (by omega))⟩
          case measure => simp [intOf]; omega
    · have hii : ¬ (i : Int) < (b : Int) := by omega
      go_wp2
      go_end0
      exact ⟨rfl, by unfold insertionSort; rw [← HI.out.2, insOuter_stop _ _ _ _ _ hlt]; exact HI.out.1.sw⟩
end
end Go.Proofs.YtcmcapcagblafaaGreat
