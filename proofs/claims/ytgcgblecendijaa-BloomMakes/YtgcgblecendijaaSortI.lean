/-
  THE EXCHANGE; THE WALKS OF sort.insertionSort_func AND OF sort.pdqsort_func AT FEW.
-/
import Derived.Test.YtgcgblecendijaaSortW
import Derived.Sort.LotA
namespace Go.Proofs.Ytgcgblecendijaa
open Go.RowKit Go.Sort Go.Lib
theorem OwnH.of_cells {W : World} {g cap n : Nat} {l : List Hs} (h32 : All32 l) (hl : l.length = n) {cur : Array Value} (hg : W.heap[g]? = some (.cells cur 29 (0, 0))) (hc : cur.size = cap * 32) (hn : n ≤ cap) (hm : cap ≤ maxLen)
    (hcell : ∀ j, j < n * 32 → W.cell? ⟨g, j, none⟩ = some (.int .u8 ((l.flatten.getD j 0).toNat : Int))) : OwnH W g (.slice (some ⟨g, 0, none⟩) n cap) l := by
  subst hl
  refine ⟨by rw [c8_len, flat_len h32], .inr ⟨g, cap, cur, rfl, Nat.le_refl _, hg, hn, hm, hc, ?_⟩⟩
  apply List.ext_getElem?
  intro j
  by_cases hj : j < l.length * 32
  · rw [List.getElem?_take_of_lt hj, c8_get _ j (by rw [flat_len h32]; exact hj)]
    have := hcell j hj
    rw [cell_of_row W g j cur 29 (0, 0) hg] at this
    simpa using this
  · rw [List.getElem?_eq_none (by simp; omega), List.getElem?_eq_none (by rw [c8_len, flat_len h32]; omega)]
theorem setCells_row {W : World} {g : Nat} {cur : Array Value} {t : TypeId} (hg : W.heap[g]? = some (.cells cur t (0, 0))) (o : Nat) (vs : List Value) : ∃ cur', (W.setCells g o vs).heap[g]? = some (.cells cur' t (0, 0)) ∧ cur'.size = cur.size := by
  have hk := (World.keptBut_setCells g (may := fun _ => True) vs o W (fun _ _ => trivial)).2.2 g (Array.getElem?_eq_some_iff.1 hg).1
  rw [hg] at hk
  cases hh : (W.setCells g o vs).heap[g]? with
  | none => rw [hh] at hk; simp at hk
  | some ob =>
    rw [hh] at hk
    cases ob with
    | cells c' t' fr' =>
      simp only at hk
      obtain ⟨rfl, rfl, h3, _⟩ := hk
      exact ⟨c', rfl, h3⟩
    | _ => simp at hk
theorem OwnH.row {W : World} {g base n cap : Nat} {l : List Hs} (h : OwnH W base (.slice (some ⟨g, 0, none⟩) n cap) l) : ∃ cur, W.heap[g]? = some (.cells cur 29 (0, 0)) ∧ cur.size = cap * 32 ∧ n ≤ cap ∧ cap ≤ maxLen ∧ l.length = n := by
  rcases h.2 with ⟨e, _⟩ | ⟨g', cap', cur, e, hb, hg, hnc, hcm, hcs, ht⟩
  · cases e
  · injection e with e1 e2 e3
    injection e1 with e1
    injection e1 with e1
    subst e1; subst e3
    exact ⟨cur, hg, hcs, by omega, hcm, e2.symm⟩
theorem grown_setCells {w0 W : World} {g : Nat} (h : w0.grownBy W (some g)) (o : Nat) (vs : List Value) : w0.grownBy (W.setCells g o vs) (some g) := by
  have hk := World.keptBut_setCells g (may := fun _ => True) vs o W (fun _ _ => trivial)
  refine ⟨hk.1.trans h.os, ?_, hk.2.1.trans h.output, Nat.le_trans h.size hk.size, fun k hk' hne => ?_⟩
  · rw [← h.tape]
    clear hk h
    induction vs generalizing o W with
    | nil => rfl
    | cons v r ih => rw [World.setCells, ih]; rfl
  · rw [World.heap_setCells_other W g o vs (Nat.lt_of_lt_of_le hk' h.size) (fun e => hne (by rw [e]))]
    exact h.block k hk' hne
theorem swp_get (d : Array Hs) (i j k : Nat) (hi : i < d.size) (hj : j < d.size) : (swp d i j)[k]! = if k = j then d[i]! else if k = i then d[j]! else d[k]! := by
  by_cases h1 : k = j
  · subst h1; rw [if_pos rfl, swp_right d i k hj]
  · rw [if_neg h1]
    by_cases h2 : k = i
    · subst h2; rw [if_pos rfl, swp_left d k j hi h1]
    · rw [if_neg h2, swp_other d i j k h2 h1]
theorem swp_all32 {d : Array Hs} {i j : Nat} (h : All32 d.toList) (hi : i < d.size) (hj : j < d.size) : All32 (swp d i j).toList := fun x hx => by
  obtain ⟨k, hk, e⟩ := List.getElem_of_mem hx
  have hk2 : k < (swp d i j).size := by simpa using hk
  have hk3 : k < d.size := by rw [size_swp] at hk2; exact hk2
  have e2 : x = (swp d i j)[k]! := by rw [← e, getElem!_pos _ k hk2]; simp
  rw [e2, swp_get d i j k hi hj]
  split
  · exact h.at (get_bang d i hi)
  · split
    · exact h.at (get_bang d j hj)
    · exact h.at (get_bang d k hk3)
/-- The exchange of two. -/
theorem SW.swapped {w0 : World} {g cap Bs : Nat} {d : Array Hs} {W : World} (h : SW w0 g cap Bs d W) {i j : Nat} (hi : i < d.size) (hj : j < d.size) :
    SW w0 g cap Bs (swp d i j) ((W.setCells g (0 + i * 32) (c8 d[j]!)).setCells g (0 + j * 32) (c8 d[i]!)) := by
  obtain ⟨cur, hg, hcs, hnc, hcm, hln⟩ := h.own.row
  obtain ⟨c1, hg1, hs1⟩ := setCells_row hg (0 + i * 32) (c8 d[j]!)
  obtain ⟨c2, hg2, hs2⟩ := setCells_row hg1 (0 + j * 32) (c8 d[i]!)
  have h32 := swp_all32 h.a32 hi hj
  have hli := h.len hi
  have hlj := h.len hj
  have hsz := size_swp d i j
  simp only [Nat.zero_add] at hg1 hg2 ⊢
  have isS : ∀ k, k < d.size → ∀ u, u < 32 → (W.cell? ⟨g, k * 32 + u, none⟩).isSome = true := fun k hk u hu => by
    have := h.range hk u _ (c8_get d[k]! u (by rw [h.len hk]; exact hu))
    rw [this]; rfl
  refine ⟨?_, ?_, h.ne, grown_setCells (grown_setCells h.grow _ _) _ _, h32⟩
  · rw [hsz]
    refine OwnH.of_cells h32 (by rw [Array.length_toList, hsz]) hg2 (by rw [hs2, hs1, hcs]) hnc hcm (fun x hx => ?_)
    have hx1 : x / 32 < d.size := by omega
    have hx2 : x % 32 < 32 := Nat.mod_lt _ (by omega)
    have hxe : x = x / 32 * 32 + x % 32 := by omega
    have hfl := flat_at h32 (j := x / 32) (h := (swp d i j)[x / 32]!) (get_bang _ _ (by rw [hsz]; exact hx1)) (x % 32) hx2
    rw [← hxe] at hfl
    rw [hfl, swp_get d i j _ hi hj]
    have some1 : ∀ u, u < (c8 d[i]!).length → ((W.setCells g (i * 32) (c8 d[j]!)).cell? ⟨g, j * 32 + u, none⟩).isSome = true := fun u hu => World.isSome_setCells g _ _ _ _ (isS j hj u (by rw [c8_len, hli] at hu; exact hu))
    have some0 : ∀ u, u < (c8 d[j]!).length → (W.cell? ⟨g, i * 32 + u, none⟩).isSome = true := fun u hu => isS i hi u (by rw [c8_len, hlj] at hu; exact hu)
    by_cases e1 : x / 32 = j
    · rw [if_pos e1]
      have hin := World.cell?_setCells_in g (c8 d[i]!) (j * 32) (W.setCells g (i * 32) (c8 d[j]!)) some1 (x % 32) (by rw [c8_len, hli]; exact hx2)
      have e2 : (⟨g, x, none⟩ : Addr) = ⟨g, j * 32 + x % 32, none⟩ := by rw [← e1, ← hxe]
      rw [e2, hin]
      have := c8_get d[i]! (x % 32) (by rw [hli]; exact hx2)
      rw [← this, List.getElem?_eq_getElem (by rw [c8_len, hli]; exact hx2)]
    · rw [if_neg e1, World.cell?_setCells_out g _ _ _ _ (fun _ _ => by
        rw [c8_len, hli]
        rcases Nat.lt_or_gt_of_ne e1 with h | h
        · left; show x < j * 32; omega
        · right; show j * 32 + 32 ≤ x; omega)]
      by_cases e3 : x / 32 = i
      · rw [if_pos e3]
        have hin := World.cell?_setCells_in g (c8 d[j]!) (i * 32) W some0 (x % 32) (by rw [c8_len, hlj]; exact hx2)
        have e2 : (⟨g, x, none⟩ : Addr) = ⟨g, i * 32 + x % 32, none⟩ := by rw [← e3, ← hxe]
        rw [e2, hin]
        have := c8_get d[j]! (x % 32) (by rw [hlj]; exact hx2)
        rw [← this, List.getElem?_eq_getElem (by rw [c8_len, hlj]; exact hx2)]
      · rw [if_neg e3, World.cell?_setCells_out g _ _ _ _ (fun _ _ => by
          rw [c8_len, hlj]
          rcases Nat.lt_or_gt_of_ne e3 with h | h
          · left; show x < i * 32; omega
          · right; show i * 32 + 32 ≤ x; omega)]
        have := h.range hx1 (x % 32) _ (c8_get d[x / 32]! (x % 32) (by rw [h.len hx1]; exact hx2))
        rw [← hxe] at this
        exact this
  · have hne := h.ne
    rw [World.cell?_setCells_out g _ _ _ _ (fun hb _ => absurd hb hne), World.cell?_setCells_out g _ _ _ _ (fun hb _ => absurd hb hne), h.box, hsz]
/-- What the exchange, which the library makes, does. -/
theorem swap74 {w0 : World} {g cap Bs : Nat} {d : Array Hs} {W : World} (h : SW w0 g cap Bs d W) {i j : Nat} (hi : i < d.size) (hj : j < d.size) :
    (callFunc 60 #[.int .i64 (i : Int), .int .i64 (j : Int), .slice (some ⟨g, 0, none⟩) d.size cap, typeHandle Try.prog 29]).run Try.prog W = .ok (.value (.tuple #[])) ((W.setCells g (0 + i * 32) (c8 d[j]!)).setCells g (0 + j * 32) (c8 d[i]!)) := by
  obtain ⟨inf, z, hinf, _, hsz, _⟩ := info24
  obtain ⟨cur, hg, _⟩ := h.own.row
  rw [run_callFunc_extern Try.func60 (by kernel_rfl) (by kernel_rfl) (by kernel_rfl) (e := Extern.ReflectliteSwapper.swap false) (by kernel_rfl)]
  have fr : ∀ x, W.frozen? ⟨g, x, none⟩ = false := fun x => frozen_of_row W g x cur 29 hg
  have := run_swap_cells (P := Try.prog) false 29 inf hinf (fun _ => by kernel_rfl) g 0 d.size cap i j hi hj (c8 d[i]!) (c8 d[j]!) (by rw [c8_len, h.len hi, hsz]) (by rw [c8_len, h.len hj, hsz]) (c8_one _) (c8_one _) W
    (fun k v hv => by rw [hsz, Nat.zero_add]; exact h.range hi k v hv) (fun k v hv => by rw [hsz, Nat.zero_add]; exact h.range hj k v hv) (fun k _ => fr _) (fun k _ => fr _)
  rw [this, hsz]
  rfl
end Go.Proofs.Ytgcgblecendijaa
