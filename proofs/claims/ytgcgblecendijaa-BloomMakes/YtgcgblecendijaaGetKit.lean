/-
  HASHES OUT OF BYTES: the list that is taken off; a row of hashes that is filled place by place.
-/
import Derived.Test.YtgcgblecendijaaEasy
import Derived.Test.YtgcgblecendijaaLRefGets
namespace Go.Proofs.Ytgcgblecendijaa
open Go.RowKit Go.Sort
def hAt (bs : List UInt8) (k j : Nat) : Hs := (bs.drop (k + j * 32)).take 32
theorem hAt_len {bs : List UInt8} {k j n : Nat} (h : k + n * 32 ≤ bs.length) (hj : j < n) : (hAt bs k j).length = 32 := by
  unfold hAt; rw [List.length_take, List.length_drop]
  have : (j + 1) * 32 ≤ n * 32 := Nat.mul_le_mul_right 32 hj
  omega
def zero32 : Hs := List.replicate 32 0
def gl (bs : List UInt8) (k n i : Nat) : List Hs := (List.range n).map fun j => if j < i then hAt bs k j else zero32
theorem gl_len (bs : List UInt8) (k n i : Nat) : (gl bs k n i).length = n := by simp [gl]
theorem gl_get (bs : List UInt8) (k n i j : Nat) (hj : j < n) : (gl bs k n i)[j]? = some (if j < i then hAt bs k j else zero32) := by simp [gl, hj]
theorem gl_32 {bs : List UInt8} {k n i : Nat} (h : k + n * 32 ≤ bs.length) : All32 (gl bs k n i) := fun x hx => by
  obtain ⟨j, hj⟩ := List.getElem?_of_mem hx
  have hjn : j < n := by have := (List.getElem?_eq_some_iff.1 hj).1; rwa [gl_len] at this
  rw [gl_get _ _ _ _ _ hjn] at hj
  cases hj
  split
  · exact hAt_len h hjn
  · simp [zero32]
theorem gl_set (bs : List UInt8) (k n i : Nat) (hi : i < n) : (gl bs k n i).set i (hAt bs k i) = gl bs k n (i + 1) := by
  apply List.ext_getElem?
  intro j
  by_cases hj : j < n
  · rw [List.getElem?_set]
    by_cases e : i = j
    · subst e
      rw [if_pos rfl, if_pos (by rw [gl_len]; exact hi), gl_get _ _ _ _ _ hj, if_pos (by omega)]
    · rw [if_neg e, gl_get _ _ _ _ _ hj, gl_get _ _ _ _ _ hj]
      by_cases h2 : j < i
      · rw [if_pos h2, if_pos (by omega)]
      · rw [if_neg h2, if_neg (by omega)]
  · rw [List.getElem?_eq_none (by rw [List.length_set, gl_len]; omega), List.getElem?_eq_none (by rw [gl_len]; omega)]
/-- The list that is taken off. -/
def gL (bs : List UInt8) (k n : Nat) : List Hs := (List.range n).map (hAt bs k)
theorem gL_succ (bs : List UInt8) (k n : Nat) : gL bs k (n + 1) = gL bs k n ++ [hAt bs k n] := by unfold gL; rw [List.range_succ, List.map_append]; rfl
theorem gL_len (bs : List UInt8) (k n : Nat) : (gL bs k n).length = n := by simp [gL]
theorem gl_all (bs : List UInt8) (k n : Nat) : gl bs k n n = gL bs k n := by
  unfold gl gL
  apply List.map_congr_left
  intro j hj
  rw [if_pos (by simpa using hj)]
theorem gL_32 {bs : List UInt8} {k n : Nat} (h : k + n * 32 ≤ bs.length) : All32 (gL bs k n) := by rw [← gl_all]; exact gl_32 h
theorem OwnH.set {W : World} {g n cap i : Nat} {l : List Hs} {x : Hs} (h : OwnH W g (.slice (some ⟨g, 0, none⟩) n cap) l) (h32 : All32 l) (hx : x.length = 32) (hi : i < n) :
    OwnH (W.setCells g (i * 32) (c8 x)) g (.slice (some ⟨g, 0, none⟩) n cap) (l.set i x) := by
  obtain ⟨cur, hg, hcs, hnc, hcm, hln⟩ := h.row
  obtain ⟨c1, hg1, hs1⟩ := setCells_row hg (i * 32) (c8 x)
  have h32' : All32 (l.set i x) := fun y hy => by
    rcases List.mem_or_eq_of_mem_set hy with hy | hy
    · exact h32 y hy
    · rw [hy]; exact hx
  have hcell : ∀ j, j < n * 32 → W.cell? ⟨g, j, none⟩ = some (.int .u8 ((l.flatten.getD j 0).toNat : Int)) := fun j hj => by
    subst hln
    rw [World.ownsRow.cellAt h j (by first | exact hj | (rw [c8_len, flat_len h32]; omega)), c8_get _ j (by rw [flat_len h32]; omega)]
  refine OwnH.of_cells h32' (by rw [List.length_set]; exact hln) hg1 (by rw [hs1, hcs]) hnc hcm (fun q hq => ?_)
  have hq1 : q / 32 < n := by omega
  have hq2 : q % 32 < 32 := Nat.mod_lt _ (by omega)
  have hqe : q = q / 32 * 32 + q % 32 := by omega
  by_cases e1 : q / 32 = i
  · have hfl := flat_at h32' (j := q / 32) (h := x) (by rw [e1, List.getElem?_set, if_pos rfl, if_pos (by omega)]) (q % 32) hq2
    rw [← hqe] at hfl
    rw [hfl]
    have hin := World.cell?_setCells_in g (c8 x) (i * 32) W (fun u hu => by
      rw [c8_len, hx] at hu
      rw [hcell (i * 32 + u) (by omega)]; rfl) (q % 32) (by rw [c8_len, hx]; exact hq2)
    have e2 : (⟨g, q, none⟩ : Addr) = ⟨g, i * 32 + q % 32, none⟩ := by rw [← e1, ← hqe]
    rw [e2, hin]
    have := c8_get x (q % 32) (by rw [hx]; exact hq2)
    rw [← this, List.getElem?_eq_getElem (by rw [c8_len, hx]; exact hq2)]
  · obtain ⟨y, hy⟩ : ∃ y, l[q / 32]? = some y := ⟨_, List.getElem?_eq_getElem (by omega)⟩
    have hfl := flat_at h32' (j := q / 32) (h := y) (by rw [List.getElem?_set, if_neg (fun e => e1 e.symm)]; exact hy) (q % 32) hq2
    have hfo := flat_at h32 (j := q / 32) (h := y) hy (q % 32) hq2
    rw [← hqe] at hfl hfo
    rw [hfl, World.cell?_setCells_out g _ _ _ _ (fun _ _ => by
      rw [c8_len, hx]
      rcases Nat.lt_or_gt_of_ne e1 with h | h
      · left; show q < i * 32; omega
      · right; show i * 32 + 32 ≤ q; omega), hcell q hq, hfo]
theorem make_full (W : World) (c : Nat) (hc : c ≤ 4398046511104) (bs : List UInt8) (k : Nat) :
    ∃ cs : Array Value, (Instr.makeSlice 22 (.int .u64 (c : Int)) (.int .u64 (c : Int))).run Try.prog W = .ok (.slice (some ⟨W.heap.size, 0, none⟩) c c) (W.alloc (.cells cs 29)) ∧
      OwnH (W.alloc (.cells cs 29)) W.heap.size (.slice (some ⟨W.heap.size, 0, none⟩) c c) (gl bs k c 0) := by
  obtain ⟨i, z, hi, hz, hsz, hby, hzs, hzc⟩ := info24
  have := run_make (P := Try.prog) W 22 29 i z Try.underlying22 hi hz .u64 .u64 c c (by omega) (by omega) (by rw [hby]; omega) (by omega)
  rw [Int.toNat_natCast, hsz] at this
  have h32 : All32 (gl bs k c 0) := fun x hx => by
    obtain ⟨j, hj⟩ := List.getElem?_of_mem hx
    have hjn : j < c := by have := (List.getElem?_eq_some_iff.1 hj).1; rwa [gl_len] at this
    rw [gl_get _ _ _ _ _ hjn, if_neg (by omega)] at hj
    cases hj; simp [zero32]
  refine ⟨_, this, OwnH.of_cells h32 (gl_len _ _ _ _) (heap_alloc_new W _) (by simp [madeCells]) (Nat.le_refl _) (by unfold maxLen; omega) (fun q hq => ?_)⟩
  have hq1 : q / 32 < c := by omega
  have hq2 : q % 32 < 32 := Nat.mod_lt _ (by omega)
  have hqe : q = q / 32 * 32 + q % 32 := by omega
  have hfl := flat_at h32 (j := q / 32) (h := zero32) (by rw [gl_get _ _ _ _ _ hq1, if_neg (by omega)]) (q % 32) hq2
  rw [← hqe] at hfl
  rw [hfl, cell_of_row _ _ _ _ 29 (0, 0) (heap_alloc_new W _)]
  have e1 : zero32.getD (q % 32) 0 = 0 := by unfold zero32; rw [List.getD_eq_getElem?_getD, List.getElem?_replicate, if_pos hq2]; rfl
  rw [e1]
  simp only [madeCells, hzc]
  simp [hq, hq2]
end Go.Proofs.Ytgcgblecendijaa
