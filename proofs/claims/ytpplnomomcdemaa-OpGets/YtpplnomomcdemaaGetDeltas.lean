/-
  THE WALK OF column.GetDeltas.
-/
import Derived.Test.YtpplnomomcdemaaSame
namespace Go.Proofs.Ytpplnomomcdemaa
open Go.RowKit Leb
/-- The sums of a list of differences, in int64. -/
def dsum (l : List Int) : Nat → Int
  | 0 => l[0]?.getD 0
  | j + 1 => RowKit.wrap64 (l[j + 1]?.getD 0 + dsum l j)
def part (l : List Int) (k : Nat) : List Int := (List.range l.length).map (fun j => if j < k then dsum l j else l[j]?.getD 0)
def dsums (l : List Int) : List Int := (List.range l.length).map (dsum l)
theorem part_len (l : List Int) (k : Nat) : (part l k).length = l.length := by simp [part]
theorem part_get (l : List Int) (k j : Nat) (hj : j < l.length) : (part l k)[j]?.getD 0 = if j < k then dsum l j else l[j]?.getD 0 := by
  simp [part, hj]
theorem part_one (l : List Int) : part l 1 = l := by
  apply same_end (part_len l 1)
  intro j hj
  rw [part_len] at hj
  rw [part_get l 1 j hj]
  split
  · obtain rfl : j = 0 := by omega
    rfl
  · rfl
theorem part_all (l : List Int) (k : Nat) (hk : l.length ≤ k) : part l k = dsums l := by
  apply List.map_congr_left
  intro j hj
  rw [if_pos (by have := List.mem_range.1 hj; omega)]
theorem part_next (l : List Int) (k : Nat) (hk : k < l.length) : part l (k + 1) = (part l k).set k (dsum l k) := by
  apply same_end (by simp [part_len])
  intro j hj
  rw [part_len] at hj
  rw [part_get l (k + 1) j hj, List.getElem?_set]
  by_cases h : k = j
  · subst h
    rw [if_pos (by omega), if_pos rfl, if_pos (by rw [part_len]; exact hk)]
    rfl
  · rw [if_neg h, part_get l k j hj]
    by_cases h2 : j < k
    · rw [if_pos h2, if_pos (by omega)]
    · rw [if_neg h2, if_neg (by omega)]
theorem OwnI.stored {w : World} {base g n cap : Nat} {l : List Int} (h : OwnI w base (.slice (some ⟨g, 0, none⟩) n cap) l) (j : Nat) (u : Int) :
    OwnI (w.setCell ⟨g, j, none⟩ (.int .i64 u)) base (.slice (some ⟨g, 0, none⟩) n cap) (l.set j u) ∧ w.grownBy (w.setCell ⟨g, j, none⟩ (.int .i64 u)) (some g) ∧ base ≤ g := by
  have hv := h.at
  obtain ⟨ao, cap', hv, _, _, hl⟩ := hv
  simp only [Value.slice.injEq] at hv
  obtain ⟨h1, rfl, _⟩ := hv
  have := World.ownsRow.stored h j (.int .i64 u)
  refine ⟨?_, this.2, (hl _ h1.symm).1⟩
  unfold OwnI
  rw [List.length_set, show ci (l.set j u) = (ci l).set j (.int .i64 u) by simp [ci, List.map_set]]
  exact this.1
theorem OwnI.frozenAt {w : World} {base g n cap : Nat} {l : List Int} (h : OwnI w base (.slice (some ⟨g, 0, none⟩) n cap) l) (j : Nat) : w.frozen? ⟨g, j, none⟩ = false := by
  obtain ⟨ao, cap', hv, _, _, hl⟩ := h.at
  simp only [Value.slice.injEq] at hv
  obtain ⟨h1, rfl, _⟩ := hv
  exact World.ownsRow.frozenAt h j
theorem after_stored {w W W' : World} {g : Nat} (h : After w W) (hg : W.grownBy W' (some g)) (hb : w.heap.size ≤ g) : After w W' :=
  ⟨hg.os.trans h.os, hg.tape.trans h.tape, hg.output.trans h.output, Nat.le_trans h.size hg.size, fun k hk => (hg.block k (Nat.lt_of_lt_of_le hk h.size) (by simp; omega)).trans (h.block k hk)⟩
theorem rlV_le (bs : List UInt8) (e room least : Nat) : rlV bs e room least ≤ room := by
  unfold rlV
  split
  · exact suV_le bs e room
  · omega
theorem rr_most (most : Nat) : ∀ k bs acc, acc.length ≤ most → (rr most k bs acc).1.length ≤ most
  | 0, bs, acc, h => by simpa [rr] using h
  | k + 1, bs, acc, h => by
    unfold rr
    split
    · split
      · split
        · simp
        · apply rr_most most k
          have := rlV_le bs 0 (most - acc.length) 1
          simp; omega
      · simp
    · simp
theorem rr_int (most : Nat) : ∀ k bs acc, (∀ x ∈ acc, -9223372036854775808 ≤ x ∧ x ≤ 9223372036854775807) → ∀ x ∈ (rr most k bs acc).1, -9223372036854775808 ≤ x ∧ x ≤ 9223372036854775807
  | 0, bs, acc, h => by simpa [rr] using h
  | k + 1, bs, acc, h => by
    unfold rr
    split
    · split
      · split
        · simp
        · apply rr_int most k
          intro x hx
          rcases List.mem_append.1 hx with hx | hx
          · exact h x hx
          · rw [(List.mem_replicate.1 hx).2]
            unfold siV giV giN Leb.wrap64
            split
            · split <;> omega
            · omega
      · simp
    · simp
theorem clampM_le (most : Int) : clampM most ≤ 65536 := by
  unfold clampM
  split
  · omega
  · split <;> omega
theorem readR_most (bs : List UInt8) (most : Nat) : (readR bs most).1.length ≤ most := by
  unfold readR
  split
  · exact rr_most most (suV bs 0 most) (suB bs 0 most) [] (by simp)
  · simp
theorem readR_int (bs : List UInt8) (most : Nat) : ∀ x ∈ (readR bs most).1, -9223372036854775808 ≤ x ∧ x ≤ 9223372036854775807 := by
  unfold readR
  split
  · exact rr_int most (suV bs 0 most) (suB bs 0 most) [] (by simp)
  · simp
theorem getR_most (bs : List UInt8) (most : Int) : (getR bs most).1.length ≤ 65536 := by
  have h := clampM_le most
  have h2 := readR_most bs (clampM most)
  unfold getR
  split
  · show (readR bs (clampM most)).1.length ≤ 65536
    omega
  · simp
theorem getR_int (bs : List UInt8) (most : Int) : ∀ x ∈ (getR bs most).1, -9223372036854775808 ≤ x ∧ x ≤ 9223372036854775807 := by
  unfold getR
  split
  · exact readR_int bs (clampM most)
  · simp
set_option maxRecDepth 100000 in
set_option maxHeartbeats 800000 in
theorem getDeltas_any (ao : Option Addr) (cap : Nat) (bs : List UInt8) (hbig : bs.length ≤ 140737488355328) (most : Int) (hm0 : -9223372036854775808 ≤ most) (hm1 : most ≤ 9223372036854775807) (w : World) (hat : BytesAt w ao bs) :
    Calls Try.prog 56 #[.slice ao bs.length cap, .int .i64 most] w fun x w' => GPost w (dsums (getR bs most).1, (getR bs most).2) x w' := by
  have HC := show Hid _ from getRuns_any ao cap bs hbig most hm0 hm1 w hat
  have hn := getR_most bs most
  obtain ⟨G, hG⟩ : ∃ G, getR bs most = G := ⟨_, rfl⟩
  rw [hG] at HC hn ⊢
  obtain ⟨l, u, e⟩ := G
  replace hn : l.length ≤ 65536 := hn
  clear hat hG
  go_enter Try.func56, Try.ntmps56
  go_wp2_with (go_at_call 53; refine Calls.mono HC.out ?_; rintro x w1 ⟨v, rfl, ho, hb⟩; obtain ⟨a1, c1, rfl, _, hc1, hl1⟩ := OwnI.at ho; have HO := show Hid (OwnI w1 w.heap.size (.slice a1 l.length c1) l) from ho; have HB := show Hid (After w w1) from hb; clear ho hb hl1)
  go_loopw [7] (fun i wr => ∃ k : Nat, 1 ≤ k ∧ k ≤ l.length + 1 ∧ i = .int .i64 k ∧ Hid (OwnI wr w.heap.size (.slice a1 l.length c1) (part l k)) ∧ Hid (After w wr)) (fun i _ => l.length + 1 - (intOf i).toNat)
  case atStart => exact ⟨1, by omega, by omega, rfl, by rw [part_one]; exact HO.out, HB.out⟩
  case round =>
    obtain ⟨k, hk1, hk, rfl, HOr, HBr⟩ := hrel
    by_cases hlt : k < l.length
    · obtain ⟨m, rfl⟩ : ∃ m, k = m + 1 := ⟨k - 1, by omega⟩
      obtain ⟨a', c', hv, hI, _, _⟩ := OwnI.at HOr.out
      simp only [Value.slice.injEq] at hv
      obtain ⟨rfl, -, rfl⟩ := hv
      have hown := HOr.out
      rcases hown.2 with ⟨hv, _⟩ | ⟨g, cap', cur, hv, _⟩
      · simp at hv; omega
      simp only [Value.slice.injEq] at hv
      obtain ⟨rfl, -, rfl⟩ := hv
      have hx := OwnI.cellAt HOr.out (m + 1) (by rw [part_len]; exact hlt)
      have hy := OwnI.cellAt HOr.out m (by rw [part_len]; omega)
      rw [part_get l _ _ hlt, if_neg (by omega)] at hx
      rw [part_get l _ _ (by omega), if_pos (by omega)] at hy
      have hfz := OwnI.frozenAt hown (m + 1)
      obtain ⟨x, HX⟩ : ∃ x : Int, Hid (x = l[m + 1]?.getD 0) := ⟨_, rfl⟩
      obtain ⟨y, HY⟩ : ∃ y : Int, Hid (y = dsum l m) := ⟨_, rfl⟩
      rw [← HX.out] at hx
      rw [← HY.out] at hy
      simp only [Nat.zero_add] at hx hy
      clear hI hown
      go_wp2
      go_region
      go_wp2
      go_roundw
      case rel =>
        have hst := OwnI.stored HOr.out (m + 1) (RowKit.wrap64 (x + y))
        refine ⟨m + 1 + 1, by omega, by omega, by go_num, ?_, After.drew (after_stored HBr.out hst.2.1 hst.2.2)⟩
        rw [part_next l (m + 1) hlt, show dsum l (m + 1) = RowKit.wrap64 (x + y) by rw [HX.out, HY.out]; rfl]
        exact World.ownsRow.drew hst.1
      case measure => simp [intOf]; omega
    · go_wp2
      go_ret3
      exact ⟨_, rfl, by rw [← part_all l k (by omega)]; exact HOr.out, HBr.out⟩
end Go.Proofs.Ytpplnomomcdemaa
