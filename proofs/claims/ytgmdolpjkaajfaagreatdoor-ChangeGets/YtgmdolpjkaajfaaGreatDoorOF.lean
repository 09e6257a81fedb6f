/-
  CONTRACTS: GetRuns Same GetDeltas RefKit RefRuns RefDeltas
-/
import Derived.Test.YtgmdolpjkaajfaaGreatDoorOE
import Derived.Test.YtgmdolpjkaajfaaGreatDoorOC
namespace Go.Proofs.YtgmdolpjkaajfaaGreatDoor
open Go.RowKit Leb
theorem after_but {w W W' : World} {g : Nat} (h : After w W) (hb : But g W W') (hg : w.heap.size ≤ g) : After w W' :=
  ⟨hb.os.trans h.os, hb.tape.trans h.tape, hb.output.trans h.output, Nat.le_trans h.size hb.size, fun k hk => (hb.block k (Nat.lt_of_lt_of_le hk h.size) (by omega)).trans (h.block k hk)⟩
theorem OwnI.mono {w : World} {base base' : Nat} {v : Value} {l : List Int} (h : OwnI w base v l) (hb : base' ≤ base) : OwnI w base' v l := by
  refine ⟨h.1, ?_⟩
  rcases h.2 with hn | ⟨g, cap, cur, rfl, h1, rest⟩
  · exact .inl hn
  · exact .inr ⟨g, cap, cur, rfl, by omega, rest⟩
set_option maxHeartbeats 400000 in
theorem read_far (ao : Option Addr) (cap : Nat) (bs : List UInt8) (hbig : bs.length ≤ 140737488355328) (w : World) (hat : BytesAt w ao bs) :
    Calls Tryz.prog 73 #[.slice ao bs.length cap] w fun e w' => ∃ g a' c', e = .returned (.pointer (some ⟨g, 0, none⟩)) ∧ Rd w' g bs 0 a' c' ∧ (∀ a, a' = some a → w.heap.size ≤ a.block ∧ a.block < w'.heap.size) ∧ w.heap.size ≤ g ∧ Below w.heap.size w w' := by
  have HAT : Hid (BytesAt w ao bs) := hat
  clear hat
  go_enter Tryz.func73, Tryz.ntmps73
  go_wp2_with (go_at_call 109; refine (clone_any ao cap bs hbig _ HAT.out).mono ?_; rintro e w1 ⟨v1, rfl, ho1, hb1⟩; obtain ⟨a1, c1, rfl, hat1, hc1, hl1⟩ := ho1.at)
  go_ret
  refine ⟨w1.heap.size, a1, c1, rfl, ⟨RowIs.new w1 130 [.slice a1 bs.length c1, .int .i64 0], hat1.after (after_alloc (After.refl w1) _), hc1, fun h => ?_, fun a ha => ?_⟩, fun a ha => ⟨(hl1 a ha).1, by have := (hl1 a ha).2; simp; omega⟩, hb1.size, after_alloc hb1 _⟩
  · subst h; exact bytesAt_none hat1
  · have := (hl1 a ha).2; omega
def clampM (most : Int) : Nat := if most < 0 then 0 else if 65536 < most then 65536 else most.toNat
/-- What GetRuns tells. -/
def getR (bs : List UInt8) (most : Int) : List Int × Nat × Nat :=
  if (readR bs (clampM most)).2.2 = 0 then ((readR bs (clampM most)).1, bs.length - (readR bs (clampM most)).2.1.length, 0) else ([], 0, (readR bs (clampM most)).2.2)
def GPost (w : World) (G : List Int × Nat × Nat) (x : Ending) (w' : World) : Prop :=
  ∃ v, x = .returned (.tuple #[v, .int .i64 (G.2.1 : Int), .int .i64 (G.2.2 : Int)]) ∧ OwnI w' w.heap.size v G.1 ∧ After w w'
theorem rr_len (most : Nat) : ∀ k bs acc, (rr most k bs acc).2.1.length ≤ bs.length
  | 0, bs, acc => by simp [rr]
  | k + 1, bs, acc => by
    have h1 : (suB bs 0 (most - acc.length)).length ≤ bs.length := by unfold suB; split <;> simp
    have h2 : (siB (suB bs 0 (most - acc.length)) 0).length ≤ (suB bs 0 (most - acc.length)).length := by unfold siB; split <;> simp
    unfold rr
    split
    · split
      · split
        · simp; omega
        · have := rr_len most k (siB (suB bs 0 (most - acc.length)) 0) (acc ++ List.replicate (rlV bs 0 (most - acc.length) 1) (siV (suB bs 0 (most - acc.length)) 0)); omega
      · simp; omega
    · simpa using h1
theorem readR_len (bs : List UInt8) (most : Nat) : (readR bs most).2.1.length ≤ bs.length := by
  have h1 : (suB bs 0 most).length ≤ bs.length := by unfold suB; split <;> simp
  unfold readR
  split
  · have := rr_len most (suV bs 0 most) (suB bs 0 most) []; omega
  · simpa using h1
set_option maxRecDepth 100000 in
set_option maxHeartbeats 800000 in
theorem takenI_any (ao : Option Addr) (cap : Nat) (bs : List UInt8) (hbig : bs.length ≤ 140737488355328) (most : Int) (hm0 : -9223372036854775808 ≤ most) (hm1 : most ≤ 9223372036854775807) (w : World) (hat : BytesAt w ao bs) :
    Calls Tryz.prog 146 #[.slice ao bs.length cap, .int .i64 most, .func (.func 147) #[] #[]] w fun x w' => GPost w (getR bs most) x w' := by
  have HAT : Hid (BytesAt w ao bs) := hat
  obtain ⟨M, hM⟩ : ∃ M, clampM most = M := ⟨_, rfl⟩
  have hM5 : M ≤ 65536 := by rw [← hM]; unfold clampM; split; omega; split <;> omega
  obtain ⟨R, hR⟩ : ∃ R, readR bs M = R := ⟨_, rfl⟩
  have hRl := readR_len bs M
  rw [hR] at hRl
  have HGR : Hid (getR bs most = if R.2.2 = 0 then (R.1, bs.length - R.2.1.length, 0) else ([], 0, R.2.2)) := by unfold Hid getR; rw [hM, hR]
  have C36 : Hid (∀ W g a c, Rd W g bs 0 a c → (∀ x, a = some x → x.block < W.heap.size) → Calls Tryz.prog 147 #[.pointer (some ⟨g, 0, none⟩), .int .i64 (M : Int)] W fun x w' => RPost W g R x w') := fun W g a c h1 h2 => by
    have := readRuns_any g bs a c M hM5 W h1 h2
    rw [hR] at this
    exact this
  obtain ⟨rl, rb, re⟩ := R
  have hcl : most < 0 ∧ M = 0 ∨ 65536 < most ∧ M = 65536 ∨ 0 ≤ most ∧ most ≤ 65536 ∧ most = (M : Int) := by
    unfold clampM at hM
    split at hM
    · exact .inl ⟨by assumption, hM.symm⟩
    · split at hM
      · exact .inr (.inl ⟨by assumption, hM.symm⟩)
      · exact .inr (.inr ⟨by omega, by omega, by omega⟩)
  clear hat hM hR
  have hre : re = 0 ∨ ¬ re = 0 := by omega
  rcases hcl with ⟨hc1, rfl⟩ | ⟨hc1, rfl⟩ | ⟨hc1, hc2, rfl⟩
  all_goals
    rcases hre with rfl | hre
    · have HG : Hid (getR bs _ = (rl, bs.length - rb.length, 0)) := HGR.out.trans (if_pos rfl)
      clear HGR
      go_enter Tryz.func146, Tryz.ntmps146
      go_wp2_with (first
        | (go_at_call 73; refine (read_far ao cap bs (by omega) _ HAT.out).mono ?_; rintro x w1 ⟨g, a1, c1, rfl, hr1, hf1, hg1, hb1⟩; have HR1 := show Hid (Rd w1 g bs 0 a1 c1) from hr1; have HF1 := show Hid (∀ a, a1 = some a → w.heap.size ≤ a.block ∧ a.block < w1.heap.size) from hf1; have HB1 := show Hid (After w w1) from hb1; clear hr1 hf1 hb1)
        | (go_at_call 147; refine Calls.mono (C36.out _ g a1 c1 HR1.out (fun x hx => (HF1.out x hx).2)) ?_; rintro x w2 ⟨v, rfl, ho, hbt, hrd⟩; have HO := show Hid (OwnI w2 w1.heap.size v rl) from ho; have HBT := show Hid (But g w1 w2) from hbt; have HRD := show Hid (_ = 0 → ∃ ao' cap', Rd w2 g rb 0 ao' cap') from hrd; clear ho hbt hrd)
        | (go_at_call 80; first | (exfalso; omega) | skip; obtain ⟨a2, c2, hr2⟩ := HRD.out (by first | exact rfl | trivial); refine (rLeft_any g rb 0 a2 c2 _ hr2).mono ?_; rintro x w3 ⟨rfl, hw3⟩; have hw4 := hw3.symm; clear hw3; subst hw4))
      go_ret3
      rw [HG.out]
      exact ⟨v, by rw [show (((rl, bs.length - rb.length, 0) : List Int × Nat × Nat).2.1 : Int) = (bs.length : Int) - (rb.length : Int) from Int.ofNat_sub (show rb.length ≤ bs.length from hRl)]; rfl, OwnI.mono HO.out HB1.out.size, after_but HB1.out HBT.out hg1⟩
    · have HG : Hid (getR bs _ = ([], 0, re)) := HGR.out.trans (if_neg hre)
      clear HGR
      go_enter Tryz.func146, Tryz.ntmps146
      go_wp2_with (first
        | (go_at_call 73; refine (read_far ao cap bs (by omega) _ HAT.out).mono ?_; rintro x w1 ⟨g, a1, c1, rfl, hr1, hf1, hg1, hb1⟩; have HR1 := show Hid (Rd w1 g bs 0 a1 c1) from hr1; have HF1 := show Hid (∀ a, a1 = some a → w.heap.size ≤ a.block ∧ a.block < w1.heap.size) from hf1; have HB1 := show Hid (After w w1) from hb1; clear hr1 hf1 hb1)
        | (go_at_call 147; refine Calls.mono (C36.out _ g a1 c1 HR1.out (fun x hx => (HF1.out x hx).2)) ?_; rintro x w2 ⟨v, rfl, ho, hbt, hrd⟩; have HO := show Hid (OwnI w2 w1.heap.size v rl) from ho; have HBT := show Hid (But g w1 w2) from hbt; have HRD := show Hid (_ = 0 → ∃ ao' cap', Rd w2 g rb 0 ao' cap') from hrd; clear ho hbt hrd)
        | (go_at_call 80; first | (exfalso; omega) | skip; obtain ⟨a2, c2, hr2⟩ := HRD.out (by first | exact rfl | trivial); refine (rLeft_any g rb 0 a2 c2 _ hr2).mono ?_; rintro x w3 ⟨rfl, hw3⟩; have hw4 := hw3.symm; clear hw3; subst hw4))
      go_ret3
      rw [HG.out]
      exact ⟨_, rfl, OwnI.nil _ _, after_but HB1.out HBT.out hg1⟩
set_option maxHeartbeats 400000 in
theorem getRuns_any (ao : Option Addr) (cap : Nat) (bs : List UInt8) (hbig : bs.length ≤ 140737488355328) (most : Int) (hm0 : -9223372036854775808 ≤ most) (hm1 : most ≤ 9223372036854775807) (w : World) (hat : BytesAt w ao bs) :
    Calls Tryz.prog 136 #[.slice ao bs.length cap, .int .i64 most] w fun x w' => GPost w (getR bs most) x w' := by
  have HC := show Hid _ from takenI_any ao cap bs hbig most hm0 hm1 w hat
  clear hat
  go_enter Tryz.func136, Tryz.ntmps136
  go_wp2_with (go_at_call 146; refine Calls.mono HC.out ?_; rintro x w1 ⟨v, rfl, ho, hb⟩)
  go_ret3
  exact ⟨v, rfl, ho, hb⟩
end Go.Proofs.YtgmdolpjkaajfaaGreatDoor
namespace Go.Proofs.YtgmdolpjkaajfaaGreatDoor
open Go.RowKit Leb
theorem same_end {l1 l2 : List Int} (h : l1.length = l2.length) (hall : ∀ j, j < l1.length → l1[j]?.getD 0 = l2[j]?.getD 0) : l1 = l2 := by
  apply List.ext_getElem h
  intro j h1 h2
  have := hall j h1
  rwa [List.getElem?_eq_getElem h1, List.getElem?_eq_getElem h2, Option.getD_some, Option.getD_some] at this
end Go.Proofs.YtgmdolpjkaajfaaGreatDoor
namespace Go.Proofs.YtgmdolpjkaajfaaGreatDoor
open Go.RowKit Leb
/-- The sums of a list of differences, in int64. -/
def dsum (l : List Int) : Nat → Int
  | 0 => l[0]?.getD 0
  | j + 1 => RowKit.wrap64 (l[j + 1]?.getD 0 + dsum l j)
def part (l : List Int) (k : Nat) : List Int := (List.range l.length).map (fun j => if j < k then dsum l j else l[j]?.getD 0)
def dsums (l : List Int) : List Int := (List.range l.length).map (dsum l)
theorem part_len (l : List Int) (k : Nat) : (part l k).length = l.length := by simp [part]
theorem part_get (l : List Int) (k j : Nat) (hj : j < l.length) : (part l k)[j]?.getD 0 = if j < k then dsum l j else l[j]?.getD 0 := by
  simp [part, hj]
theorem part_one (l : List Int) : part l 1 = l := by
  apply same_end (part_len l 1)
  intro j hj
  rw [part_len] at hj
  rw [part_get l 1 j hj]
  split
  · obtain rfl : j = 0 := by omega
    rfl
  · rfl
theorem part_all (l : List Int) (k : Nat) (hk : l.length ≤ k) : part l k = dsums l := by
  apply List.map_congr_left
  intro j hj
  rw [if_pos (by have := List.mem_range.1 hj; omega)]
theorem part_next (l : List Int) (k : Nat) (hk : k < l.length) : part l (k + 1) = (part l k).set k (dsum l k) := by
  apply same_end (by simp [part_len])
  intro j hj
  rw [part_len] at hj
  rw [part_get l (k + 1) j hj, List.getElem?_set]
  by_cases h : k = j
  · subst h
    rw [if_pos (by omega), if_pos rfl, if_pos (by rw [part_len]; exact hk)]
    rfl
  · rw [if_neg h, part_get l k j hj]
    by_cases h2 : j < k
    · rw [if_pos h2, if_pos (by omega)]
    · rw [if_neg h2, if_neg (by omega)]
theorem OwnI.stored {w : World} {base g n cap : Nat} {l : List Int} (h : OwnI w base (.slice (some ⟨g, 0, none⟩) n cap) l) (j : Nat) (u : Int) :
    OwnI (w.setCell ⟨g, j, none⟩ (.int .i64 u)) base (.slice (some ⟨g, 0, none⟩) n cap) (l.set j u) ∧ w.grownBy (w.setCell ⟨g, j, none⟩ (.int .i64 u)) (some g) ∧ base ≤ g := by
  have hv := h.at
  obtain ⟨ao, cap', hv, _, _, hl⟩ := hv
  simp only [Value.slice.injEq] at hv
  obtain ⟨h1, rfl, _⟩ := hv
  have := World.ownsRow.stored h j (.int .i64 u)
  refine ⟨?_, this.2, (hl _ h1.symm).1⟩
  unfold OwnI
  rw [List.length_set, show ci (l.set j u) = (ci l).set j (.int .i64 u) by simp [ci, List.map_set]]
  exact this.1
theorem OwnI.frozenAt {w : World} {base g n cap : Nat} {l : List Int} (h : OwnI w base (.slice (some ⟨g, 0, none⟩) n cap) l) (j : Nat) : w.frozen? ⟨g, j, none⟩ = false := by
  obtain ⟨ao, cap', hv, _, _, hl⟩ := h.at
  simp only [Value.slice.injEq] at hv
  obtain ⟨h1, rfl, _⟩ := hv
  exact World.ownsRow.frozenAt h j
theorem after_stored {w W W' : World} {g : Nat} (h : After w W) (hg : W.grownBy W' (some g)) (hb : w.heap.size ≤ g) : After w W' :=
  ⟨hg.os.trans h.os, hg.tape.trans h.tape, hg.output.trans h.output, Nat.le_trans h.size hg.size, fun k hk => (hg.block k (Nat.lt_of_lt_of_le hk h.size) (by simp; omega)).trans (h.block k hk)⟩
theorem rlV_le (bs : List UInt8) (e room least : Nat) : rlV bs e room least ≤ room := by
  unfold rlV
  split
  · exact suV_le bs e room
  · omega
theorem rr_most (most : Nat) : ∀ k bs acc, acc.length ≤ most → (rr most k bs acc).1.length ≤ most
  | 0, bs, acc, h => by simpa [rr] using h
  | k + 1, bs, acc, h => by
    unfold rr
    split
    · split
      · split
        · simp
        · apply rr_most most k
          have := rlV_le bs 0 (most - acc.length) 1
          simp; omega
      · simp
    · simp
theorem rr_int (most : Nat) : ∀ k bs acc, (∀ x ∈ acc, -9223372036854775808 ≤ x ∧ x ≤ 9223372036854775807) → ∀ x ∈ (rr most k bs acc).1, -9223372036854775808 ≤ x ∧ x ≤ 9223372036854775807
  | 0, bs, acc, h => by simpa [rr] using h
  | k + 1, bs, acc, h => by
    unfold rr
    split
    · split
      · split
        · simp
        · apply rr_int most k
          intro x hx
          rcases List.mem_append.1 hx with hx | hx
          · exact h x hx
          · rw [(List.mem_replicate.1 hx).2]
            unfold siV giV giN Leb.wrap64
            split
            · split <;> omega
            · omega
      · simp
    · simp
theorem clampM_le (most : Int) : clampM most ≤ 65536 := by
  unfold clampM
  split
  · omega
  · split <;> omega
theorem readR_most (bs : List UInt8) (most : Nat) : (readR bs most).1.length ≤ most := by
  unfold readR
  split
  · exact rr_most most (suV bs 0 most) (suB bs 0 most) [] (by simp)
  · simp
theorem readR_int (bs : List UInt8) (most : Nat) : ∀ x ∈ (readR bs most).1, -9223372036854775808 ≤ x ∧ x ≤ 9223372036854775807 := by
  unfold readR
  split
  · exact rr_int most (suV bs 0 most) (suB bs 0 most) [] (by simp)
  · simp
theorem getR_most (bs : List UInt8) (most : Int) : (getR bs most).1.length ≤ 65536 := by
  have h := clampM_le most
  have h2 := readR_most bs (clampM most)
  unfold getR
  split
  · show (readR bs (clampM most)).1.length ≤ 65536
    omega
  · simp
theorem getR_int (bs : List UInt8) (most : Int) : ∀ x ∈ (getR bs most).1, -9223372036854775808 ≤ x ∧ x ≤ 9223372036854775807 := by
  unfold getR
  split
  · exact readR_int bs (clampM most)
  · simp
set_option maxRecDepth 100000 in
set_option maxHeartbeats 800000 in
theorem getDeltas_any (ao : Option Addr) (cap : Nat) (bs : List UInt8) (hbig : bs.length ≤ 140737488355328) (most : Int) (hm0 : -9223372036854775808 ≤ most) (hm1 : most ≤ 9223372036854775807) (w : World) (hat : BytesAt w ao bs) :
    Calls Tryz.prog 139 #[.slice ao bs.length cap, .int .i64 most] w fun x w' => GPost w (dsums (getR bs most).1, (getR bs most).2) x w' := by
  have HC := show Hid _ from getRuns_any ao cap bs hbig most hm0 hm1 w hat
  have hn := getR_most bs most
  obtain ⟨G, hG⟩ : ∃ G, getR bs most = G := ⟨_, rfl⟩
  rw [hG] at HC hn ⊢
  obtain ⟨l, u, e⟩ := G
  replace hn : l.length ≤ 65536 := hn
  clear hat hG
  go_enter Tryz.func139, Tryz.ntmps139
  go_wp2_with (go_at_call 136; refine Calls.mono HC.out ?_; rintro x w1 ⟨v, rfl, ho, hb⟩; obtain ⟨a1, c1, rfl, _, hc1, hl1⟩ := OwnI.at ho; have HO := show Hid (OwnI w1 w.heap.size (.slice a1 l.length c1) l) from ho; have HB := show Hid (After w w1) from hb; clear ho hb hl1)
  go_loopw [7] (fun i wr => ∃ k : Nat, 1 ≤ k ∧ k ≤ l.length + 1 ∧ i = .int .i64 k ∧ Hid (OwnI wr w.heap.size (.slice a1 l.length c1) (part l k)) ∧ Hid (After w wr)) (fun i _ => l.length + 1 - (intOf i).toNat)
  case atStart => exact ⟨1, by omega, by omega, rfl, by rw [part_one]; exact HO.out, HB.out⟩
  case round =>
    obtain ⟨k, hk1, hk, rfl, HOr, HBr⟩ := hrel
    by_cases hlt : k < l.length
    · obtain ⟨m, rfl⟩ : ∃ m, k = m + 1 := ⟨k - 1, by omega⟩
      obtain ⟨a', c', hv, hI, _, _⟩ := OwnI.at HOr.out
      simp only [Value.slice.injEq] at hv
      obtain ⟨rfl, -, rfl⟩ := hv
      have hown := HOr.out
      rcases hown.2 with ⟨hv, _⟩ | ⟨g, cap', cur, hv, _⟩
      · simp at hv; omega
      simp only [Value.slice.injEq] at hv
      obtain ⟨rfl, -, rfl⟩ := hv
      have hx := OwnI.cellAt HOr.out (m + 1) (by rw [part_len]; exact hlt)
      have hy := OwnI.cellAt HOr.out m (by rw [part_len]; omega)
      rw [part_get l _ _ hlt, if_neg (by omega)] at hx
      rw [part_get l _ _ (by omega), if_pos (by omega)] at hy
      have hfz := OwnI.frozenAt hown (m + 1)
      obtain ⟨x, HX⟩ : ∃ x : Int, Hid (x = l[m + 1]?.getD 0) := ⟨_, rfl⟩
      obtain ⟨y, HY⟩ : ∃ y : Int, Hid (y = dsum l m) := ⟨_, rfl⟩
      rw [← HX.out] at hx
      rw [← HY.out] at hy
      simp only [Nat.zero_add] at hx hy
      clear hI hown
      go_wp2
      go_region
      go_wp2
      go_roundw
      case rel =>
        have hst := OwnI.stored HOr.out (m + 1) (RowKit.wrap64 (x + y))
        refine ⟨m + 1 + 1, by omega, by omega, by go_num, ?_, After.drew (after_stored HBr.out hst.2.1 hst.2.2)⟩
        rw [part_next l (m + 1) hlt, show dsum l (m + 1) = RowKit.wrap64 (x + y) by rw [HX.out, HY.out]; rfl]
        exact World.ownsRow.drew hst.1
      case measure => simp [intOf]; omega
    · go_wp2
      go_ret3
      exact ⟨_, rfl, by rw [← part_all l k (by omega)]; exact HOr.out, HBr.out⟩
end Go.Proofs.YtgmdolpjkaajfaaGreatDoor
namespace Go.Proofs.YtgmdolpjkaajfaaGreatDoor
open Go.RowKit Leb
def fin (n : Nat) (R : List Int × List UInt8 × Nat) : List Int × Nat × Nat := if R.2.2 = 0 then (R.1, n - R.2.1.length, 0) else ([], 0, R.2.2)
theorem getR_fin (bs : List UInt8) (most : Int) : getR bs most = fin bs.length (readR bs (clampM most)) := rfl
theorem ruE_e {b : List UInt8} {m e : Nat} (h : guE b = e) (he : ¬ e = 0) : ruE b m = e := by unfold ruE; rw [h, if_neg he]
theorem ruE_5 {b : List UInt8} {m v : Nat} (h : guE b = 0) (hv : guV b = v) (hm : m < v) : ruE b m = 5 := by unfold ruE; rw [if_pos h, hv, if_pos hm]
theorem ruE_0 {b : List UInt8} {m v : Nat} (h : guE b = 0) (hv : guV b = v) (hm : v ≤ m) : ruE b m = 0 ∧ ruV b m = v ∧ ruK b m = guK b := by
  have h1 : ruE b m = 0 := by unfold ruE; rw [if_pos h, hv, if_neg (by omega)]
  exact ⟨h1, by unfold ruV; rw [if_pos h1, hv], by unfold ruK; rw [if_pos h1]⟩
theorem getR_e {bs : List UInt8} {most : Int} {e : Nat} (h : guE bs = e) (he : ¬ e = 0) : getR bs most = ([], 0, e) := by
  have h1 : suE bs 0 (clampM most) = e := ruE_e h he
  rw [getR_fin]
  unfold readR
  rw [h1, if_neg he]
  unfold fin
  exact if_neg he
theorem getR_5 {bs : List UInt8} {most : Int} {v : Nat} (h : guE bs = 0) (hv : guV bs = v) (hm : clampM most < v) : getR bs most = ([], 0, 5) := by
  have h1 : suE bs 0 (clampM most) = 5 := ruE_5 h hv hm
  rw [getR_fin]
  unfold readR
  rw [h1]
  rfl
theorem getR_0 {bs : List UInt8} {most : Int} {v k : Nat} (h : guE bs = 0) (hv : guV bs = v) (hk : guK bs = k) (hm : v ≤ clampM most) : getR bs most = fin bs.length (rr (clampM most) v (bs.drop k) []) := by
  obtain ⟨h1, h2, h3⟩ := ruE_0 h hv hm
  have g1 : suE bs 0 (clampM most) = 0 := h1
  have g2 : suV bs 0 (clampM most) = v := h2
  have g3 : suB bs 0 (clampM most) = bs.drop k := by show bs.drop (ruK bs (clampM most)) = _; rw [h3, hk]
  rw [getR_fin]
  unfold readR
  rw [if_pos g1, g2, g3]
theorem fin_e {n M k e : Nat} {b : List UInt8} {acc : List Int} (h : guE b = e) (he : ¬ e = 0) : fin n (rr M (k + 1) b acc) = ([], 0, e) := by
  have h1 : suE b 0 (M - acc.length) = e := ruE_e h he
  have h2 : rlE b 0 (M - acc.length) 1 = e := by unfold rlE; rw [h1, if_neg he]
  unfold rr
  rw [h2, if_neg he]
  exact if_neg he
theorem fin_4 {n M k : Nat} {b : List UInt8} {acc : List Int} (h : guE b = 0) (hv : guV b = 0) : fin n (rr M (k + 1) b acc) = ([], 0, 4) := by
  obtain ⟨h1, h2, _⟩ := ruE_0 (m := M - acc.length) h hv (by omega)
  have g1 : suE b 0 (M - acc.length) = 0 := h1
  have g2 : suV b 0 (M - acc.length) = 0 := h2
  have g3 : rlE b 0 (M - acc.length) 1 = 4 := by unfold rlE; rw [if_pos g1, g2]; rfl
  unfold rr
  rw [g3]
  rfl
theorem fin_5 {n M k v : Nat} {b : List UInt8} {acc : List Int} (h : guE b = 0) (hv : guV b = v) (hm : M - acc.length < v) : fin n (rr M (k + 1) b acc) = ([], 0, 5) := by
  have g1 : suE b 0 (M - acc.length) = 5 := ruE_5 h hv hm
  have g3 : rlE b 0 (M - acc.length) 1 = 5 := by unfold rlE; rw [g1]; rfl
  unfold rr
  rw [g3]
  rfl
theorem rr_step {M k v K : Nat} {b b2 : List UInt8} {acc : List Int} (h : guE b = 0) (hv : guV b = v) (hK : guK b = K) (hb2 : b.drop K = b2) (h1 : 1 ≤ v) (hm : v ≤ M - acc.length) :
    rr M (k + 1) b acc = if giE b2 = 0 then (if acc ≠ [] ∧ giV b2 = acc[acc.length - 1]?.getD 0 then ([], siB b2 0, 4) else rr M k (b2.drop (giK b2)) (acc ++ List.replicate v (giV b2))) else ([], siB b2 0, giE b2) := by
  obtain ⟨h1', h2, h3⟩ := ruE_0 h hv hm
  have g1 : suE b 0 (M - acc.length) = 0 := h1'
  have g2 : suV b 0 (M - acc.length) = v := h2
  have g3 : rlE b 0 (M - acc.length) 1 = 0 := by unfold rlE; rw [if_pos g1, g2, if_neg (by omega)]
  have g4 : rlV b 0 (M - acc.length) 1 = v := by unfold rlV; rw [if_pos g3, g2]
  have g5 : suB b 0 (M - acc.length) = b2 := by show b.drop (ruK b (M - acc.length)) = _; rw [h3, hK, hb2]
  rw [rr, if_pos g3, g4, g5]
  rfl
theorem fin_ie {n M k v K e : Nat} {b b2 : List UInt8} {acc : List Int} (h : guE b = 0) (hv : guV b = v) (hK : guK b = K) (hb2 : b.drop K = b2) (h1 : 1 ≤ v) (hm : v ≤ M - acc.length) (hi : giE b2 = e) (he : ¬ e = 0) : fin n (rr M (k + 1) b acc) = ([], 0, e) := by
  rw [rr_step h hv hK hb2 h1 hm, hi, if_neg he]
  exact if_neg he
theorem fin_same {n M k v K : Nat} {b b2 : List UInt8} {acc : List Int} (h : guE b = 0) (hv : guV b = v) (hK : guK b = K) (hb2 : b.drop K = b2) (h1 : 1 ≤ v) (hm : v ≤ M - acc.length) (hi : giE b2 = 0) (hs : acc ≠ [] ∧ giV b2 = acc[acc.length - 1]?.getD 0) : fin n (rr M (k + 1) b acc) = ([], 0, 4) := by
  rw [rr_step h hv hK hb2 h1 hm, if_pos hi, if_pos hs]
  rfl
theorem fin_next {n M k v K J : Nat} {x : Int} {b b2 : List UInt8} {acc : List Int} (h : guE b = 0) (hv : guV b = v) (hK : guK b = K) (hb2 : b.drop K = b2) (h1 : 1 ≤ v) (hm : v ≤ M - acc.length) (hi : giE b2 = 0) (hx : giV b2 = x) (hJ : giK b2 = J) (hs : ¬ (acc ≠ [] ∧ x = acc[acc.length - 1]?.getD 0)) : fin n (rr M (k + 1) b acc) = fin n (rr M k (b2.drop J) (acc ++ List.replicate v x)) := by
  rw [rr_step h hv hK hb2 h1 hm, if_pos hi, hx, if_neg hs, hJ]
set_option maxHeartbeats 400000 in
theorem bounded_any (most : Int) (M : Nat) (hM : clampM most = M) (hm0 : -9223372036854775808 ≤ most) (hm1 : most ≤ 9223372036854775807) (w : World) :
    Calls Tryz.prog 120 #[.int .i64 most] w fun e w' => e = .returned (.int .i64 (M : Int)) ∧ w' = w := by
  have hcl : most < 0 ∧ M = 0 ∨ 65536 < most ∧ M = 65536 ∨ 0 ≤ most ∧ most ≤ 65536 ∧ most = (M : Int) := by
    unfold clampM at hM
    split at hM
    · exact .inl ⟨by assumption, hM.symm⟩
    · split at hM
      · exact .inr (.inl ⟨by assumption, hM.symm⟩)
      · exact .inr (.inr ⟨by omega, by omega, by omega⟩)
  clear hM
  rcases hcl with ⟨hc1, rfl⟩ | ⟨hc1, rfl⟩ | ⟨hc1, hc2, rfl⟩
  all_goals
    go_enter Tryz.func120, Tryz.ntmps120
    go_wp2
    all_goals
      go_ret
      first
        | exact ⟨rfl, rfl⟩
        | (exfalso; omega)
        | (obtain rfl : M = 0 := by omega
           exact ⟨rfl, rfl⟩)
end Go.Proofs.YtgmdolpjkaajfaaGreatDoor
namespace Go.Proofs.YtgmdolpjkaajfaaGreatDoor
open Go.RowKit Leb
set_option maxRecDepth 100000 in
set_option maxHeartbeats 3200000 in
theorem refRuns_any (ao : Option Addr) (cap : Nat) (bs : List UInt8) (hcap : bs.length ≤ cap) (hz : ao = none → bs.length = 0) (hbig : bs.length ≤ 140737488355328) (most : Int) (hm0 : -9223372036854775808 ≤ most) (hm1 : most ≤ 9223372036854775807) (w : World) (hat : BytesAt w ao bs) :
    Calls Tryz.prog 84 #[.slice ao bs.length cap, .int .i64 most] w fun x w' => GPost w (getR bs most) x w' := by
  obtain ⟨M, hM⟩ : ∃ M, clampM most = M := ⟨_, rfl⟩
  have hM5 : M ≤ 65536 := by rw [← hM]; exact clampM_le most
  have C37 : Hid (∀ W, Calls Tryz.prog 120 #[.int .i64 most] W fun e w' => e = .returned (.int .i64 (M : Int)) ∧ w' = W) := fun W => bounded_any most M hM hm0 hm1 W
  have C38 : Hid (∀ W, After w W → ∀ p, p ≤ bs.length → Calls Tryz.prog 83 #[.slice (cutAt ao p cap) (bs.length - p) (cap - p)] W fun e w' => e = .returned (.tuple #[.int .u64 (guV (bs.drop p) : Int), .int .i64 (guK (bs.drop p) : Int), .int .i64 (guE (bs.drop p) : Int)]) ∧ Below W.heap.size W w') := fun W hW p hp => by
    have := rgetUint_any (cutAt ao p cap) (cap - p) (bs.drop p) (by simp; omega) W ((hat.cut p cap hcap).after hW)
    rwa [List.length_drop] at this
  have C39 : Hid (∀ W, After w W → ∀ p, p ≤ bs.length → Calls Tryz.prog 121 #[.slice (cutAt ao p cap) (bs.length - p) (cap - p)] W fun e w' => e = .returned (.tuple #[.int .i64 (giV (bs.drop p)), .int .i64 (giK (bs.drop p) : Int), .int .i64 (giE (bs.drop p) : Int)]) ∧ Below W.heap.size W w') := fun W hW p hp => by
    have := rgetInt_any (cutAt ao p cap) (cap - p) (bs.drop p) (by simp; omega) W ((hat.cut p cap hcap).after hW)
    rwa [List.length_drop] at this
  have SL : Hid (∀ (W : World) (p : Nat), p ≤ bs.length → (Instr.sliceAt 32 (.slice ao bs.length cap) (some (.int .i64 (p : Int))) none none).run Tryz.prog W = .ok (.slice (cutAt ao p cap) (bs.length - p) (cap - p)) W) := fun W p hp => slice_from ao bs.length cap p hz hcap hp W
  have C38a := show Hid _ from rgetUint_any ao cap bs hcap w hat
  obtain ⟨N, hN⟩ : ∃ v, guV bs = v := ⟨_, rfl⟩
  obtain ⟨K0, hK0⟩ : ∃ v, guK bs = v := ⟨_, rfl⟩
  obtain ⟨E0, hE0⟩ : ∃ v, guE bs = v := ⟨_, rfl⟩
  have hK0l : K0 ≤ bs.length := by rw [← hK0]; exact guK_le bs
  rw [hN, hK0, hE0] at C38a
  by_cases h0 : E0 = 0
  · subst h0
    by_cases hNM : M < N
    · rw [getR_5 hE0 hN (by rw [hM]; exact hNM)]
      clear hM hN hK0 hE0 hat hz
      go_enter Tryz.func84, Tryz.ntmps84
      go_wp2_with (first
        | (go_at_call 120; refine (C37.out _).mono ?_; rintro x w2 ⟨rfl, hw2⟩; have hw3 := hw2.symm; clear hw2; subst hw3)
        | (go_at_call 83; refine Calls.mono C38a.out ?_; rintro x w1 ⟨rfl, hb1⟩))
      go_ret3
      exact ⟨_, rfl, OwnI.nil _ _, hb1⟩
    · have HG : Hid (fin bs.length (rr M N (bs.drop K0) []) = getR bs most) := by unfold Hid; rw [getR_0 (most := most) hE0 hN hK0 (by rw [hM]; omega), hM]
      obtain ⟨G, hG⟩ : ∃ G, getR bs most = G := ⟨_, rfl⟩
      rw [hG] at HG ⊢
      clear hM hN hK0 hE0 hat hz hG
      go_enter Tryz.func84, Tryz.ntmps84
      go_wp2_with (first
        | (go_at_call 120; refine (C37.out _).mono ?_; rintro x w2 ⟨rfl, hw2⟩; have hw3 := hw2.symm; clear hw2; subst hw3)
        | (go_at_call 83; refine Calls.mono C38a.out ?_; rintro x w1 ⟨rfl, hb1⟩; have HB1 : Hid (After w w1) := hb1; clear hb1))
      go_loopw [8, 10, 11] (fun at' v i wr => ∃ (k p : Nat) (acc : List Int), k ≤ N ∧ p ≤ bs.length ∧ i = .int .u64 k ∧ at' = .int .i64 p ∧ Hid (OwnI wr w.heap.size v acc) ∧ acc.length ≤ M ∧ Hid (After w wr) ∧ Hid (fin bs.length (rr M (N - k) (bs.drop p) acc) = G)) (fun _ _ i _ => N - (intOf i).toNat)
      case atStart => exact ⟨0, K0, [], by omega, hK0l, rfl, rfl, OwnI.nil _ _, by simp, HB1.out, HG.out⟩
      case round =>
        obtain ⟨k, p, acc, hk, hpl, rfl, rfl, HO, hacc, HB, HSP⟩ := hrel
        by_cases hkN : k < N
        · obtain ⟨va, vc, rfl, hint, hvc, hvl⟩ := OwnI.at HO.out
          have HKN : Hid (k + 1 ≤ N) := hkN
          obtain ⟨room, hroom⟩ : ∃ r, M - acc.length = r := ⟨_, rfl⟩
          rw [show N - k = (N - (k + 1)) + 1 by omega] at HSP
          have hroomI : (M : Int) - (acc.length : Int) = (room : Int) := by omega
          have HACC : Hid (acc.length + room = M) := by unfold Hid; omega
          have C38r := show Hid _ from C38.out wr HB.out p hpl
          have hsl1 := SL.out wr p hpl
          obtain ⟨b, hb⟩ : ∃ b, bs.drop p = b := ⟨_, rfl⟩
          rw [hb] at HSP C38r
          obtain ⟨V, hV⟩ : ∃ v, guV b = v := ⟨_, rfl⟩
          obtain ⟨K, hK⟩ : ∃ v, guK b = v := ⟨_, rfl⟩
          obtain ⟨E, hE⟩ : ∃ v, guE b = v := ⟨_, rfl⟩
          have hKl : p + K ≤ bs.length := by have := guK_le b; rw [hK, ← hb, List.length_drop] at this; omega
          rw [hV, hK, hE] at C38r
          obtain ⟨q, hq⟩ : ∃ q, p + K = q := ⟨_, rfl⟩
          have hqI : (p : Int) + (K : Int) = (q : Int) := by omega
          have hql : q ≤ bs.length := by omega
          have hb2 : b.drop K = bs.drop q := by rw [← hb, List.drop_drop, hq]
          by_cases hE0 : E = 0
          · subst hE0
            by_cases hV0 : V = 0
            · subst hV0
              have HE : Hid (G = ([], 0, 4)) := HSP.out.symm.trans (fin_4 hE hV)
              clear HSP
              go_wp2_with (first
                | (go_at_call 83; refine Calls.mono C38r.out ?_; rintro x w2 ⟨rfl, hb2⟩; have HB2 : Hid (After w w2) := HB.out.trans hb2; have HB12 : Hid (After wr w2) := hb2; clear hb2 hsl1))
              go_ret3
              rw [HE.out]
              exact ⟨_, rfl, OwnI.nil _ _, HB2.out⟩
            · by_cases hVr : room < V
              · have HE : Hid (G = ([], 0, 5)) := HSP.out.symm.trans (fin_5 hE hV (by omega))
                clear HSP
                go_wp2_with (first
                  | (go_at_call 83; refine Calls.mono C38r.out ?_; rintro x w2 ⟨rfl, hb2⟩; have HB2 : Hid (After w w2) := HB.out.trans hb2; have HB12 : Hid (After wr w2) := hb2; clear hb2 hsl1))
                go_ret3
                rw [HE.out]
                exact ⟨_, rfl, OwnI.nil _ _, HB2.out⟩
              · obtain ⟨n, hn⟩ : ∃ v, giV (bs.drop q) = v := ⟨_, rfl⟩
                obtain ⟨J, hJ⟩ : ∃ v, giK (bs.drop q) = v := ⟨_, rfl⟩
                obtain ⟨F, hF⟩ : ∃ v, giE (bs.drop q) = v := ⟨_, rfl⟩
                have C39r := show Hid (∀ W, After w W → _) from fun W hW => C39.out W hW q hql
                simp only [hn, hJ, hF] at C39r
                have hJl : q + J ≤ bs.length := by have := giK_le (bs.drop q); rw [hJ, List.length_drop] at this; omega
                obtain ⟨r, hr⟩ : ∃ r, q + J = r := ⟨_, rfl⟩
                have hrI : (q : Int) + (J : Int) = (r : Int) := by omega
                have hrl : r ≤ bs.length := by omega
                by_cases hF0 : F = 0
                · subst hF0
                  by_cases hae : acc = []
                  · subst hae
                    have hrm : room = M := by have := HACC.out; simpa using this
                    subst hrm
                    have HSP2 : Hid (fin bs.length (rr room (N - (k + 1)) (bs.drop r) ([] ++ List.replicate V n)) = G) := by
                      have := fin_next (n := bs.length) (k := N - (k + 1)) hE hV hK hb2 (by omega) (by simpa using hVr) hF hn hJ (acc := []) (by simp)
                      rw [List.drop_drop, hr] at this
                      exact this.symm.trans HSP.out
                    clear HSP hroomI hint hvl hacc
                    have HACL : Hid (V ≤ room) := by unfold Hid; omega
                    go_wp2_with (first
                      | (go_at_call 83; refine Calls.mono C38r.out ?_; rintro x w2 ⟨rfl, hb2⟩; have HB2 : Hid (After w w2) := HB.out.trans hb2; have HB12 : Hid (After wr w2) := hb2; have hsl2 := SL.out w2 q hql; clear hb2 hsl1)
                      | (go_at_call 121; refine Calls.mono (C39r.out w2 HB2.out) ?_; rintro x w3 ⟨rfl, hb3⟩; have HB3 : Hid (After w w3) := HB2.out.trans hb3; have HB13 : Hid (After wr w3) := HB12.out.trans hb3; clear hb3 hsl2))
                    have HO3 : Hid (OwnI w3 w.heap.size (.slice va 0 vc) []) := OwnI.keep HO.out (fun j hj => HB13.out.block j (World.ownsRow.lt HO.out j hj).2)
                    go_loopw [10, 17] (fun v c wq => ∃ (j : Nat), j ≤ V ∧ c = .int .u64 j ∧ Hid (OwnI wq w.heap.size v (([] : List Int) ++ List.replicate j n)) ∧ Hid (After w wq)) (fun _ c _ => V - (intOf c).toNat)
                    case atStart => exact ⟨0, by omega, rfl, by rw [List.replicate_zero, List.append_nil]; exact HO3.out, HB3.out⟩
                    case round =>
                      obtain ⟨j, hj, rfl, HOq, HBq⟩ := hrel
                      by_cases hjV : j < V
                      · have HRO : Hid (([] : List Int).length + j + 1 ≤ 65536) := by have := HACC.out; have := HACL.out; unfold Hid; omega
                        go_wp2_with (at_builtin; refine wpList_append_ints rfl _ _ rfl w.heap.size _ (([] : List Int) ++ List.replicate j n) rfl (OwnI.keep HOq.out (fun i hi => (after_alloc (After.refl _) _).block i (World.ownsRow.lt HOq.out i hi).2)) ⟨wr.heap.size, 0, none⟩ 1 [n] 1 rfl rfl (fun i hi => by obtain rfl : i = 0 := (by simp at hi; omega); exact box_cell _ _ _) (by have := HRO.out; simp; omega) (by have := HBq.out.size; simp; omega) ?_; intro v6 w6 ho6 hg6; have HO6 : Hid (OwnI w6 w.heap.size v6 (([] : List Int) ++ List.replicate (j + 1) n)) := (by unfold Hid; rw [List.replicate_succ', ← List.append_assoc]; exact ho6); have HB6 : Hid (After w w6) := after_grown (after_alloc HBq.out _) hg6 (Nat.le_refl _) (fun k hk => (World.ownsRow.lt HOq.out k hk).1); clear ho6 hg6)
                        go_roundw
                        case rel => exact ⟨j + 1, by omega, by go_num, HO6.out, HB6.out⟩
                        case measure => simp [intOf]; omega
                      · obtain rfl : j = V := by omega
                        go_wp2
                        go_roundw
                        case rel => exact ⟨k + 1, r, _, HKN.out, hrl, by go_num, rfl, HOq.out, by have := HACC.out; have := HACL.out; simp; omega, HBq.out, HSP2.out⟩
                        case measure => have := HKN.out; simp [intOf]; omega
                  · obtain ⟨ql, hql'⟩ : ∃ ql, acc.length = ql + 1 := ⟨acc.length - 1, by have := List.length_pos_iff.2 hae; omega⟩
                    obtain ⟨lb, lo, rfl, hcells⟩ := hint hae
                    obtain ⟨y, hy⟩ : ∃ y, acc[acc.length - 1]?.getD 0 = y := ⟨_, rfl⟩
                    have HY : Hid (wr.cell? ⟨lb, lo + ql, none⟩ = some (.int .i64 y)) := by
                      have := hcells (acc.length - 1) (by omega)
                      rw [hy, show acc.length - 1 = ql by omega] at this
                      exact this
                    have HACL : Hid (V ≤ room) := by unfold Hid; omega
                    by_cases hny : n = y
                    · have hs : acc ≠ [] ∧ giV (bs.drop q) = acc[acc.length - 1]?.getD 0 := ⟨hae, by rw [hn, hy]; exact hny⟩
                      have HE : Hid (G = ([], 0, 4)) := HSP.out.symm.trans (fin_same hE hV hK hb2 (by omega) (by omega) hF hs)
                      rw [hql'] at hroomI ⊢
                      clear HSP hs hcells hae hy hint hvl hvc
                      subst hny
                      go_wp2_with (first
                        | (go_at_call 83; refine Calls.mono C38r.out ?_; rintro x w2 ⟨rfl, hb2⟩; have HB2 : Hid (After w w2) := HB.out.trans hb2; have HB12 : Hid (After wr w2) := hb2; have hsl2 := SL.out w2 q hql; clear hb2 hsl1)
                        | (go_at_call 121; refine Calls.mono (C39r.out w2 HB2.out) ?_; rintro x w3 ⟨rfl, hb3⟩; have HB3 : Hid (After w w3) := HB2.out.trans hb3; have HB13 : Hid (After wr w3) := HB12.out.trans hb3; have hy3 := (Below.cell HB13.out (p := ⟨lb, lo + ql, none⟩) (block_lt_of_cell HY.out)).trans HY.out; clear hb3 hsl2))
                      go_ret3
                      rw [HE.out]
                      exact ⟨_, rfl, OwnI.nil _ _, HB3.out⟩
                    · have HSP2 : Hid (fin bs.length (rr M (N - (k + 1)) (bs.drop r) (acc ++ List.replicate V n)) = G) := by
                        have := fin_next (n := bs.length) (k := N - (k + 1)) hE hV hK hb2 (by omega) (show V ≤ M - acc.length by omega) hF hn hJ (fun h => hny (by rw [← hy]; exact h.2))
                        rw [List.drop_drop, hr] at this
                        exact this.symm.trans HSP.out
                      have HO' : Hid (OwnI wr w.heap.size (.slice (some ⟨lb, lo, none⟩) (ql + 1) vc) acc) := by have := HO.out; rw [hql'] at this; exact this
                      have HQL : Hid (acc.length = ql + 1) := hql'
                      rw [hql'] at hroomI ⊢
                      clear HSP hcells hae hy hint hvl hvc hql' HO hacc hroom
                      have hynb : (y == n) = false := by simpa using fun h : y = n => hny h.symm
                      go_wp2_with (first
                        | (go_at_call 83; refine Calls.mono C38r.out ?_; rintro x w2 ⟨rfl, hb2⟩; have HB2 : Hid (After w w2) := HB.out.trans hb2; have HB12 : Hid (After wr w2) := hb2; have hsl2 := SL.out w2 q hql; clear hb2 hsl1)
                        | (go_at_call 121; refine Calls.mono (C39r.out w2 HB2.out) ?_; rintro x w3 ⟨rfl, hb3⟩; have HB3 : Hid (After w w3) := HB2.out.trans hb3; have HB13 : Hid (After wr w3) := HB12.out.trans hb3; have hy3 := (Below.cell HB13.out (p := ⟨lb, lo + ql, none⟩) (block_lt_of_cell HY.out)).trans HY.out; clear hb3 hsl2))
                      have HO3 : Hid (OwnI w3 w.heap.size (.slice (some ⟨lb, lo, none⟩) (ql + 1) vc) acc) := OwnI.keep HO'.out (fun j hj => HB13.out.block j (World.ownsRow.lt HO'.out j hj).2)
                      go_loopw [10, 17] (fun v c wq => ∃ (j : Nat), j ≤ V ∧ c = .int .u64 j ∧ Hid (OwnI wq w.heap.size v (acc ++ List.replicate j n)) ∧ Hid (After w wq)) (fun _ c _ => V - (intOf c).toNat)
                      case atStart => exact ⟨0, by omega, rfl, by rw [List.replicate_zero, List.append_nil]; exact HO3.out, HB3.out⟩
                      case round =>
                        obtain ⟨j, hj, rfl, HOq, HBq⟩ := hrel
                        by_cases hjV : j < V
                        · have HRO : Hid (acc.length + j + 1 ≤ 65536) := by have := HACC.out; have := HACL.out; unfold Hid; omega
                          go_wp2_with (at_builtin; refine wpList_append_ints rfl _ _ rfl w.heap.size _ (acc ++ List.replicate j n) rfl (OwnI.keep HOq.out (fun i hi => (after_alloc (After.refl _) _).block i (World.ownsRow.lt HOq.out i hi).2)) ⟨wr.heap.size, 0, none⟩ 1 [n] 1 rfl rfl (fun i hi => by obtain rfl : i = 0 := (by simp at hi; omega); exact box_cell _ _ _) (by have := HRO.out; simp; omega) (by have := HBq.out.size; simp; omega) ?_; intro v6 w6 ho6 hg6; have HO6 : Hid (OwnI w6 w.heap.size v6 (acc ++ List.replicate (j + 1) n)) := (by unfold Hid; rw [List.replicate_succ', ← List.append_assoc]; exact ho6); have HB6 : Hid (After w w6) := after_grown (after_alloc HBq.out _) hg6 (Nat.le_refl _) (fun k hk => (World.ownsRow.lt HOq.out k hk).1); clear ho6 hg6)
                          go_roundw
                          case rel => exact ⟨j + 1, by omega, by go_num, HO6.out, HB6.out⟩
                          case measure => simp [intOf]; omega
                        · obtain rfl : j = V := by omega
                          go_wp2
                          go_roundw
                          case rel => exact ⟨k + 1, r, _, HKN.out, hrl, by go_num, rfl, HOq.out, by have := HACC.out; have := HACL.out; simp; omega, HBq.out, HSP2.out⟩
                          case measure => have := HKN.out; simp [intOf]; omega
                · have HE : Hid (G = ([], 0, F)) := HSP.out.symm.trans (fin_ie hE hV hK hb2 (by omega) (by omega) hF hF0)
                  clear HSP
                  go_wp2_with (first
                    | (go_at_call 83; refine Calls.mono C38r.out ?_; rintro x w2 ⟨rfl, hb2⟩; have HB2 : Hid (After w w2) := HB.out.trans hb2; have HB12 : Hid (After wr w2) := hb2; have hsl2 := SL.out w2 q hql; clear hb2 hsl1)
                    | (go_at_call 121; refine Calls.mono (C39r.out w2 HB2.out) ?_; rintro x w3 ⟨rfl, hb3⟩; have HB3 : Hid (After w w3) := HB2.out.trans hb3; have HB13 : Hid (After wr w3) := HB12.out.trans hb3; clear hb3 hsl2))
                  go_ret3
                  rw [HE.out]
                  exact ⟨_, rfl, OwnI.nil _ _, HB3.out⟩
          · have HE : Hid (G = ([], 0, E)) := HSP.out.symm.trans (fin_e hE hE0)
            clear HSP
            go_wp2_with (first
              | (go_at_call 83; refine Calls.mono C38r.out ?_; rintro x w2 ⟨rfl, hb2⟩; have HB2 : Hid (After w w2) := HB.out.trans hb2; have HB12 : Hid (After wr w2) := hb2; clear hb2 hsl1))
            go_ret3
            rw [HE.out]
            exact ⟨_, rfl, OwnI.nil _ _, HB2.out⟩
        · obtain rfl : k = N := by omega
          have HE : Hid (G = (acc, p, 0)) := by
            have := HSP.out
            rw [Nat.sub_self] at this
            rw [show rr M 0 (bs.drop p) acc = (acc, bs.drop p, 0) from rfl] at this
            refine this.symm.trans ?_
            show (acc, bs.length - (bs.drop p).length, 0) = _
            rw [List.length_drop, show bs.length - (bs.length - p) = p by omega]
          clear HSP
          go_wp2
          go_ret3
          rw [HE.out]
          exact ⟨_, rfl, HO.out, HB.out⟩
  · rw [getR_e hE0 h0]
    clear hM hN hK0 hE0 hat hz
    go_enter Tryz.func84, Tryz.ntmps84
    go_wp2_with (first
      | (go_at_call 120; refine (C37.out _).mono ?_; rintro x w2 ⟨rfl, hw2⟩; have hw3 := hw2.symm; clear hw2; subst hw3)
      | (go_at_call 83; refine Calls.mono C38a.out ?_; rintro x w1 ⟨rfl, hb1⟩))
    go_ret3
    exact ⟨_, rfl, OwnI.nil _ _, hb1⟩
end Go.Proofs.YtgmdolpjkaajfaaGreatDoor
namespace Go.Proofs.YtgmdolpjkaajfaaGreatDoor
open Go.RowKit Leb
def lastOf (l : List Int) : Nat → Int
  | 0 => 0
  | k + 1 => dsum l k
theorem last_next (l : List Int) (hl : ∀ x ∈ l, -9223372036854775808 ≤ x ∧ x ≤ 9223372036854775807) (k : Nat) (hk : k < l.length) : RowKit.wrap64 (lastOf l k + l[k]?.getD 0) = dsum l k := by
  cases k with
  | zero =>
    have := hl (l[0]'hk) (List.getElem_mem hk)
    show RowKit.wrap64 (0 + l[0]?.getD 0) = l[0]?.getD 0
    rw [List.getElem?_eq_getElem hk, Option.getD_some]
    unfold RowKit.wrap64
    omega
  | succ m =>
    show RowKit.wrap64 (dsum l m + l[m + 1]?.getD 0) = RowKit.wrap64 (l[m + 1]?.getD 0 + dsum l m)
    rw [Int.add_comm]
theorem dsums_take (l : List Int) (k : Nat) (hk : k < l.length) : (dsums l).take (k + 1) = (dsums l).take k ++ [dsum l k] := by
  have h : (dsums l)[k]? = some (dsum l k) := by simp [dsums, hk]
  rw [List.take_add_one, h]
  rfl
theorem dsums_all (l : List Int) (k : Nat) (hk : l.length ≤ k) : (dsums l).take k = dsums l := List.take_of_length_le (by simp [dsums]; exact hk)
set_option maxRecDepth 100000 in
set_option maxHeartbeats 800000 in
theorem refDeltas_any (ao : Option Addr) (cap : Nat) (bs : List UInt8) (hcap : bs.length ≤ cap) (hz : ao = none → bs.length = 0) (hbig : bs.length ≤ 140737488355328) (most : Int) (hm0 : -9223372036854775808 ≤ most) (hm1 : most ≤ 9223372036854775807) (w : World) (hat : BytesAt w ao bs) :
    Calls Tryz.prog 86 #[.slice ao bs.length cap, .int .i64 most] w fun x w' => GPost w (dsums (getR bs most).1, (getR bs most).2) x w' := by
  have HC := show Hid _ from refRuns_any ao cap bs hcap hz hbig most hm0 hm1 w hat
  have hn := getR_most bs most
  have hl := getR_int bs most
  obtain ⟨G, hG⟩ : ∃ G, getR bs most = G := ⟨_, rfl⟩
  rw [hG] at HC hn hl ⊢
  obtain ⟨l, u, e⟩ := G
  replace hn : l.length ≤ 65536 := hn
  have HL : Hid (∀ x ∈ l, -9223372036854775808 ≤ x ∧ x ≤ 9223372036854775807) := hl
  clear hat hG hz hl
  go_enter Tryz.func86, Tryz.ntmps86
  go_wp2_with (go_at_call 84; refine Calls.mono HC.out ?_; rintro x w1 ⟨v, rfl, ho, hb⟩; obtain ⟨a1, c1, rfl, hI, hc1, hl1⟩ := OwnI.at ho; have HI := show Hid (IntsAt w1 a1 l) from hI; have HB := show Hid (After w w1) from hb; clear ho hb hl1 hI)
  go_loopw [10, 11, 12] (fun v t i wr => ∃ (k : Nat) (a : Int), k ≤ l.length ∧ i = .int .i64 k ∧ t = .int .i64 a ∧ Hid (a = lastOf l k) ∧ Hid (OwnI wr w1.heap.size v ((dsums l).take k)) ∧ Hid (After w1 wr)) (fun _ _ i _ => l.length - (intOf i).toNat)
  case atStart => exact ⟨0, 0, by omega, rfl, rfl, rfl, OwnI.nil _ _, After.refl _⟩
  case round =>
    obtain ⟨k, a, hk, rfl, rfl, HA, HO, HBr⟩ := hrel
    by_cases hlt : k < l.length
    · obtain ⟨b, o, rfl, hc⟩ := HI.out (by intro h; simp [h] at hlt)
      have hck := hc k hlt
      obtain ⟨x, HX, hx⟩ : ∃ x : Int, Hid (x = l[k]?.getD 0) ∧ wr.cell? ⟨b, o + k, none⟩ = some (.int .i64 x) := ⟨_, rfl, by rw [Below.cell HBr.out (p := ⟨b, o + k, none⟩) (block_lt_of_cell hck)]; exact hck⟩
      clear hc hck
      have HZ : Hid (RowKit.wrap64 (a + x) = dsum l k) := by unfold Hid; rw [HA.out, HX.out]; exact last_next l HL.out k hlt
      have HLN : Hid (((dsums l).take k).length ≤ 65536) := by unfold Hid; rw [List.length_take]; omega
      go_wp2_with (at_builtin; refine wpList_append_ints rfl _ _ rfl w1.heap.size _ ((dsums l).take k) rfl (OwnI.keep HO.out (fun i hi => (after_alloc (After.refl _) _).block i (World.ownsRow.lt HO.out i hi).2)) ⟨wr.heap.size, 0, none⟩ 1 [RowKit.wrap64 (a + x)] 1 rfl rfl (fun i hi => by obtain rfl : i = 0 := (by simp at hi; omega); exact box_cell _ _ _) (by have := HLN.out; simp only [List.length_cons, List.length_nil]; omega) (by have := HBr.out.size; simp; omega) ?_; intro v6 w6 ho6 hg6; have HO6 : Hid (OwnI w6 w1.heap.size v6 ((dsums l).take (k + 1))) := (by unfold Hid; rw [dsums_take l k hlt, ← HZ.out]; exact ho6); have HB6 : Hid (After w1 w6) := after_grown (after_alloc HBr.out _) hg6 (Nat.le_refl _) (fun k hk => (World.ownsRow.lt HO.out k hk).1); clear ho6 hg6)
      go_roundw
      case rel => exact ⟨k + 1, _, by omega, by go_num, rfl, HZ.out, HO6.out, HB6.out⟩
      case measure => simp [intOf]; omega
    · obtain hkk : k = l.length := by omega
      go_wp2
      go_ret3
      exact ⟨_, rfl, OwnI.mono (by have := HO.out; rw [dsums_all l k (by omega)] at this; exact this) HB.out.size, After.trans HB.out HBr.out⟩
end Go.Proofs.YtgmdolpjkaajfaaGreatDoor
